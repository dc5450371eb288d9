/- The program's own replica.knowingNothing. -/
import Derived.Test.YtmdgkjbiicaljagDoorReplMem
import Derived.Test.YtmdgkjbiicaljagDoorJointRegRow
import Derived.Deep.RegionHeld3
import Derived.BigRegion
import Derived.Deep.DeepCutAuto
namespace Go.Proofs.YtmdgkjbiicaljagDoor
open Go.RowKit
set_option linter.unusedVariables false
set_option linter.unusedSimpArgs false

def zeroKeptCells : List Value := [.int .i64 0, .int .i64 0, .bool false, .slice none 0 0, .int .i64 0]
theorem mkInts (w : World) : (Instr.makeSlice 26 (.int .i64 3) (.int .i64 3)).run Tryd.prog w = .ok (.slice (some ⟨w.heap.size, 0, none⟩) 3 3) (w.alloc (.cells #[.int .i64 0, .int .i64 0, .int .i64 0] 3)) := by kernel_rfl
theorem mkBools (w : World) : (Instr.makeSlice 27 (.int .i64 3) (.int .i64 3)).run Tryd.prog w = .ok (.slice (some ⟨w.heap.size, 0, none⟩) 3 3) (w.alloc (.cells #[.bool false, .bool false, .bool false] 4)) := by kernel_rfl
theorem mkKepts (w : World) : (Instr.makeSlice 28 (.int .i64 3) (.int .i64 3)).run Tryd.prog w = .ok (.slice (some ⟨w.heap.size, 0, none⟩) 3 3) (w.alloc (.cells #[.int .i64 0, .int .i64 0, .bool false, .slice none 0 0, .int .i64 0, .int .i64 0, .int .i64 0, .bool false, .slice none 0 0, .int .i64 0, .int .i64 0, .int .i64 0, .bool false, .slice none 0 0, .int .i64 0] 25)) := by kernel_rfl

def zI : List Value := [.int .i64 0, .int .i64 0, .int .i64 0]
def zB : List Value := [.bool false, .bool false, .bool false]
def zK : List Value := [.int .i64 0, .int .i64 0, .bool false, .slice none 0 0, .int .i64 0, .int .i64 0, .int .i64 0, .bool false, .slice none 0 0, .int .i64 0, .int .i64 0, .int .i64 0, .bool false, .slice none 0 0, .int .i64 0]
def row3 (b : Nat) : Value := .slice (some ⟨b, 0, none⟩) 3 3
def RowB (B : Nat) (t : TypeId) (cs : List Value) (v : Value) (W : World) : Prop := ∃ b, v = row3 b ∧ B ≤ b ∧ Box W b t cs
/-- The four rows of a replica that knows nothing. -/
def Four (B : Nat) (W : World) (bh bw bg bn : Nat) : Prop := bw ≠ bn ∧ B ≤ bh ∧ B ≤ bw ∧ B ≤ bg ∧ B ≤ bn ∧ Box W bh 3 zI ∧ Box W bw 4 zB ∧ Box W bg 25 zK ∧ Box W bn 4 zB
theorem Four.below {B : Nat} {W W' : World} {bh bw bg bn : Nat} (h : Four B W bh bw bg bn) (hb : Below W.heap.size W W') : Four B W' bh bw bg bn :=
  ⟨h.1, h.2.1, h.2.2.1, h.2.2.2.1, h.2.2.2.2.1, h.2.2.2.2.2.1.below hb h.2.2.2.2.2.1.lt, h.2.2.2.2.2.2.1.below hb h.2.2.2.2.2.2.1.lt, h.2.2.2.2.2.2.2.1.below hb h.2.2.2.2.2.2.2.1.lt, h.2.2.2.2.2.2.2.2.below hb h.2.2.2.2.2.2.2.2.lt⟩
theorem Four.other {B : Nat} {W : World} {bh bw bg bn : Nat} (h : Four B W bh bw bg bn) {a : Addr} (ha : a.block < B) (v : Value) : Four B (W.setCell a v) bh bw bg bn := by
  obtain ⟨h0, h1, h2, h3, h4, h5, h6, h7, h8⟩ := h
  exact ⟨h0, h1, h2, h3, h4, h5.other v (by omega), h6.other v (by omega), h7.other v (by omega), h8.other v (by omega)⟩
theorem RowB.below {B : Nat} {t : TypeId} {cs : List Value} {v : Value} {W W' : World} (h : RowB B t cs v W) (hb : Below W.heap.size W W') : RowB B t cs v W' := by
  obtain ⟨b, h1, h2, h3⟩ := h
  exact ⟨b, h1, h2, h3.below hb h3.lt⟩
theorem RowB.other {B : Nat} {t : TypeId} {cs : List Value} {v : Value} {W : World} (h : RowB B t cs v W) {a : Addr} (ha : a.block < B) (u : Value) : RowB B t cs v (W.setCell a u) := by
  obtain ⟨b, h1, h2, h3⟩ := h
  exact ⟨b, h1, h2, h3.other u (by omega)⟩
def knowPr (kv : Value) (me : Int) (cs4 : List Value) (B br : Nat) : Nat → Value → World → Prop
  | 0, v, _ => v = .int .i64 me
  | 1, v, _ => v = kv
  | 2, v, W => RowB B 3 zI v W
  | 3, v, W => RowB B 4 zB v W
  | 4, v, W => RowB B 25 zK v W
  | 5, v, W => RowB B 4 zB v W
  | 6, v, W => ∃ bh bw bg bn, Four B W bh bw bg bn ∧ v = .agg (cs4 ++ [row3 bh, row3 bw, row3 bg, row3 bn]).toArray
  | 7, _, W => ∃ bh bw bg bn, Four B W bh bw bg bn ∧ Box W br 30 (cs4 ++ [row3 bh, row3 bw, row3 bg, row3 bn])
  | _, _, _ => True
theorem knowPr_below {kv : Value} {me : Int} {cs4 : List Value} {B br : Nat} {W W' : World} (hb : Below W.heap.size W W') : ∀ (j : Nat) (u : Value), knowPr kv me cs4 B br j u W → knowPr kv me cs4 B br j u W'
  | 0, _, h => h
  | 1, _, h => h
  | 2, _, h => RowB.below h hb
  | 3, _, h => RowB.below h hb
  | 4, _, h => RowB.below h hb
  | 5, _, h => RowB.below h hb
  | 6, _, h => by obtain ⟨bh, bw, bg, bn, hf, hv⟩ := h; exact ⟨bh, bw, bg, bn, hf.below hb, hv⟩
  | 7, _, h => by obtain ⟨bh, bw, bg, bn, hf, hv⟩ := h; exact ⟨bh, bw, bg, bn, hf.below hb, hv.below hb hv.lt⟩
  | _ + 8, _, _ => trivial
theorem knowPr_set {kv : Value} {me : Int} {cs4 : List Value} {B br : Nat} {W : World} {a : Addr} (ha : a.block < B) {i : Nat} (hi : i = 7) (x : Value) : ∀ (j : Nat) (u : Value), j ≠ i → knowPr kv me cs4 B br j u W → knowPr kv me cs4 B br j u (W.setCell a x)
  | 0, _, _, h => h
  | 1, _, _, h => h
  | 2, _, _, h => RowB.other h ha x
  | 3, _, _, h => RowB.other h ha x
  | 4, _, _, h => RowB.other h ha x
  | 5, _, _, h => RowB.other h ha x
  | 6, _, _, h => by obtain ⟨bh, bw, bg, bn, hf, hv⟩ := h; exact ⟨bh, bw, bg, bn, hf.other ha x, hv⟩
  | 7, _, hj, _ => absurd hi.symm hj
  | _ + 8, _, _, _ => trivial
theorem Four.base {B B' : Nat} {W : World} {bh bw bg bn : Nat} (h : Four B W bh bw bg bn) (hb : B' ≤ B) : Four B' W bh bw bg bn := by
  obtain ⟨h0, h1, h2, h3, h4, h5⟩ := h
  exact ⟨h0, by omega, by omega, by omega, by omega, h5⟩
theorem knowPr_lt {kv : Value} {me : Int} {cs4 : List Value} {B br : Nat} {W : World} (hk : kv.ownBlock = none) : ∀ (j : Nat) (u : Value), j < 6 → knowPr kv me cs4 B br j u W → ∀ k, u.ownBlock = some k → k < W.heap.size
  | 0, _, _, h, k, hk' => by cases h; cases hk'
  | 1, _, _, h, k, hk' => by cases h; rw [hk] at hk'; cases hk'
  | 2, _, _, h, k, hk' => by obtain ⟨b, rfl, _, hB⟩ := h; cases hk'; exact hB.lt
  | 3, _, _, h, k, hk' => by obtain ⟨b, rfl, _, hB⟩ := h; cases hk'; exact hB.lt
  | 4, _, _, h, k, hk' => by obtain ⟨b, rfl, _, hB⟩ := h; cases hk'; exact hB.lt
  | 5, _, _, h, k, hk' => by obtain ⟨b, rfl, _, hB⟩ := h; cases hk'; exact hB.lt

set_option maxRecDepth 4000 in
set_option maxHeartbeats 4000000 in
theorem knowing_any (me : Int) (K : KeptM) (av : Option Addr) (n cv : Nat) (w : World) :
    Calls Tryd.prog 20 #[.int .i64 me, .agg #[.int .i64 K.view, .int .i64 K.normal, .bool K.calm, .slice av n cv, .int .i64 K.commit]] w fun e w' => ∃ bh bw bg bn, e = .returned (.agg #[.int .i64 me, .int .i64 K.view, .int .i64 K.normal, .bool K.calm, .slice av n cv, .int .i64 K.commit, row3 bh, row3 bw, row3 bg, row3 bn]) ∧ Four w.heap.size w' bh bw bg bn ∧ Below w.heap.size w w' := by
  obtain ⟨vi, nm, cm, l, ct⟩ := K
  simp only
  obtain ⟨b0, b1, hb⟩ := boxes2 w 25 30 [.int .i64 vi, .int .i64 nm, .bool cm, .slice av n cv, .int .i64 ct] [.int .i64 0, .int .i64 0, .int .i64 0, .bool false, .slice none 0 0, .int .i64 0, .slice none 0 0, .slice none 0 0, .slice none 0 0, .slice none 0 0]
  obtain ⟨w0, hw0⟩ : ∃ w0, w0 = (w.alloc (.cells #[.int .i64 vi, .int .i64 nm, .bool cm, .slice av n cv, .int .i64 ct] 25)).alloc (.cells #[.int .i64 0, .int .i64 0, .int .i64 0, .bool false, .slice none 0 0, .int .i64 0, .slice none 0 0, .slice none 0 0, .slice none 0 0, .slice none 0 0] 30) := ⟨_, rfl⟩
  have hsz : w0.heap.size = w.heap.size + 1 + 1 := by rw [hw0]; simp
  go_enter Tryd.func20, Tryd.ntmps20
  go_upto_region 1 with fail
  rw [← hw0] at b0 b1 hb ⊢
  clear hw0
  refine wp_region_rows (by kernel_rfl) (by kernel_rfl) (by kernel_rfl) (by kernel_rfl) (by kernel_rfl)
    (fun W => Below w.heap.size w W ∧ w.heap.size + 2 ≤ W.heap.size ∧ Box W w.heap.size 25 [.int .i64 vi, .int .i64 nm, .bool cm, .slice av n cv, .int .i64 ct] ∧ ∃ c0 c1 c2 c3 c4 c5 c6 c7 c8 c9, Box W (w.heap.size + 1) 30 [c0, c1, c2, c3, c4, c5, c6, c7, c8, c9])
    (knowPr (.agg #[.int .i64 vi, .int .i64 nm, .bool cm, .slice av n cv, .int .i64 ct]) me [.int .i64 me, .int .i64 vi, .int .i64 nm, .bool cm, .slice av n cv, .int .i64 ct] (w.heap.size + 2) (w.heap.size + 1))
    (fun i j u v => i < 6 → j < 6 → Asunder u v) ⟨hb.drew, by show _ ≤ w0.heap.size; omega, b0, _, _, _, _, _, _, _, _, _, _, b1⟩ ?_ ?_
  · intro i hi a W vs hG hout hdep hdA
    obtain ⟨hB, hS, hb0, c0, c1, c2, c3, c4, c5, c6, c7, c8, c9, hb1⟩ := hG
    match i, hi with
    | 0, _ =>
      have e0 : a.tmps.getD 0 undef = .int .i64 me := hout 0 (by kernel_rfl)
      refine op_value (v := .int .i64 me) (w' := W) ?_ ⟨_, rfl, ⟨hB, hS, hb0, _, _, _, _, _, _, _, _, _, _, hb1⟩, rfl, fun j u _ h => ⟨h, fun _ _ k h1 h2 => by cases h2⟩⟩
      show (execOp a.eval { dst := _, op := .move (.tmp 0), type := _, pos := _, after := _, guard := _ }).run Tryd.prog W = _
      simp [execOp, Act.eval, e0, go_sem]
    | 1, _ =>
      have e0 : a.tmps.getD 3 undef = .pointer (some ⟨w.heap.size, 0, none⟩) := hout 3 (by kernel_rfl)
      have x0 := hb0.cell 0 _ rfl
      have x1 := hb0.cell 1 _ rfl
      have x2 := hb0.cell 2 _ rfl
      have x3 := hb0.cell 3 _ rfl
      have x4 := hb0.cell 4 _ rfl
      refine op_value (v := .agg #[.int .i64 vi, .int .i64 nm, .bool cm, .slice av n cv, .int .i64 ct]) (w' := W) ?_ ⟨_, rfl, ⟨hB, hS, hb0, _, _, _, _, _, _, _, _, _, _, hb1⟩, rfl, fun j u _ h => ⟨h, fun _ _ k h1 h2 => by cases h2⟩⟩
      show (execOp a.eval { dst := _, op := .load 25 (.tmp 3), type := _, pos := _, after := _, guard := _ }).run Tryd.prog W = _
      clear hout hdep hdA
      simp [execOp, Act.eval, e0, go_sem, x0, x1, x2, x3, x4]
    | 2, _ =>
      refine op_value (v := row3 W.heap.size) (w' := W.alloc (.cells zI.toArray 3)) ?_ ⟨_, rfl, ⟨hB.alloc hB.size _, by simp; omega, hb0.alloc _, _, _, _, _, _, _, _, _, _, _, hb1.alloc _⟩, ⟨_, rfl, hS, Box.new W _ _⟩, fun j u _ h => ⟨knowPr_below (below_alloc W _) j u h, fun hj _ k h1 h2 => ?_⟩⟩
      · show (execOp a.eval { dst := _, op := .makeSlice _ (.const (.int .i64 3)) (.const (.int .i64 3)), type := _, pos := _, after := _, guard := _ }).run Tryd.prog W = _
        simp only [execOp, Act.eval, Sem.run_bind]
        rw [mkInts W]
        rfl
      · have := knowPr_lt rfl j u hj h k h1
        have h3 : some W.heap.size = some k := h2
        injection h3 with h3
        omega
    | 3, _ =>
      refine op_value (v := row3 W.heap.size) (w' := W.alloc (.cells zB.toArray 4)) ?_ ⟨_, rfl, ⟨hB.alloc hB.size _, by simp; omega, hb0.alloc _, _, _, _, _, _, _, _, _, _, _, hb1.alloc _⟩, ⟨_, rfl, hS, Box.new W _ _⟩, fun j u _ h => ⟨knowPr_below (below_alloc W _) j u h, fun hj _ k h1 h2 => ?_⟩⟩
      · show (execOp a.eval { dst := _, op := .makeSlice _ (.const (.int .i64 3)) (.const (.int .i64 3)), type := _, pos := _, after := _, guard := _ }).run Tryd.prog W = _
        simp only [execOp, Act.eval, Sem.run_bind]
        rw [mkBools W]
        rfl
      · have := knowPr_lt rfl j u hj h k h1
        have h3 : some W.heap.size = some k := h2
        injection h3 with h3
        omega
    | 4, _ =>
      refine op_value (v := row3 W.heap.size) (w' := W.alloc (.cells zK.toArray 25)) ?_ ⟨_, rfl, ⟨hB.alloc hB.size _, by simp; omega, hb0.alloc _, _, _, _, _, _, _, _, _, _, _, hb1.alloc _⟩, ⟨_, rfl, hS, Box.new W _ _⟩, fun j u _ h => ⟨knowPr_below (below_alloc W _) j u h, fun hj _ k h1 h2 => ?_⟩⟩
      · show (execOp a.eval { dst := _, op := .makeSlice _ (.const (.int .i64 3)) (.const (.int .i64 3)), type := _, pos := _, after := _, guard := _ }).run Tryd.prog W = _
        simp only [execOp, Act.eval, Sem.run_bind]
        rw [mkKepts W]
        rfl
      · have := knowPr_lt rfl j u hj h k h1
        have h3 : some W.heap.size = some k := h2
        injection h3 with h3
        omega
    | 5, _ =>
      refine op_value (v := row3 W.heap.size) (w' := W.alloc (.cells zB.toArray 4)) ?_ ⟨_, rfl, ⟨hB.alloc hB.size _, by simp; omega, hb0.alloc _, _, _, _, _, _, _, _, _, _, _, hb1.alloc _⟩, ⟨_, rfl, hS, Box.new W _ _⟩, fun j u _ h => ⟨knowPr_below (below_alloc W _) j u h, fun hj _ k h1 h2 => ?_⟩⟩
      · show (execOp a.eval { dst := _, op := .makeSlice _ (.const (.int .i64 3)) (.const (.int .i64 3)), type := _, pos := _, after := _, guard := _ }).run Tryd.prog W = _
        simp only [execOp, Act.eval, Sem.run_bind]
        rw [mkBools W]
        rfl
      · have := knowPr_lt rfl j u hj h k h1
        have h3 : some W.heap.size = some k := h2
        injection h3 with h3
        omega
    | 6, _ =>
      obtain ⟨p0, e0⟩ := hdep 0 (by kernel_rfl)
      obtain ⟨p1, e1⟩ := hdep 1 (by kernel_rfl)
      obtain ⟨⟨bh, p2, q2, r2⟩, e2⟩ := hdep 2 (by kernel_rfl)
      obtain ⟨⟨bw, p3, q3, r3⟩, e3⟩ := hdep 3 (by kernel_rfl)
      obtain ⟨⟨bg, p4, q4, r4⟩, e4⟩ := hdep 4 (by kernel_rfl)
      obtain ⟨⟨bn, p5, q5, r5⟩, e5⟩ := hdep 5 (by kernel_rfl)
      have p0 : vs 0 = .int .i64 me := p0
      have p1 : vs 1 = .agg #[.int .i64 vi, .int .i64 nm, .bool cm, .slice av n cv, .int .i64 ct] := p1
      have f0 := e0 5 (by kernel_rfl)
      have f1 := e1 6 (by kernel_rfl)
      have f2 := e2 7 (by kernel_rfl)
      have f3 := e3 8 (by kernel_rfl)
      have f4 := e4 9 (by kernel_rfl)
      have f5 := e5 10 (by kernel_rfl)
      have hne : bw ≠ bn := fun e => by
        subst e
        rcases hdA 3 5 (by decide) (by kernel_rfl) (by kernel_rfl) with h | h
        · exact h (by decide) (by decide) bw (by rw [p3]; rfl) (by rw [p5]; rfl)
        · exact h (by decide) (by decide) bw (by rw [p5]; rfl) (by rw [p3]; rfl)
      rw [p0] at f0
      rw [p1] at f1
      rw [p2] at f2
      rw [p3] at f3
      rw [p4] at f4
      rw [p5] at f5
      refine op_value (v := .agg #[.int .i64 me, .int .i64 vi, .int .i64 nm, .bool cm, .slice av n cv, .int .i64 ct, row3 bh, row3 bw, row3 bg, row3 bn]) (w' := W) ?_ ⟨_, rfl, ⟨hB, hS, hb0, _, _, _, _, _, _, _, _, _, _, hb1⟩, ⟨bh, bw, bg, bn, ⟨hne, q2, q3, q4, q5, r2, r3, r4, r5⟩, rfl⟩, fun j u _ h => ⟨h, fun _ h6 => absurd h6 (by decide)⟩⟩
      show (execOp a.eval { dst := _, op := .build 30 #[(0, .tmp 5), (1, .tmp 6), (2, .tmp 7), (3, .tmp 8), (4, .tmp 9), (5, .tmp 10)], type := _, pos := _, after := _, guard := _ }).run Tryd.prog W = _
      clear hout hdep hdA
      simp only [Array.getD_eq_getD_getElem?] at f0 f1 f2 f3 f4 f5
      simp [execOp, Act.eval, f0, f1, f2, f3, f4, f5, go_sem, row3]
    | 7, _ =>
      obtain ⟨⟨bh, bw, bg, bn, hF, p6⟩, e6⟩ := hdep 6 (by kernel_rfl)
      have g6 := e6 11 (by kernel_rfl)
      rw [p6] at g6
      have e0 : a.tmps.getD 4 undef = .pointer (some ⟨w.heap.size + 1, 0, none⟩) := hout 4 (by kernel_rfl)
      have y0 := hb1.cell 0 _ rfl
      have y1 := hb1.cell 1 _ rfl
      have y2 := hb1.cell 2 _ rfl
      have y3 := hb1.cell 3 _ rfl
      have y4 := hb1.cell 4 _ rfl
      have y5 := hb1.cell 5 _ rfl
      have y6 := hb1.cell 6 _ rfl
      have y7 := hb1.cell 7 _ rfl
      have y8 := hb1.cell 8 _ rfl
      have y9 := hb1.cell 9 _ rfl
      have f0 := hb1.frozen 0
      have f1 := hb1.frozen 1
      have f2 := hb1.frozen 2
      have f3 := hb1.frozen 3
      have f4 := hb1.frozen 4
      have f5 := hb1.frozen 5
      have f6 := hb1.frozen 6
      have f7 := hb1.frozen 7
      have f8 := hb1.frozen 8
      have f9 := hb1.frozen 9
      refine op_skip (w' := (((((((((W.setCell ⟨w.heap.size + 1, 0, none⟩ (.int .i64 me)).setCell ⟨w.heap.size + 1, 1, none⟩ (.int .i64 vi)).setCell ⟨w.heap.size + 1, 2, none⟩ (.int .i64 nm)).setCell ⟨w.heap.size + 1, 3, none⟩ (.bool cm)).setCell ⟨w.heap.size + 1, 4, none⟩ (.slice av n cv)).setCell ⟨w.heap.size + 1, 5, none⟩ (.int .i64 ct)).setCell ⟨w.heap.size + 1, 6, none⟩ (row3 bh)).setCell ⟨w.heap.size + 1, 7, none⟩ (row3 bw)).setCell ⟨w.heap.size + 1, 8, none⟩ (row3 bg)).setCell ⟨w.heap.size + 1, 9, none⟩ (row3 bn)) ?_ ?_
      · show (execOp a.eval { dst := _, op := .store 30 (.tmp 4) (.tmp 11), type := _, pos := _, after := _, guard := _ }).run Tryd.prog W = _
        clear hout hdep hdA
        simp only [Array.getD_eq_getD_getElem?] at e0 g6
        simp [execOp, Act.eval, e0, g6, go_sem, row3, *]
      · have R := ((((((((((hb1.set 0 (.int .i64 me)).set 1 (.int .i64 vi)).set 2 (.int .i64 nm)).set 3 (.bool cm)).set 4 (.slice av n cv)).set 5 (.int .i64 ct)).set 6 (row3 bh)).set 7 (row3 bw)).set 8 (row3 bg)).set 9 (row3 bn))
        refine ⟨_, rfl, ⟨?_, ?_, ?_, _, _, _, _, _, _, _, _, _, _, R⟩, ⟨bh, bw, bg, bn, ?_, R⟩, fun j u hj h => ⟨?_, fun _ h6 => absurd h6 (by decide)⟩⟩
        · exact (((((((((hB.setCell (by simp) _).setCell (by simp) _).setCell (by simp) _).setCell (by simp) _).setCell (by simp) _).setCell (by simp) _).setCell (by simp) _).setCell (by simp) _).setCell (by simp) _).setCell (by simp) _
        · simpa using hS
        · exact (((((((((hb0.other _ (by simp)).other _ (by simp)).other _ (by simp)).other _ (by simp)).other _ (by simp)).other _ (by simp)).other _ (by simp)).other _ (by simp)).other _ (by simp)).other _ (by simp)
        · exact (((((((((hF.other (by simp) _).other (by simp) _).other (by simp) _).other (by simp) _).other (by simp) _).other (by simp) _).other (by simp) _).other (by simp) _).other (by simp) _).other (by simp) _
        · refine knowPr_set (by simp) (by decide) _ j u hj (knowPr_set (by simp) (by decide) _ j u hj (knowPr_set (by simp) (by decide) _ j u hj (knowPr_set (by simp) (by decide) _ j u hj (knowPr_set (by simp) (by decide) _ j u hj (knowPr_set (by simp) (by decide) _ j u hj (knowPr_set (by simp) (by decide) _ j u hj (knowPr_set (by simp) (by decide) _ j u hj (knowPr_set (by simp) (by decide) _ j u hj (knowPr_set (by simp) (by decide) _ j u hj h)))))))))
  · intro vs W hG hP hA
    obtain ⟨hB, hS, hb0, _⟩ := hG
    obtain ⟨bh, bw, bg, bn, hF, hR⟩ := hP 7 (by decide)
    have y0 := hR.cell 0 _ rfl
    have y1 := hR.cell 1 _ rfl
    have y2 := hR.cell 2 _ rfl
    have y3 := hR.cell 3 _ rfl
    have y4 := hR.cell 4 _ rfl
    have y5 := hR.cell 5 _ rfl
    have y6 := hR.cell 6 _ rfl
    have y7 := hR.cell 7 _ rfl
    have y8 := hR.cell 8 _ rfl
    have y9 := hR.cell 9 _ rfl
    have HF : Hid (Four w.heap.size W bh bw bg bn) := hF.base (by omega)
    have HB : Hid (Below w.heap.size w W) := hB
    clear hP hA hF hR hB hS hb0 hb b0 b1 hsz
    simp only [fillGo, Act.put]
    go_wp2_with fail
    exact bodyPost_ret (v := .agg #[.int .i64 me, .int .i64 vi, .int .i64 nm, .bool cm, .slice av n cv, .int .i64 ct, row3 bh, row3 bw, row3 bg, row3 bn]) (by clear HB HF; simp [results, Tryd.results20, go_sem, row3, *]) rfl ⟨_, _, _, _, rfl, HF.out, HB.out⟩

end Go.Proofs.YtmdgkjbiicaljagDoor
