/- The program's own: a view begins. -/
import Derived.Test.YtmdgkjbiicaljagDoorKeepGo
namespace Go.Proofs.YtmdgkjbiicaljagDoor
open Go.RowKit
set_option linter.unusedVariables false
set_option linter.unusedSimpArgs false

abbrev KV := KeptM × Value
def pickP (q0 : KV) (l : List KV) : KV := l.foldl (fun b k => if betterK k.1 b.1 = true then k else b) q0
def commitP (l : List KV) : Int := l.foldl (fun c k => max c k.1.commit) 0
theorem pickP_snoc (q0 : KV) (l : List KV) (x : KV) : pickP q0 (l ++ [x]) = if betterK x.1 (pickP q0 l).1 = true then x else pickP q0 l := by unfold pickP; rw [List.foldl_append]; rfl
theorem commitP_snoc (l : List KV) (x : KV) : commitP (l ++ [x]) = max (commitP l) x.1.commit := by unfold commitP; rw [List.foldl_append]; rfl
theorem pickP_mem (q0 : KV) : ∀ (l : List KV), pickP q0 l = q0 ∨ pickP q0 l ∈ l := by
  intro l
  induction l generalizing q0 with
  | nil => exact Or.inl rfl
  | cons x l ih =>
    show pickP (if betterK x.1 q0.1 = true then x else q0) l = q0 ∨ pickP (if betterK x.1 q0.1 = true then x else q0) l ∈ x :: l
    split
    · rcases ih x with e | e
      · right; rw [e]; simp
      · right; exact List.mem_cons_of_mem _ e
    · rcases ih q0 with e | e
      · left; exact e
      · right; exact List.mem_cons_of_mem _ e

set_option maxRecDepth 4000 in
set_option maxHeartbeats 8000000 in
theorem begin_any (b B : Nat) (R : ReplM) (L : List MsgM) (q0 : KV) (qs : List KV) (v : Value) (w : World) (h : TurnAt w b B R L) (hv : w.ownsRow B 25 5 v (q0 :: qs).length ((q0 :: qs).flatMap keptRow))
    (hq : ∀ p ∈ q0 :: qs, w.ownsRow B 9 1 p.2 p.1.log.length (p.1.log.map enc)) (hz : ∀ p ∈ q0 :: qs, TextsIn p.1.log) (hlq : qs.length ≤ 10) (hn : L.length ≤ 900) (hB : B ≤ w.heap.size) :
    Calls Tryd.prog 61 #[.pointer (some ⟨b, 0, none⟩), v] w fun e w' => e = .returned (.tuple #[]) ∧
      TurnAt w' b B (forgot ⟨R.me, ⟨R.kept.view, R.kept.view, true, (pickP q0 (q0 :: qs)).1.log, min (commitP (q0 :: qs)) (pickP q0 (q0 :: qs)).1.log.length⟩, [], [], [], []⟩) (L ++ ledBy (forgot ⟨R.me, ⟨R.kept.view, R.kept.view, true, (pickP q0 (q0 :: qs)).1.log, min (commitP (q0 :: qs)) (pickP q0 (q0 :: qs)).1.log.length⟩, [], [], [], []⟩)) ∧ Beside B b w w' := by
  obtain ⟨l, hl⟩ : ∃ l, l = q0 :: qs := ⟨_, rfl⟩
  have HL0 : Hid (l[0]? = some q0 ∧ 0 < l.length ∧ l.length ≤ 11) := by rw [hl]; exact ⟨rfl, by simp, by simp; omega⟩
  have HPM : Hid (∀ k, pickP q0 (l.take k) ∈ l) := fun k => by
    rcases pickP_mem q0 (l.take k) with e | e
    · rw [e, hl]; simp
    · exact List.mem_of_mem_take e
  rw [← hl] at hv hq hz ⊢
  clear hl
  obtain ⟨a0, c0, rfl⟩ := own_formN hv
  have HV : Hid (w.ownsRow B _ _ _ _ _) := hv
  have HQ : Hid (∀ p ∈ l, w.ownsRow B 9 1 p.2 p.1.log.length (p.1.log.map enc)) := hq
  have HZ : Hid (∀ p ∈ l, TextsIn p.1.log) := hz
  have HC : Hid (∀ k (hk : k < l.length) j, j < 5 → ∃ g c, (Value.slice a0 l.length c0) = .slice (some ⟨g, 0, none⟩) l.length c ∧ w.cell? ⟨g, k * 5 + j, none⟩ = (keptRow l[k])[j]?) := fun k hk j hj => by
    obtain ⟨g, c, hv', _, _, hc, _⟩ := own_cellN hv (by decide) (k * 5 + j) (by omega)
    refine ⟨g, c, hv', ?_⟩
    rw [hc, flat_get keptRow 5 keptRow_len l k j l[k] (List.getElem?_eq_getElem hk) hj]
  have HKA : Hid (∀ p ∈ l, ∀ W, Below w.heap.size w W → KeptAt W (.agg (keptCells p.1 p.2).toArray) p.1) := fun p hp W hW =>
    ⟨p.2, rfl, Strs.of_own (own_below (hq p hp) hW (own_lt (hq p hp))) (by have := (hz p hp).1; omega) (hz p hp).2⟩
  have HFM : Hid (∀ p ∈ l, ∃ a c, p.2 = .slice a p.1.log.length c) := fun p hp => own_form (hq p hp)
  have HT : Hid (TurnAt w b B R L) := h
  obtain ⟨vl, vh, vw, vg, vn, vs, ps, hx, ho, hmn⟩ := h
  have HX : Hid (Box w b _ _) := hx
  have HM : Hid (MsgsNew w B vs L) := hmn
  have lw : 0 < l.length := HL0.out.2.1
  have e0 : l[0] = q0 := by have := HL0.out.1; rw [List.getElem?_eq_getElem lw] at this; exact Option.some.inj this
  obtain ⟨g, c, e1, d0⟩ := HC.out 0 lw 0 (by omega)
  obtain ⟨g1, c1, e2, d1⟩ := HC.out 0 lw 1 (by omega)
  obtain ⟨g2, c2, e3, d2⟩ := HC.out 0 lw 2 (by omega)
  obtain ⟨g3, c3, e4, d3⟩ := HC.out 0 lw 3 (by omega)
  obtain ⟨g4, c4, e5, d4⟩ := HC.out 0 lw 4 (by omega)
  simp only [Value.slice.injEq, true_and] at e1
  obtain ⟨rfl, rfl⟩ := e1
  simp only [Value.slice.injEq, true_and, Option.some.injEq, Addr.mk.injEq, and_true] at e2 e3 e4 e5
  obtain ⟨rfl, rfl⟩ := e2
  obtain ⟨rfl, rfl⟩ := e3
  obtain ⟨rfl, rfl⟩ := e4
  obtain ⟨rfl, rfl⟩ := e5
  rw [e0] at d0 d1 d2 d3 d4
  have hfm := HFM.out q0 (by rw [← e0]; exact List.getElem_mem lw)
  have HQ0 : Hid (q0 ∈ l) := (show q0 ∈ l from by rw [← e0]; exact List.getElem_mem lw)
  obtain ⟨aq, cq, hfq⟩ := hfm
  simp only [keptRow, keptCells, List.getElem?_cons_zero, List.getElem?_cons_succ, hfq, Nat.zero_mul, Nat.zero_add] at d0 d1 d2 d3 d4
  have kl : (0 : Int) < (l.length : Int) := by omega
  have HFQ : Hid (q0.2 = .slice aq q0.1.log.length cq) := hfq
  have x0 := hx.cell 0 _ rfl
  have x1 := hx.cell 1 _ rfl
  have x2 := hx.cell 2 _ rfl
  have x3 := hx.cell 3 _ rfl
  have x4 := hx.cell 4 _ rfl
  have x5 := hx.cell 5 _ rfl
  have x6 := hx.cell 6 _ rfl
  have x7 := hx.cell 7 _ rfl
  have x8 := hx.cell 8 _ rfl
  have x9 := hx.cell 9 _ rfl
  have x10 := hx.cell 10 _ rfl
  clear hx ho hmn hv hq hz e0 hfq lw
  go_enter Tryd.func61, Tryd.ntmps61
  have HB1 : Hid (Below w.heap.size w (w.alloc (.cells #[.int .i64 q0.1.view, .int .i64 q0.1.normal, .bool q0.1.calm, .slice aq q0.1.log.length cq, .int .i64 q0.1.commit] 25))) := below_alloc _ _
  have HX1 : Hid (Box (w.alloc (.cells #[.int .i64 q0.1.view, .int .i64 q0.1.normal, .bool q0.1.calm, .slice aq q0.1.log.length cq, .int .i64 q0.1.commit] 25)) w.heap.size 25 (keptRow q0)) := by
    have := Box.new w 25 [.int .i64 q0.1.view, .int .i64 q0.1.normal, .bool q0.1.calm, .slice aq q0.1.log.length cq, .int .i64 q0.1.commit]
    unfold Hid keptRow keptCells
    rw [HFQ.out]
    exact this
  go_upto_region 1 with fail
  generalize hw1 : w.alloc _ = w1 at HB1 HX1 ⊢
  clear hw1 d0 d1 d2 d3 d4 x0 x1 x2 x3 x4 x5 x6 x7 x8 x9 x10
  go_wp2_with fail
  go_loopw [5, 14] (fun s5 i wr => ∃ k : Nat, k ≤ l.length ∧ i = .int .i64 k ∧ s5 = .int .i64 (commitP (l.take k)) ∧ Box wr w.heap.size 25 (keptRow (pickP q0 (l.take k))) ∧ Below w.heap.size w wr) (fun s5 i wr => l.length - (intOf i).toNat)
  case atStart => exact ⟨0, by omega, rfl, rfl, HX1.out, HB1.out⟩
  case round =>
    clear HX1 HB1
    obtain ⟨k, hk, rfl, rfl, hbx, hbr⟩ := hrel
    have HBR : Hid (Below w.heap.size w wr) := hbr
    have HBX : Hid (Box wr w.heap.size _ _) := hbx
    obtain ⟨best, hbest⟩ : ∃ best, best = pickP q0 (l.take k) := ⟨_, rfl⟩
    obtain ⟨CM, hcm⟩ : ∃ CM, CM = commitP (l.take k) := ⟨_, rfl⟩
    have HBM : Hid (best ∈ l) := by rw [hbest]; exact HPM.out k
    have HBE : Hid (best = pickP q0 (l.take k)) := hbest
    have HCM : Hid (CM = commitP (l.take k)) := hcm
    rw [← hbest] at HBX hbx
    rw [← hcm]
    clear hbest hcm
    obtain ⟨⟨bv, bn, bm, bl, bt⟩, bk⟩ := best
    obtain ⟨ab, cb, hbk⟩ := HFM.out _ HBM.out
    have hbk : bk = .slice ab bl.length cb := hbk
    subst hbk
    simp only [keptRow, keptCells] at HBX hbx
    have hl11 : l.length ≤ 11 := HL0.out.2.2
    by_cases hlt : k < l.length
    · have k0 : (0 : Int) ≤ (k : Int) := by omega
      have k1 : (k : Int) < (l.length : Int) := by omega
      obtain ⟨g', c', e1, d0⟩ := HC.out k hlt 0 (by omega)
      obtain ⟨g1, c1, e2, d1⟩ := HC.out k hlt 1 (by omega)
      obtain ⟨g2, c2, e3, d2⟩ := HC.out k hlt 2 (by omega)
      obtain ⟨g3, c3, e4, d3⟩ := HC.out k hlt 3 (by omega)
      obtain ⟨g4, c4, e5, d4⟩ := HC.out k hlt 4 (by omega)
      simp only [Value.slice.injEq, true_and, Option.some.injEq, Addr.mk.injEq, and_true] at e1 e2 e3 e4 e5
      obtain ⟨rfl, rfl⟩ := e1
      obtain ⟨rfl, rfl⟩ := e2
      obtain ⟨rfl, rfl⟩ := e3
      obtain ⟨rfl, rfl⟩ := e4
      obtain ⟨rfl, rfl⟩ := e5
      obtain ⟨p, hp⟩ : ∃ p, p = l[k] := ⟨_, rfl⟩
      have HP : Hid (p ∈ l ∧ l.take (k + 1) = l.take k ++ [p]) := by
        refine ⟨by rw [hp]; exact List.getElem_mem hlt, ?_⟩
        rw [hp]; exact List.take_succ_eq_append_getElem hlt
      rw [← hp] at d0 d1 d2 d3 d4
      clear hp
      obtain ⟨⟨pv, pn, pm, pl, pt⟩, pk⟩ := p
      obtain ⟨ap, cp, hpk⟩ := HFM.out _ HP.out.1
      have hpk : pk = .slice ap pl.length cp := hpk
      subst hpk
      simp only [keptRow, keptCells, List.getElem?_cons_zero, List.getElem?_cons_succ] at d0 d1 d2 d3 d4
      have d0 := keep_cell9 HBR.out d0
      have d1 := keep_cell9 HBR.out d1
      have d2 := keep_cell9 HBR.out d2
      have d3 := keep_cell9 HBR.out d3
      have d4 := keep_cell9 HBR.out d4
      rw [Nat.add_zero] at d0
      have lbx := hbx.lt
      have bp := Box.new wr 25 [.int .i64 pv, .int .i64 pn, .bool pm, .slice ap pl.length cp, .int .i64 pt]
      have bb := hbx.alloc (.cells #[.int .i64 pv, .int .i64 pn, .bool pm, .slice ap pl.length cp, .int .i64 pt] 25)
      have hb2 : Below w.heap.size w (wr.alloc (.cells #[.int .i64 pv, .int .i64 pn, .bool pm, .slice ap pl.length cp, .int .i64 pt] 25)) := Below.far HBR.out (below_alloc _ _)
      obtain ⟨w2, hw2⟩ : ∃ w2, w2 = wr.alloc (.cells #[.int .i64 pv, .int .i64 pn, .bool pm, .slice ap pl.length cp, .int .i64 pt] 25) := ⟨_, rfl⟩
      go_upto_region 4 with fail
      rw [← hw2] at bp bb hb2 ⊢
      clear hw2 d0 d1 d2 d3 d4 hbx hbr
      have HBP : Hid (Box w2 wr.heap.size _ _) := bp
      have HBB : Hid (Box w2 w.heap.size _ _) := bb
      have HB2 : Hid (Below w.heap.size w w2) := hb2
      have x0 := bp.cell 0 _ rfl
      have x1 := bp.cell 1 _ rfl
      have x2 := bp.cell 2 _ rfl
      have x3 := bp.cell 3 _ rfl
      have x4 := bp.cell 4 _ rfl
      have y0 := bb.cell 0 _ rfl
      have y1 := bb.cell 1 _ rfl
      have y2 := bb.cell 2 _ rfl
      have y3 := bb.cell 3 _ rfl
      have y4 := bb.cell 4 _ rfl
      clear bp bb hb2
      go_wp2_with fail
      refine (isBetter_any ⟨pv, pn, pm, pl, pt⟩ ⟨bv, bn, bm, bl, bt⟩ _ _ w2 (HKA.out _ HP.out.1 w2 HB2.out) (HKA.out _ HBM.out w2 HB2.out)).mono ?_
      rintro e w3 ⟨rfl, hb3⟩
      have bp := HBP.out.below hb3 HBP.out.lt
      have bb := HBB.out.below hb3 HBB.out.lt
      have HB3 : Hid (Below w.heap.size w w3) := Below.far HB2.out hb3
      have HBB3 : Hid (Box w3 w.heap.size _ _) := bb
      have HBP3 : Hid (Box w3 wr.heap.size _ _) := bp
      have hne : w.heap.size ≠ wr.heap.size := by omega
      clear hb3 x0 x1 x2 x3 x4 y0 y1 y2 y3 y4
      have x0 := bp.cell 0 _ rfl
      have x1 := bp.cell 1 _ rfl
      have x2 := bp.cell 2 _ rfl
      have x3 := bp.cell 3 _ rfl
      have x4 := bp.cell 4 _ rfl
      have y0 := bb.cell 0 _ rfl
      have y1 := bb.cell 1 _ rfl
      have y2 := bb.cell 2 _ rfl
      have y3 := bb.cell 3 _ rfl
      have y4 := bb.cell 4 _ rfl
      have f0 := bb.frozen 0
      have f1 := bb.frozen 1
      have f2 := bb.frozen 2
      have f3 := bb.frozen 3
      have f4 := bb.frozen 4
      clear bp bb
      by_cases hbt : betterK ⟨pv, pn, pm, pl, pt⟩ ⟨bv, bn, bm, bl, bt⟩ = true
      · rw [hbt]
        have HR : Hid (Box ((((((w3.setCell ⟨w.heap.size, 0, none⟩ (.int .i64 pv)).setCell ⟨w.heap.size, 1, none⟩ (.int .i64 pn)).setCell ⟨w.heap.size, 2, none⟩ (.bool pm)).setCell ⟨w.heap.size, 3, none⟩ (.slice ap pl.length cp)).setCell ⟨w.heap.size, 4, none⟩ (.int .i64 pt))) w.heap.size 25 (keptRow (pickP q0 (l.take (k + 1))))) := by
          rw [HP.out.2, pickP_snoc, ← HBE.out, if_pos hbt]
          exact ((((HBB3.out.set 0 _).set 1 _).set 2 _).set 3 _).set 4 _
        have HBQ : Hid (Below w.heap.size w ((((((w3.setCell ⟨w.heap.size, 0, none⟩ (.int .i64 pv)).setCell ⟨w.heap.size, 1, none⟩ (.int .i64 pn)).setCell ⟨w.heap.size, 2, none⟩ (.bool pm)).setCell ⟨w.heap.size, 3, none⟩ (.slice ap pl.length cp)).setCell ⟨w.heap.size, 4, none⟩ (.int .i64 pt)))) := ((((HB3.out.setCell (p := ⟨w.heap.size, 0, none⟩) (Nat.le_refl _) _).setCell (p := ⟨w.heap.size, 1, none⟩) (Nat.le_refl _) _).setCell (p := ⟨w.heap.size, 2, none⟩) (Nat.le_refl _) _).setCell (p := ⟨w.heap.size, 3, none⟩) (Nat.le_refl _) _).setCell (p := ⟨w.heap.size, 4, none⟩) (Nat.le_refl _) _
        have HCN : Hid (commitP (l.take (k + 1)) = max CM pt) := by unfold Hid; rw [HP.out.2, commitP_snoc, ← HCM.out]
        have HX4 : Hid (Box ((((((w3.setCell ⟨w.heap.size, 0, none⟩ (.int .i64 pv)).setCell ⟨w.heap.size, 1, none⟩ (.int .i64 pn)).setCell ⟨w.heap.size, 2, none⟩ (.bool pm)).setCell ⟨w.heap.size, 3, none⟩ (.slice ap pl.length cp)).setCell ⟨w.heap.size, 4, none⟩ (.int .i64 pt))) wr.heap.size 25 [.int .i64 pv, .int .i64 pn, .bool pm, .slice ap pl.length cp, .int .i64 pt]) := ((((HBP3.out.other (a := ⟨w.heap.size, 0, none⟩) _ hne.symm).other (a := ⟨w.heap.size, 1, none⟩) _ hne.symm).other (a := ⟨w.heap.size, 2, none⟩) _ hne.symm).other (a := ⟨w.heap.size, 3, none⟩) _ hne.symm).other (a := ⟨w.heap.size, 4, none⟩) _ hne.symm
        go_upto_region 6 with fail
        generalize hw4 : World.setCell _ ⟨w.heap.size, 4, none⟩ _ = w4 at HR HBQ HX4 ⊢
        have x4 := HX4.out.cell 4 _ rfl
        clear hw4 x0 x1 x2 x3 y0 y1 y2 y3 y4 f0 f1 f2 f3 f4
        go_upto_region 7 with fail
        rw [show (if CM < pt then pt else CM) = max CM pt from lead_max _ _]
        go_wp2_with fail
        go_roundw
        case rel => exact ⟨k + 1, by omega, by go_num, by rw [HCN.out], HR.out, HBQ.out⟩
        case measure => simp [intOf]; omega
      · have hbt' : betterK ⟨pv, pn, pm, pl, pt⟩ ⟨bv, bn, bm, bl, bt⟩ = false := by simpa using hbt
        rw [hbt']
        have HR : Hid (Box w3 w.heap.size 25 (keptRow (pickP q0 (l.take (k + 1))))) := by
          rw [HP.out.2, pickP_snoc, ← HBE.out, if_neg hbt]
          exact HBB3.out
        have HCN : Hid (commitP (l.take (k + 1)) = max CM pt) := by unfold Hid; rw [HP.out.2, commitP_snoc, ← HCM.out]
        go_upto_region 7 with fail
        rw [show (if CM < pt then pt else CM) = max CM pt from lead_max _ _]
        clear x0 x1 x2 x3 x4 y0 y1 y2 y3 y4 f0 f1 f2 f3 f4
        go_wp2_with fail
        go_roundw
        case rel => exact ⟨k + 1, by omega, by go_num, by rw [HCN.out], HR.out, HB3.out⟩
        case measure => simp [intOf]; omega
    · have hkl : k = l.length := by omega
      have HFB : Hid (pickP q0 l = (⟨bv, bn, bm, bl, bt⟩, .slice ab bl.length cb) ∧ CM = commitP l) := by
        have e1 := HBE.out
        have e2 := HCM.out
        rw [hkl, List.take_length] at e1 e2
        exact ⟨e1.symm, e2⟩
      clear hlt HBE HCM hl11
      have bx := HX.out.below HBR.out HX.out.lt
      have HXR : Hid (Box wr b _ _) := bx
      have y3 := hbx.cell 3 _ rfl
      have x0 := bx.cell 0 _ rfl
      have x1 := bx.cell 1 _ rfl
      have x2 := bx.cell 2 _ rfl
      have x3 := bx.cell 3 _ rfl
      have x4 := bx.cell 4 _ rfl
      have x5 := bx.cell 5 _ rfl
      have x6 := bx.cell 6 _ rfl
      have x7 := bx.cell 7 _ rfl
      have x8 := bx.cell 8 _ rfl
      have x9 := bx.cell 9 _ rfl
      have x10 := bx.cell 10 _ rfl
      have f0 := bx.frozen 0
      have f1 := bx.frozen 1
      have f2 := bx.frozen 2
      have f3 := bx.frozen 3
      have f4 := bx.frozen 4
      have f5 := bx.frozen 5
      have f6 := bx.frozen 6
      have f7 := bx.frozen 7
      have f8 := bx.frozen 8
      have f9 := bx.frozen 9
      have f10 := bx.frozen 10
      have HLO : Hid (w.ownsRow B 9 1 (.slice ab bl.length cb) bl.length (bl.map enc)) := HQ.out _ HBM.out
      have HLZ : Hid (bl.length * 16 ≤ 140737488355328) := (HZ.out _ HBM.out).1
      have HBW : Hid (Below w.heap.size w wr) := HBR.out
      clear bx hbx hbr
      subst hkl
      go_upto_region 9 with fail
      have HXN : Hid (Box (setAll wr b 1 [.int .i64 R.kept.view, .int .i64 R.kept.view, .bool true, .slice ab bl.length cb, .int .i64 (min CM bl.length)]) b 68 [.int .i64 R.me, .int .i64 R.kept.view, .int .i64 R.kept.view, .bool true, .slice ab bl.length cb, .int .i64 (min CM bl.length), vh, vw, vg, vn, vs]) := setAll_put _ _ _ 1 HXR.out
      have HON : Hid (World.ownsRow (setAll wr b 1 [.int .i64 R.kept.view, .int .i64 R.kept.view, .bool true, .slice ab bl.length cb, .int .i64 (min CM bl.length)]) B 9 1 (.slice ab bl.length cb) bl.length (bl.map enc)) := by
        have r := own_below HLO.out HBW.out (own_lt HLO.out)
        exact setAll_own _ _ _ r (own_type r HXR.out (by decide))
      have HMN : Hid (MsgsNew (setAll wr b 1 [.int .i64 R.kept.view, .int .i64 R.kept.view, .bool true, .slice ab bl.length cb, .int .i64 (min CM bl.length)]) B vs L) := by
        obtain ⟨qs, hL, hq⟩ := HM.out
        exact ⟨qs, hL, (hq.below HBW.out).setAll HXR.out (by decide) (by decide) 1 _⟩
      have HBN : Hid (Beside B b w (setAll wr b 1 [.int .i64 R.kept.view, .int .i64 R.kept.view, .bool true, .slice ab bl.length cb, .int .i64 (min CM bl.length)])) := setAll_beside _ _ _ _ (Beside.of (HBW.out.mono hB))
      simp only [setAll, Nat.reduceAdd] at HXN HON HMN HBN
      go_upto_region 10 with fail
      rw [show (if (bl.length : Int) < CM then (bl.length : Int) else CM) = min CM bl.length from lead_min _ _]
      generalize hw5 : World.setCell _ ⟨b, 5, none⟩ _ = w5 at HXN HON HMN HBN ⊢
      clear hw5 x0 x1 x2 x3 x4 x5 x6 x7 x8 x9 x10 f0 f1 f2 f3 f4 f5 f6 f7 f8 f9 f10 y3
      go_wp2_with fail
      refine (forget_raw b B ⟨R.me, ⟨R.kept.view, R.kept.view, true, bl, min CM bl.length⟩, [], [], [], []⟩ L _ _ _ _ _ _ w5 HXN.out HON.out HMN.out (HBN.out.up hB)).mono ?_
      rintro e w6 ⟨rfl, ht6, hb6, _⟩
      have HT6 : Hid (TurnAt w6 b B _ L) := ht6
      have HB6 : Hid (Beside B b w w6) := HBN.out.trans (hb6.mono (HBN.out.up hB))
      clear ht6 hb6 HXN HON HMN
      go_wp2_with fail
      refine (leadOn_any b B _ L w6 HT6.out HLZ.out hn (HB6.out.up hB)).mono ?_
      rintro e w7 ⟨rfl, ht7, hb7⟩
      have HE : Hid (TurnAt w7 b B (forgot ⟨R.me, ⟨R.kept.view, R.kept.view, true, (pickP q0 l).1.log, min (commitP l) (pickP q0 l).1.log.length⟩, [], [], [], []⟩) (L ++ ledBy (forgot ⟨R.me, ⟨R.kept.view, R.kept.view, true, (pickP q0 l).1.log, min (commitP l) (pickP q0 l).1.log.length⟩, [], [], [], []⟩)) ∧ Beside B b w w7) := by
        refine ⟨?_, HB6.out.trans hb7⟩
        rw [HFB.out.1, ← HFB.out.2]
        exact ht7
      clear ht7 hb7 HT6
      go_wp2_with fail
      go_end0
      exact ⟨rfl, HE.out⟩

end Go.Proofs.YtmdgkjbiicaljagDoor
