/- The program's own: what a turn sends. -/
import Derived.Test.YtmdgkjbiicaljagDoorRegPhase
import Derived.Test.YtmdgkjbiicaljagDoorJointCopiedStr
import Derived.Deep.DeepCutAuto
namespace Go.Proofs.YtmdgkjbiicaljagDoor
open Go.RowKit
set_option linter.unusedVariables false
set_option linter.unusedSimpArgs false

/-- Rows of the call's own, but for messages, stay as they are. -/
def Keeps (w w' : World) : Prop := ∀ (base : Nat) (e : TypeId) (s : Nat) (x : Value) (m : Nat) (xs : List Value), (e = 9 ∨ e = 3 ∨ e = 4 ∨ e = 25) → w.ownsRow base e s x m xs → w'.ownsRow base e s x m xs
theorem Keeps.trans {u v w : World} (h : Keeps u v) (k : Keeps v w) : Keeps u w := fun b e s x m xs he r => k b e s x m xs he (h b e s x m xs he r)
theorem Keeps.below {w w' : World} (h : Below w.heap.size w w') : Keeps w w' := fun b e s x m xs _ r => own_below r h (own_lt r)
theorem Keeps.set {w : World} {b : Nat} {t : TypeId} {cs : List Value} (hb : Box w b t cs) (h1 : 9 ≠ t) (h2 : 3 ≠ t) (h3 : 4 ≠ t) (h4 : 25 ≠ t) (i : Nat) (x : Value) : Keeps w (w.setCell ⟨b, i, none⟩ x) :=
  fun _ e _ _ _ _ he r => own_other r (own_type r hb (by rcases he with rfl | rfl | rfl | rfl <;> assumption)) x
theorem Keeps.grown {w w' : World} {base size : Nat} {v : Value} {n : Nat} {xs : List Value} (ho : w.ownsRow base 43 size v n xs) (hg : w.grownBy w' v.ownBlock) : Keeps w w' := by
  intro b e s x m ys he r
  have hne : ∀ k, x.ownBlock = some k → v.ownBlock ≠ some k := fun k hk hv => own_types r ho (by rcases he with rfl | rfl | rfl | rfl <;> decide) hv hk
  refine ⟨r.1, ?_⟩
  rcases r.2 with h2 | ⟨g, cap, cur, rfl, h3, hgc, q⟩
  · exact Or.inl h2
  · have hlt : g < w.heap.size := (Array.getElem?_eq_some_iff.1 hgc).1
    exact Or.inr ⟨g, cap, cur, rfl, h3, by rw [hg.block g hlt (Ne.symm (hne g rfl))]; exact hgc, q⟩
/-- All blocks stay as they are, but for the turn's own (b) and that of what was sent. -/
structure Moved (w w' : World) (b : Nat) (v v' : Value) : Prop where
  os : w'.os = w.os
  tape : w'.tape = w.tape
  output : w'.output = w.output
  size : w.heap.size ≤ w'.heap.size
  block : ∀ k, k < w.heap.size → k ≠ b → v.ownBlock ≠ some k → w'.heap[k]? = w.heap[k]?
  fresh : ∀ k, v'.ownBlock = some k → v.ownBlock = some k ∨ w.heap.size ≤ k
theorem Moved.refl (w : World) (b : Nat) (v : Value) : Moved w w b v v := ⟨rfl, rfl, rfl, Nat.le_refl _, fun _ _ _ _ => rfl, fun _ h => Or.inl h⟩
theorem Moved.trans {u v w : World} {b : Nat} {x y z : Value} (h : Moved u v b x y) (k : Moved v w b y z) : Moved u w b x z := by
  refine ⟨k.os.trans h.os, k.tape.trans h.tape, k.output.trans h.output, Nat.le_trans h.size k.size, fun i hi hb hx => ?_, fun i hi => ?_⟩
  · rw [k.block i (Nat.lt_of_lt_of_le hi h.size) hb (fun e => by rcases h.fresh i e with q | q; exact hx q; omega)]
    exact h.block i hi hb hx
  · rcases k.fresh i hi with q | q
    · exact h.fresh i q
    · exact Or.inr (Nat.le_trans h.size q)
theorem Moved.of {w w' : World} {b : Nat} {v : Value} (h : Below w.heap.size w w') : Moved w w' b v v := ⟨h.os, h.tape, h.output, h.size, fun k hk _ _ => h.block k hk, fun _ h => Or.inl h⟩
theorem Moved.beside {w w' : World} {b B : Nat} {v v' : Value} {e : TypeId} {s n : Nat} {xs : List Value} (h : Moved w w' b v v') (ho : w.ownsRow B e s v n xs) (hB : B ≤ w.heap.size) : Beside B b w w' :=
  ⟨h.os, h.tape, h.output, h.size, fun k hk hb => h.block k (by omega) hb (fun e => by have := own_ge ho k e; omega)⟩
theorem Moved.box {w w' : World} {b k : Nat} {v v' : Value} {t : TypeId} {cs : List Value} (h : Moved w w' b v v') (hx : Box w k t cs) (hk : k ≠ b) (hv : v.ownBlock ≠ some k) : Box w' k t cs := by
  have := h.block k hx.lt hk hv
  unfold Box at hx ⊢
  rw [this]
  exact hx

theorem rowAt_box {w : World} {b : Nat} {t : TypeId} {cs : List Value} (h : Box w b t cs) (n size : Nat) (hl : cs.length = n * size) : RowAt w (.slice (some ⟨b, 0, none⟩) n n) n size cs := by
  refine ⟨_, _, rfl, hl, fun j u hj => ⟨_, rfl, ?_⟩⟩
  have := h.cell j u hj
  rw [Go.WideShapes.add_plain, Nat.zero_add]
  exact this
theorem infoMsg : Tryd.prog.info? 43 = some Tryd.t43 := by kernel_rfl
theorem zeroMsgV : Tryd.t43.zero = some (.agg #[.int .i64 0, .int .i64 0, .int .i64 0, .int .i64 0, .int .i64 0, .int .i64 0, .int .i64 0, .slice none 0 0]) := by kernel_rfl
theorem sizeMsg : Tryd.t43.size = 8 := by kernel_rfl
theorem bytesMsg : Tryd.t43.bytes = 80 := by kernel_rfl
/-- A message more, in a row of the call's own. -/
theorem MsgsOwn.snoc {w w' : World} {B : Nat} {v v' : Value} {ps : List (MsgM × Value)} {M : MsgM} {vm : Value} (h : MsgsOwn w B v ps) (hk : Keeps w w') (hr : w'.ownsRow B 43 8 v' (ps.length + 1) (ps.flatMap msgRow ++ msgCells M vm)) (hl : w'.ownsRow B 9 1 vm M.log.length (M.log.map enc)) : MsgsOwn w' B v' (ps ++ [(M, vm)]) := by
  refine ⟨by simpa [msgRow] using hr, fun p hp => ?_⟩
  rcases List.mem_append.1 hp with hp | hp
  · exact hk _ _ _ _ _ _ (Or.inl rfl) (h.2 p hp)
  · have : p = (M, vm) := by simpa using hp
    subst this
    exact hl

set_option maxRecDepth 4000 in
set_option maxHeartbeats 2000000 in
theorem send_any (b B : Nat) (me vi : Int) (c2 c3 c4 c5 c6 c7 c8 c9 vs : Value) (ms : List (MsgM × Value)) (dst : Int) (M : MsgM) (vm : Value) (w : World) (hx : Box w b 68 [.int .i64 me, .int .i64 vi, c2, c3, c4, c5, c6, c7, c8, c9, vs])
    (hms : MsgsOwn w B vs ms) (hm : RowAt w vm M.log.length 1 (M.log.map enc)) (hz : M.log.length * 16 ≤ 140737488355328) (hn : ms.length ≤ 1000) (hB : B ≤ w.heap.size) :
    Calls Tryd.prog 47 #[.pointer (some ⟨b, 0, none⟩), .int .i64 dst, .agg (msgCells M vm).toArray] w fun e w' => e = .returned (.tuple #[]) ∧ ∃ vs' vm', Box w' b 68 [.int .i64 me, .int .i64 vi, c2, c3, c4, c5, c6, c7, c8, c9, vs'] ∧
      MsgsOwn w' B vs' (ms ++ [(⟨M.kind, me, dst, vi, M.normal, M.commit, M.n, M.log⟩, vm')]) ∧ Keeps w w' ∧ Moved w w' b vs vs' := by
  obtain ⟨kd, fr, ds, mv, mn, mc, mk, ml⟩ := M
  simp only [msgCells] at *
  have HM : Hid (RowAt w _ _ _ _) := hm
  obtain ⟨am, cm, rfl, _, _⟩ := hm
  have lb := hx.lt
  have bm := Box.new w 43 [.int .i64 kd, .int .i64 fr, .int .i64 ds, .int .i64 mv, .int .i64 mn, .int .i64 mc, .int .i64 mk, .slice am ml.length cm]
  have hx0 := hx.alloc (.cells #[.int .i64 kd, .int .i64 fr, .int .i64 ds, .int .i64 mv, .int .i64 mn, .int .i64 mc, .int .i64 mk, .slice am ml.length cm] 43)
  obtain ⟨w0, hw0⟩ : ∃ w0, w0 = w.alloc (.cells #[.int .i64 kd, .int .i64 fr, .int .i64 ds, .int .i64 mv, .int .i64 mn, .int .i64 mc, .int .i64 mk, .slice am ml.length cm] 43) := ⟨_, rfl⟩
  have hb0 : Below w.heap.size w w0 := by rw [hw0]; exact below_alloc _ _
  go_enter Tryd.func47, Tryd.ntmps47
  go_upto_region 1 with fail
  rw [← hw0] at bm hx0 ⊢
  clear hw0
  have x0 := hx0.cell 0 _ rfl
  have x1 := hx0.cell 1 _ rfl
  have y0 := bm.cell 0 _ rfl
  have y1 := bm.cell 1 _ rfl
  have y2 := bm.cell 2 _ rfl
  have y3 := bm.cell 3 _ rfl
  have y4 := bm.cell 4 _ rfl
  have y5 := bm.cell 5 _ rfl
  have y6 := bm.cell 6 _ rfl
  have y7 := bm.cell 7 _ rfl
  have f0 := bm.frozen 0
  have f1 := bm.frozen 1
  have f2 := bm.frozen 2
  have f3 := bm.frozen 3
  have f4 := bm.frozen 4
  have f5 := bm.frozen 5
  have f6 := bm.frozen 6
  have f7 := bm.frozen 7
  have nb : ¬ b = w.heap.size := by omega
  have nb' : ¬ w.heap.size = b := by omega
  have BM := ((bm.set 1 (.int .i64 me)).set 2 (.int .i64 dst)).set 3 (.int .i64 vi)
  have BX := ((hx0.other (a := ⟨w.heap.size, 1, none⟩) (.int .i64 me) nb).other (a := ⟨w.heap.size, 2, none⟩) (.int .i64 dst) nb).other (a := ⟨w.heap.size, 3, none⟩) (.int .i64 vi) nb
  have BB : Below w.heap.size w _ := ((hb0.setCell (p := ⟨w.heap.size, 1, none⟩) (Nat.le_refl _) (.int .i64 me)).setCell (p := ⟨w.heap.size, 2, none⟩) (Nat.le_refl _) (.int .i64 dst)).setCell (p := ⟨w.heap.size, 3, none⟩) (Nat.le_refl _) (.int .i64 vi)
  have HBM : Hid (Box _ w.heap.size _ _) := BM
  have HBX : Hid (Box _ b _ _) := BX
  have HBB : Hid (Below w.heap.size w _) := BB
  have HX : Hid (Box w b _ _) := hx
  have HMS : Hid (MsgsOwn w B vs ms) := hms
  clear hx hx0 bm hb0 BM BX BB hms
  go_region
  go_upto_region 2 with fail
  generalize hw1 : World.drew _ = w1
  have BM : Box w1 w.heap.size 43 [.int .i64 kd, .int .i64 me, .int .i64 dst, .int .i64 vi, .int .i64 mn, .int .i64 mc, .int .i64 mk, .slice am ml.length cm] := by rw [← hw1]; exact HBM.out
  have BX : Box w1 b 68 [.int .i64 me, .int .i64 vi, c2, c3, c4, c5, c6, c7, c8, c9, vs] := by rw [← hw1]; exact HBX.out
  have BB : Below w.heap.size w w1 := by rw [← hw1]; exact HBB.out.drew
  have HK1 : Hid (Below w.heap.size w w1) := BB
  clear hw1 HBM HBX HBB x0 x1 y0 y1 y2 y3 y4 y5 y6 y7 f0 f1 f2 f3 f4 f5 f6 f7
  have y7 := BM.cell 7 _ rfl
  have HBM : Hid (Box w1 w.heap.size _ _) := BM
  have HBX : Hid (Box w1 b _ _) := BX
  clear BM BX BB
  go_wp2_with fail
  refine (copiedStrs_any ml _ _ (RowAt.below HM.out HK1.out) hz).mono ?_
  rintro e w2 ⟨v2, rfl, ho2, hb2⟩
  obtain ⟨a2, k2, rfl⟩ := own_form ho2
  have BM := HBM.out.below hb2 HBM.out.lt
  have y7' := BM.cell 7 _ rfl
  have f7 := BM.frozen 7
  have HBM2 : Hid (Box (w2.setCell ⟨w.heap.size, 7, none⟩ (.slice a2 ml.length k2)) w.heap.size _ _) := BM.set 7 _
  have HBX2 : Hid (Box (w2.setCell ⟨w.heap.size, 7, none⟩ (.slice a2 ml.length k2)) b _ _) := (HBX.out.below hb2 HBX.out.lt).other _ nb
  have HO2 : Hid (World.ownsRow (w2.setCell ⟨w.heap.size, 7, none⟩ (.slice a2 ml.length k2)) _ _ _ _ _ _) := own_other ho2 (fun e => by have := own_ge ho2 _ e; have := HBM.out.lt; simp at *; omega) (.slice a2 ml.length k2)
  have HK2 : Hid (Below w.heap.size w (w2.setCell ⟨w.heap.size, 7, none⟩ (.slice a2 ml.length k2))) := (Below.far HK1.out hb2).setCell (p := ⟨w.heap.size, 7, none⟩) (Nat.le_refl _) _
  clear y7 BM ho2 hb2
  go_upto_region 3 with fail
  generalize hw3 : w2.setCell _ _ = w3
  rw [hw3] at HBM2 HBX2 HO2 HK2
  clear hw3 y7' f7 HBM HBX
  obtain ⟨a1, k1, hvs⟩ := own_formN HMS.out.1
  subst hvs
  have m0 := HBM2.out
  have y0 := m0.cell 0 _ rfl
  have y1 := m0.cell 1 _ rfl
  have y2 := m0.cell 2 _ rfl
  have y3 := m0.cell 3 _ rfl
  have y4 := m0.cell 4 _ rfl
  have y5 := m0.cell 5 _ rfl
  have y6 := m0.cell 6 _ rfl
  have y7 := m0.cell 7 _ rfl
  have b0 := HBX2.out
  have x10 := b0.cell 10 _ rfl
  have f10 := b0.frozen 10
  have lb3 := b0.lt
  have HMS3 : Hid (MsgsOwn w3 B _ ms) := HMS.out.below HK2.out
  have hsz3 : w.heap.size ≤ w3.heap.size := HK2.out.size
  have HLen : Hid (ms.length ≤ 1000) := hn
  clear m0 b0 hn
  go_region_law
    ((first
      | (refine step_append_row _ (by rfl) _ _ 38 (by rfl) B 43 Tryd.t43 _ 8 80 Tryd.underlying38 infoMsg zeroMsgV sizeMsg bytesMsg rfl (by decide) _ ms.length (ms.flatMap msgRow) (by rfl) (own_below HMS3.out.1 (below_alloc w3 (.cells #[.int .i64 kd, .int .i64 me, .int .i64 dst, .int .i64 vi, .int .i64 mn, .int .i64 mc, .int .i64 mk, .slice a2 ml.length k2] 43)).drew (own_lt HMS3.out.1)) _ 1 [.int .i64 kd, .int .i64 me, .int .i64 dst, .int .i64 vi, .int .i64 mn, .int .i64 mc, .int .i64 mk, .slice a2 ml.length k2] (by rfl) (rowAt_box (w := w3.alloc (.cells #[.int .i64 kd, .int .i64 me, .int .i64 dst, .int .i64 vi, .int .i64 mn, .int .i64 mc, .int .i64 mk, .slice a2 ml.length k2] 43)) (Box.new w3 _ _) 1 8 rfl) (by simp [Value.oneCell']) (by have := HLen.out; unfold maxLen; omega) (by have := HLen.out; omega) (by simp; omega) ?_
         intro u3 wB hownB hgD hatB
         obtain ⟨a6, k6, hu5⟩ := own_formN hownB
         subst hu5
         have hgB : (w3.alloc (.cells #[.int .i64 kd, .int .i64 me, .int .i64 dst, .int .i64 vi, .int .i64 mn, .int .i64 mc, .int .i64 mk, .slice a2 ml.length k2] 43)).grownBy wB (Value.slice a1 ms.length k1).ownBlock := ⟨hgD.os, hgD.tape, hgD.output, hgD.size, hgD.block⟩
         have BXB : Box wB b _ _ := (HBX2.out.alloc (.cells #[.int .i64 kd, .int .i64 me, .int .i64 dst, .int .i64 vi, .int .i64 mn, .int .i64 mc, .int .i64 mk, .slice a2 ml.length k2] 43)).grown hgB (own_type HMS3.out.1 HBX2.out (by decide))
         have q10 := BXB.cell 10 _ rfl
         have g10 := BXB.frozen 10
         have lb4 := BXB.lt)))
  all_goals
    have HE : Hid (∃ vs' vm', Box (wB.setCell ⟨b, 10, none⟩ (.slice a6 (ms.length + 1) k6)) b 68 [.int .i64 me, .int .i64 vi, c2, c3, c4, c5, c6, c7, c8, c9, vs'] ∧ MsgsOwn (wB.setCell ⟨b, 10, none⟩ (.slice a6 (ms.length + 1) k6)) B vs' (ms ++ [(⟨kd, me, dst, vi, mn, mc, mk, ml⟩, vm')]) ∧ Keeps w (wB.setCell ⟨b, 10, none⟩ (.slice a6 (ms.length + 1) k6)) ∧ Moved w (wB.setCell ⟨b, 10, none⟩ (.slice a6 (ms.length + 1) k6)) b (.slice a1 ms.length k1) vs') := by
      have kA : Keeps w3 wB := (Keeps.below (below_alloc w3 (.cells #[.int .i64 kd, .int .i64 me, .int .i64 dst, .int .i64 vi, .int .i64 mn, .int .i64 mc, .int .i64 mk, .slice a2 ml.length k2] 43))).trans (Keeps.grown (own_below HMS3.out.1 (below_alloc w3 _) (own_lt HMS3.out.1)) hgB)
      have kB : Keeps wB (wB.setCell ⟨b, 10, none⟩ (.slice a6 (ms.length + 1) k6)) := Keeps.set BXB (by decide) (by decide) (by decide) (by decide) 10 _
      have kW : Keeps w w3 := Keeps.below HK2.out
      refine ⟨.slice a6 (ms.length + 1) k6, .slice a2 ml.length k2, BXB.set 10 _, HMS3.out.snoc (kA.trans kB) (own_other hownB (own_type hownB BXB (by decide)) _) ?_, (kW.trans kA).trans kB, ?_⟩
      · exact (kA.trans kB) _ _ _ _ _ _ (Or.inl rfl) (own_base HO2.out (by have := HK1.out.size; omega))
      · refine ⟨hgB.os.trans HK2.out.os, hgB.tape.trans HK2.out.tape, hgB.output.trans HK2.out.output, by have := hgB.size; simp at this ⊢; omega, fun k hk hb hv => ?_, fun k hk => ?_⟩
        · rw [Below.heap_setCell _ _ _ _ (show k ≠ b from hb), hgB.block k (by simp; omega) (Ne.symm hv), Below.heap_alloc _ _ _ (by omega)]
          exact HK2.out.block k hk
        · rcases hatB with e | e
          · left; rw [← e]; exact hk
          · right
            rw [e] at hk
            injection hk with hk
            simp at hk
            omega
    clear hownB hgB hgD hatB BXB HMS3 HBX2 HBM2 HO2 HK2 HMS
    go_wp2_with fail
    go_end0
    exact ⟨rfl, HE.out⟩

end Go.Proofs.YtmdgkjbiicaljagDoor
