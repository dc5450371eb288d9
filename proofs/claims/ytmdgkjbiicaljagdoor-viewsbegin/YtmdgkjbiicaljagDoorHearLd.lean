/- The program's own: hearLead. -/
import Derived.Test.YtmdgkjbiicaljagDoorHearLead
namespace Go.Proofs.YtmdgkjbiicaljagDoor
open Go.RowKit
set_option linter.unusedVariables false
set_option linter.unusedSimpArgs false

def bump (R : ReplM) (m : MsgM) : ReplM := ⟨R.me, ⟨R.kept.view, R.kept.normal, R.kept.calm, R.kept.log, max R.kept.commit (min m.commit R.kept.log.length)⟩, R.hav, R.wants, R.gives, R.given⟩
def lead1 (R : ReplM) (m : MsgM) : ReplM :=
  if R.kept.view < m.view ∨ R.kept.calm = false then forgot ⟨R.me, ⟨m.view, m.view, true, m.log, min R.kept.commit m.log.length⟩, [], [], [], []⟩
  else if R.kept.log.length < m.log.length then ⟨R.me, ⟨R.kept.view, R.kept.normal, R.kept.calm, m.log, R.kept.commit⟩, R.hav, R.wants, R.gives, R.given⟩ else R
theorem lead_min (l m : Int) : (if l < m then l else m) = min m l := by split <;> omega
theorem lead_max (c m : Int) : (if c < m then m else c) = max c m := by split <;> omega
theorem lead_is (R : ReplM) (m : MsgM) : leadR R m = bump (lead1 R m) m := by
  unfold leadR lead1 leadK
  by_cases h : R.kept.view < m.view ∨ R.kept.calm = false
  · rw [if_pos h, if_pos h, if_pos h]
    rfl
  · rw [if_neg h, if_neg h, if_neg h]
    by_cases h2 : R.kept.log.length < m.log.length
    · rw [if_pos h2, if_pos h2]
      rfl
    · rw [if_neg h2, if_neg h2]
      rfl
theorem turn_commit {w : World} {b B : Nat} {R : ReplM} {L : List MsgM} (h : TurnAt w b B R L) (c : Int) (n : Nat) : TurnAt ((w.drewN n).setCell ⟨b, 5, none⟩ (.int .i64 c)) b B ⟨R.me, ⟨R.kept.view, R.kept.normal, R.kept.calm, R.kept.log, c⟩, R.hav, R.wants, R.gives, R.given⟩ L ∧ Beside B b w ((w.drewN n).setCell ⟨b, 5, none⟩ (.int .i64 c)) := by
  obtain ⟨vl, vh, vw, vg, vn, vs, ps, hx, ho, qs, hL, hq⟩ := h
  have hx' : Box (w.drewN n) b _ _ := hx
  have ho' : ReplOwn (w.drewN n) B R vl vh vw vg vn ps := ho.below (below_drewN n (Below.refl _ _))
  have hq' : MsgsOwn (w.drewN n) B vs qs := hq.below (below_drewN n (Below.refl _ _))
  exact ⟨⟨vl, vh, vw, vg, vn, vs, ps, hx'.set 5 (.int .i64 c), ho'.type hx' (by decide) (by decide) (by decide) (by decide) 5 _, qs, hL, hq'.type hx' (by decide) (by decide) 5 _⟩, (Beside.of (below_drewN n (Below.refl _ _))).setCell (a := ⟨b, 5, none⟩) (Or.inl rfl) _⟩

set_option maxRecDepth 4000 in
set_option maxHeartbeats 8000000 in
theorem hearLead_any (b B : Nat) (R : ReplM) (L : List MsgM) (M : MsgM) (u : Value) (w : World) (h : TurnAt w b B R L) (hm : MsgAt w u M) (hz : M.log.length * 16 ≤ 140737488355328) (hn : L.length ≤ 900) (hB : B ≤ w.heap.size) :
    Calls Tryd.prog 28 #[.pointer (some ⟨b, 0, none⟩), u] w fun e w' => e = .returned (.tuple #[]) ∧ TurnAt w' b B (bump (lead1 R M) M) (L ++ [hasMsg (bump (lead1 R M) M) ((bump (lead1 R M) M).kept.view.tmod 3)]) ∧ Beside B b w w' := by
  have HMA : Hid (∀ W, Below w.heap.size w W → MsgAt W u M) := fun W hW => hm.below hW
  obtain ⟨RR, hRR⟩ : ∃ RR, RR = lead1 R M := ⟨_, rfl⟩
  rw [← hRR]
  have HR : Hid (RR = lead1 R M) := hRR
  clear hRR
  obtain ⟨vm, rfl, hs⟩ := hm
  have HST : Hid (∀ W, Below w.heap.size w W → Strs W vm M.log) := fun W hW => hs.below hW
  obtain ⟨am, cm, rfl, _, _⟩ := hs
  have bm := Box.new w 43 [.int .i64 M.kind, .int .i64 M.frm, .int .i64 M.dst, .int .i64 M.view, .int .i64 M.normal, .int .i64 M.commit, .int .i64 M.n, .slice am M.log.length cm]
  obtain ⟨w0, hw0⟩ : ∃ w0, w0 = w.alloc (.cells #[.int .i64 M.kind, .int .i64 M.frm, .int .i64 M.dst, .int .i64 M.view, .int .i64 M.normal, .int .i64 M.commit, .int .i64 M.n, .slice am M.log.length cm] 43) := ⟨_, rfl⟩
  have hb0 : Below w.heap.size w w0 := by rw [hw0]; exact below_alloc _ _
  have hs0 : w0.heap.size = w.heap.size + 1 := by rw [hw0]; simp
  have h0 := turn_below h hb0
  have HNB : Hid (w.heap.size ≠ b) := by
    obtain ⟨_, _, _, _, _, _, _, hxw, _⟩ := h
    have := hxw.lt
    unfold Hid
    omega
  simp only [msgCells] at HMA ⊢
  rw [← hw0] at bm
  have HB0 : Hid (Below w.heap.size w w0) := hb0
  have HS0 : Hid (w0.heap.size = w.heap.size + 1) := hs0
  have HT : Hid (TurnAt w0 b B R L) := h0
  obtain ⟨vl, vh, vw, vg, vn, vs, ps, hx, ho, hmn⟩ := h0
  obtain ⟨al, cl, hvl⟩ := own_form ho.2.1
  subst hvl
  have HX : Hid (Box w0 b _ _) := hx
  have HBM : Hid (Box w0 w.heap.size _ _) := bm
  have HO : Hid (ReplOwn w0 B R _ _ _ _ _ _) := ho
  have HM : Hid (MsgsNew w0 B vs L) := hmn
  have x0 := hx.cell 0 _ rfl
  have x1 := hx.cell 1 _ rfl
  have x2 := hx.cell 2 _ rfl
  have x3 := hx.cell 3 _ rfl
  have x4 := hx.cell 4 _ rfl
  have x5 := hx.cell 5 _ rfl
  have x6 := hx.cell 6 _ rfl
  have x7 := hx.cell 7 _ rfl
  have x8 := hx.cell 8 _ rfl
  have x9 := hx.cell 9 _ rfl
  have x10 := hx.cell 10 _ rfl
  have y0 := bm.cell 0 _ rfl
  have y1 := bm.cell 1 _ rfl
  have y2 := bm.cell 2 _ rfl
  have y3 := bm.cell 3 _ rfl
  have y4 := bm.cell 4 _ rfl
  have y5 := bm.cell 5 _ rfl
  have y6 := bm.cell 6 _ rfl
  have y7 := bm.cell 7 _ rfl
  clear hx ho hmn bm h hb0 hs0
  by_cases hv : R.kept.view < M.view
  · go_enter Tryd.func28, Tryd.ntmps28
    go_upto_region 1 with fail
    rw [← hw0]
    clear hw0
    go_quiet (fail)
    have HRR : Hid (RR = forgot ⟨R.me, ⟨M.view, M.view, true, M.log, min R.kept.commit M.log.length⟩, [], [], [], []⟩) := by unfold Hid; rw [HR.out]; unfold lead1; rw [if_pos (Or.inl hv)]
    clear HR
    go_wp2_with fail
    refine (follow_any b B R L M _ _ (turn_below HT.out (below_drew_n _ _)) (HMA.out _ ((HB0.out).trans (below_drewN _ (Below.refl _ _)))) hz (by show B ≤ w0.heap.size; have := HS0.out; omega)).mono ?_
    rintro e w5 ⟨rfl, ht5, hb5⟩
    have HT5 : Hid (TurnAt w5 b B _ L) := ht5
    have HM5 : Hid (Box w5 w.heap.size _ _) := Box.beside (w := w0.drewN nq) HBM.out hb5 (by have := HBM.out.lt; show _ < w0.heap.size; omega) HNB.out
    have HB5 : Hid (Beside B b w w5) := (Beside.of (HB0.out.mono hB)).trans ((Beside.of (below_drewN nq (Below.refl _ w0))).trans (hb5.mono (by show B ≤ w0.heap.size; have := HS0.out; omega)))
    clear ht5 hb5 x0 x1 x2 x3 x4 x5 x6 x7 x8 x9 x10 y0 y1 y2 y3 y4 y5 y6 y7
    go_wp2_with fail
    obtain ⟨vl5, vh5, vw5, vg5, vn5, vs5, ps5, hx5, ho5, hm5⟩ := HT5.out
    obtain ⟨al5, cl5, hvl5⟩ := own_form ho5.2.1
    subst hvl5
    have bm5 := HM5.out
    have x0 := hx5.cell 0 _ rfl
    have x1 := hx5.cell 1 _ rfl
    have x2 := hx5.cell 2 _ rfl
    have x3 := hx5.cell 3 _ rfl
    have x4 := hx5.cell 4 _ rfl
    have x5 := hx5.cell 5 _ rfl
    have x6 := hx5.cell 6 _ rfl
    have x7 := hx5.cell 7 _ rfl
    have x8 := hx5.cell 8 _ rfl
    have x9 := hx5.cell 9 _ rfl
    have x10 := hx5.cell 10 _ rfl
    have f5 := hx5.frozen 5
    have y5 := bm5.cell 5 _ rfl
    clear hx5 ho5 hm5 bm5
    go_upto_region 5 with fail
    refine wp_region_two [0, 0, 0, 0, 0, 0, 0, 0, 0, 0, 0, 0, 0, 0, 0, 0, 0, 0, 0, 0, 0, 0, 1] (by kernel_rfl) (by kernel_rfl) ?_
    simp only [sel, ↓reduceIte, Nat.reduceEqDiff]
    repeat (go_big_quiet_step (fail))
    refine wpQuiet_nil ?_
    intro w9 hw9
    obtain ⟨nq5, rfl⟩ := hw9
    rw [show (if ((forgot ⟨R.me, ⟨M.view, M.view, true, M.log, min R.kept.commit M.log.length⟩, [], [], [], []⟩).kept.log.length : Int) < M.commit then ((forgot ⟨R.me, ⟨M.view, M.view, true, M.log, min R.kept.commit M.log.length⟩, [], [], [], []⟩).kept.log.length : Int) else M.commit) = min M.commit (forgot ⟨R.me, ⟨M.view, M.view, true, M.log, min R.kept.commit M.log.length⟩, [], [], [], []⟩).kept.log.length from lead_min _ _]
    rw [show (if (forgot ⟨R.me, ⟨M.view, M.view, true, M.log, min R.kept.commit M.log.length⟩, [], [], [], []⟩).kept.commit < min M.commit ((forgot ⟨R.me, ⟨M.view, M.view, true, M.log, min R.kept.commit M.log.length⟩, [], [], [], []⟩).kept.log.length : Int) then min M.commit ((forgot ⟨R.me, ⟨M.view, M.view, true, M.log, min R.kept.commit M.log.length⟩, [], [], [], []⟩).kept.log.length : Int) else (forgot ⟨R.me, ⟨M.view, M.view, true, M.log, min R.kept.commit M.log.length⟩, [], [], [], []⟩).kept.commit) = max (forgot ⟨R.me, ⟨M.view, M.view, true, M.log, min R.kept.commit M.log.length⟩, [], [], [], []⟩).kept.commit (min M.commit (forgot ⟨R.me, ⟨M.view, M.view, true, M.log, min R.kept.commit M.log.length⟩, [], [], [], []⟩).kept.log.length) from lead_max _ _]
    go_wp2_with fail
    have HT6 : Hid (TurnAt ((w5.drewN nq5).setCell ⟨b, 5, none⟩ (.int .i64 (max (forgot ⟨R.me, ⟨M.view, M.view, true, M.log, min R.kept.commit M.log.length⟩, [], [], [], []⟩).kept.commit (min M.commit (forgot ⟨R.me, ⟨M.view, M.view, true, M.log, min R.kept.commit M.log.length⟩, [], [], [], []⟩).kept.log.length)))) b B (bump RR M) L ∧ Beside B b w ((w5.drewN nq5).setCell ⟨b, 5, none⟩ (.int .i64 (max (forgot ⟨R.me, ⟨M.view, M.view, true, M.log, min R.kept.commit M.log.length⟩, [], [], [], []⟩).kept.commit (min M.commit (forgot ⟨R.me, ⟨M.view, M.view, true, M.log, min R.kept.commit M.log.length⟩, [], [], [], []⟩).kept.log.length))))) := by
      have k := turn_commit HT5.out (max (forgot ⟨R.me, ⟨M.view, M.view, true, M.log, min R.kept.commit M.log.length⟩, [], [], [], []⟩).kept.commit (min M.commit (forgot ⟨R.me, ⟨M.view, M.view, true, M.log, min R.kept.commit M.log.length⟩, [], [], [], []⟩).kept.log.length)) nq5
      rw [HRR.out]
      exact ⟨k.1, HB5.out.trans k.2⟩
    clear x0 x1 x2 x3 x4 x5 x6 x7 x8 x9 x10 f5 y5 HT5 HM5
    refine (tellHas_any b B (bump RR M) L _ HT6.out.1 hn (HT6.out.2.up hB)).mono ?_
    rintro e w7 ⟨rfl, ht7, hb7⟩
    have HE : Hid (TurnAt w7 b B (bump RR M) (L ++ [hasMsg (bump RR M) ((bump RR M).kept.view.tmod 3)]) ∧ Beside B b w w7) := ⟨ht7, HT6.out.2.trans hb7⟩
    clear ht7 hb7 HT6
    go_wp2_with fail
    go_end0
    exact ⟨rfl, HE.out⟩
  by_cases hc : R.kept.calm = false
  · rw [hc] at x3
    go_enter Tryd.func28, Tryd.ntmps28
    go_upto_region 1 with fail
    rw [← hw0]
    clear hw0
    go_quiet (fail)
    have HRR : Hid (RR = forgot ⟨R.me, ⟨M.view, M.view, true, M.log, min R.kept.commit M.log.length⟩, [], [], [], []⟩) := by unfold Hid; rw [HR.out]; unfold lead1; rw [if_pos (Or.inr hc)]
    clear HR
    go_wp2_with fail
    refine (follow_any b B R L M _ _ (turn_below HT.out (below_drew_n _ _)) (HMA.out _ ((HB0.out).trans (below_drewN _ (Below.refl _ _)))) hz (by show B ≤ w0.heap.size; have := HS0.out; omega)).mono ?_
    rintro e w5 ⟨rfl, ht5, hb5⟩
    have HT5 : Hid (TurnAt w5 b B _ L) := ht5
    have HM5 : Hid (Box w5 w.heap.size _ _) := Box.beside (w := w0.drewN nq) HBM.out hb5 (by have := HBM.out.lt; show _ < w0.heap.size; omega) HNB.out
    have HB5 : Hid (Beside B b w w5) := (Beside.of (HB0.out.mono hB)).trans ((Beside.of (below_drewN nq (Below.refl _ w0))).trans (hb5.mono (by show B ≤ w0.heap.size; have := HS0.out; omega)))
    clear ht5 hb5 x0 x1 x2 x3 x4 x5 x6 x7 x8 x9 x10 y0 y1 y2 y3 y4 y5 y6 y7
    go_wp2_with fail
    obtain ⟨vl5, vh5, vw5, vg5, vn5, vs5, ps5, hx5, ho5, hm5⟩ := HT5.out
    obtain ⟨al5, cl5, hvl5⟩ := own_form ho5.2.1
    subst hvl5
    have bm5 := HM5.out
    have x0 := hx5.cell 0 _ rfl
    have x1 := hx5.cell 1 _ rfl
    have x2 := hx5.cell 2 _ rfl
    have x3 := hx5.cell 3 _ rfl
    have x4 := hx5.cell 4 _ rfl
    have x5 := hx5.cell 5 _ rfl
    have x6 := hx5.cell 6 _ rfl
    have x7 := hx5.cell 7 _ rfl
    have x8 := hx5.cell 8 _ rfl
    have x9 := hx5.cell 9 _ rfl
    have x10 := hx5.cell 10 _ rfl
    have f5 := hx5.frozen 5
    have y5 := bm5.cell 5 _ rfl
    clear hx5 ho5 hm5 bm5
    go_upto_region 5 with fail
    refine wp_region_two [0, 0, 0, 0, 0, 0, 0, 0, 0, 0, 0, 0, 0, 0, 0, 0, 0, 0, 0, 0, 0, 0, 1] (by kernel_rfl) (by kernel_rfl) ?_
    simp only [sel, ↓reduceIte, Nat.reduceEqDiff]
    repeat (go_big_quiet_step (fail))
    refine wpQuiet_nil ?_
    intro w9 hw9
    obtain ⟨nq5, rfl⟩ := hw9
    rw [show (if ((forgot ⟨R.me, ⟨M.view, M.view, true, M.log, min R.kept.commit M.log.length⟩, [], [], [], []⟩).kept.log.length : Int) < M.commit then ((forgot ⟨R.me, ⟨M.view, M.view, true, M.log, min R.kept.commit M.log.length⟩, [], [], [], []⟩).kept.log.length : Int) else M.commit) = min M.commit (forgot ⟨R.me, ⟨M.view, M.view, true, M.log, min R.kept.commit M.log.length⟩, [], [], [], []⟩).kept.log.length from lead_min _ _]
    rw [show (if (forgot ⟨R.me, ⟨M.view, M.view, true, M.log, min R.kept.commit M.log.length⟩, [], [], [], []⟩).kept.commit < min M.commit ((forgot ⟨R.me, ⟨M.view, M.view, true, M.log, min R.kept.commit M.log.length⟩, [], [], [], []⟩).kept.log.length : Int) then min M.commit ((forgot ⟨R.me, ⟨M.view, M.view, true, M.log, min R.kept.commit M.log.length⟩, [], [], [], []⟩).kept.log.length : Int) else (forgot ⟨R.me, ⟨M.view, M.view, true, M.log, min R.kept.commit M.log.length⟩, [], [], [], []⟩).kept.commit) = max (forgot ⟨R.me, ⟨M.view, M.view, true, M.log, min R.kept.commit M.log.length⟩, [], [], [], []⟩).kept.commit (min M.commit (forgot ⟨R.me, ⟨M.view, M.view, true, M.log, min R.kept.commit M.log.length⟩, [], [], [], []⟩).kept.log.length) from lead_max _ _]
    go_wp2_with fail
    have HT6 : Hid (TurnAt ((w5.drewN nq5).setCell ⟨b, 5, none⟩ (.int .i64 (max (forgot ⟨R.me, ⟨M.view, M.view, true, M.log, min R.kept.commit M.log.length⟩, [], [], [], []⟩).kept.commit (min M.commit (forgot ⟨R.me, ⟨M.view, M.view, true, M.log, min R.kept.commit M.log.length⟩, [], [], [], []⟩).kept.log.length)))) b B (bump RR M) L ∧ Beside B b w ((w5.drewN nq5).setCell ⟨b, 5, none⟩ (.int .i64 (max (forgot ⟨R.me, ⟨M.view, M.view, true, M.log, min R.kept.commit M.log.length⟩, [], [], [], []⟩).kept.commit (min M.commit (forgot ⟨R.me, ⟨M.view, M.view, true, M.log, min R.kept.commit M.log.length⟩, [], [], [], []⟩).kept.log.length))))) := by
      have k := turn_commit HT5.out (max (forgot ⟨R.me, ⟨M.view, M.view, true, M.log, min R.kept.commit M.log.length⟩, [], [], [], []⟩).kept.commit (min M.commit (forgot ⟨R.me, ⟨M.view, M.view, true, M.log, min R.kept.commit M.log.length⟩, [], [], [], []⟩).kept.log.length)) nq5
      rw [HRR.out]
      exact ⟨k.1, HB5.out.trans k.2⟩
    clear x0 x1 x2 x3 x4 x5 x6 x7 x8 x9 x10 f5 y5 HT5 HM5
    refine (tellHas_any b B (bump RR M) L _ HT6.out.1 hn (HT6.out.2.up hB)).mono ?_
    rintro e w7 ⟨rfl, ht7, hb7⟩
    have HE : Hid (TurnAt w7 b B (bump RR M) (L ++ [hasMsg (bump RR M) ((bump RR M).kept.view.tmod 3)]) ∧ Beside B b w w7) := ⟨ht7, HT6.out.2.trans hb7⟩
    clear ht7 hb7 HT6
    go_wp2_with fail
    go_end0
    exact ⟨rfl, HE.out⟩
  have hc' : R.kept.calm = true := by simpa using hc
  rw [hc'] at x3
  by_cases hlg : R.kept.log.length < M.log.length
  · have hlg' : (R.kept.log.length : Int) < M.log.length := by omega
    have HRR : Hid (RR = (⟨R.me, ⟨R.kept.view, R.kept.normal, R.kept.calm, M.log, R.kept.commit⟩, R.hav, R.wants, R.gives, R.given⟩ : ReplM)) := by
      unfold Hid
      rw [HR.out]
      unfold lead1
      rw [if_neg (fun q => q.elim hv hc), if_pos hlg]
    clear HR
    go_enter Tryd.func28, Tryd.ntmps28
    go_upto_region 1 with fail
    rw [← hw0]
    clear hw0
    go_quiet (fail)
    go_upto_region 3 with fail
    go_quiet (fail)
    go_wp2_with fail
    refine (copiedStrs_any M.log _ _ (Strs.row (HST.out _ (below_drewN _ HB0.out))) hz).mono ?_
    rintro e w2 ⟨v2, rfl, ho2, hb2⟩
    obtain ⟨a2, c2, rfl⟩ := own_form ho2
    have hbw : Below w0.heap.size w0 w2 := ⟨hb2.os, hb2.tape, hb2.output, hb2.size, hb2.block⟩
    have q1 := HX.out.below hbw HX.out.lt
    have q4 := q1.cell 4 _ rfl
    have g4 := q1.frozen 4
    have HT5 : Hid (TurnAt (w2.setCell ⟨b, 4, none⟩ (.slice a2 M.log.length c2)) b B (⟨R.me, ⟨R.kept.view, R.kept.normal, R.kept.calm, M.log, R.kept.commit⟩, R.hav, R.wants, R.gives, R.given⟩ : ReplM) L) := by
      have k1 := HO.out.newLog hbw (by have := HS0.out; omega) ⟨R.kept.view, R.kept.normal, R.kept.calm, M.log, R.kept.commit⟩ (vl' := .slice a2 M.log.length c2) ho2
      obtain ⟨qs, hL, hq⟩ := HM.out
      exact ⟨_, _, _, _, _, _, _, q1.set 4 (.slice a2 M.log.length c2), k1.type q1 (by decide) (by decide) (by decide) (by decide) 4 _, qs, hL, (hq.below hbw).type q1 (by decide) (by decide) 4 _⟩
    have HM5 : Hid (Box (w2.setCell ⟨b, 4, none⟩ (.slice a2 M.log.length c2)) w.heap.size _ _) := (HBM.out.below hbw HBM.out.lt).other _ HNB.out
    have HB5 : Hid (Beside B b w (w2.setCell ⟨b, 4, none⟩ (.slice a2 M.log.length c2))) := ((Beside.of (HB0.out.mono hB)).trans (Beside.of (hbw.mono (by have := HS0.out; omega)))).setCell (a := ⟨b, 4, none⟩) (Or.inl rfl) _
    clear ho2 hb2 hbw q1 x0 x1 x2 x3 x4 x5 x6 x7 x8 x9 x10 y0 y1 y2 y3 y4 y5 y6 y7
    go_upto_region 5 with fail
    generalize hw5 : w2.setCell _ _ = w5 at HT5 HM5 HB5 ⊢
    clear hw5 q4 g4
    obtain ⟨vl5, vh5, vw5, vg5, vn5, vs5, ps5, hx5, ho5, hm5⟩ := HT5.out
    obtain ⟨al5, cl5, hvl5⟩ := own_form ho5.2.1
    subst hvl5
    have bm5 := HM5.out
    have x0 := hx5.cell 0 _ rfl
    have x1 := hx5.cell 1 _ rfl
    have x2 := hx5.cell 2 _ rfl
    have x3 := hx5.cell 3 _ rfl
    have x4 := hx5.cell 4 _ rfl
    have x5 := hx5.cell 5 _ rfl
    have x6 := hx5.cell 6 _ rfl
    have x7 := hx5.cell 7 _ rfl
    have x8 := hx5.cell 8 _ rfl
    have x9 := hx5.cell 9 _ rfl
    have x10 := hx5.cell 10 _ rfl
    have f5 := hx5.frozen 5
    have y5 := bm5.cell 5 _ rfl
    clear hx5 ho5 hm5 bm5
    refine wp_region_two [0, 0, 0, 0, 0, 0, 0, 0, 0, 0, 0, 0, 0, 0, 0, 0, 0, 0, 0, 0, 0, 0, 1] (by kernel_rfl) (by kernel_rfl) ?_
    simp only [sel, ↓reduceIte, Nat.reduceEqDiff]
    repeat (go_big_quiet_step (fail))
    refine wpQuiet_nil ?_
    intro w9 hw9
    obtain ⟨nq5, rfl⟩ := hw9
    rw [show (if (M.log.length : Int) < M.commit then (M.log.length : Int) else M.commit) = min M.commit ((⟨R.me, ⟨R.kept.view, R.kept.normal, R.kept.calm, M.log, R.kept.commit⟩, R.hav, R.wants, R.gives, R.given⟩ : ReplM)).kept.log.length from lead_min _ _]
    rw [show (if R.kept.commit < min M.commit (((⟨R.me, ⟨R.kept.view, R.kept.normal, R.kept.calm, M.log, R.kept.commit⟩, R.hav, R.wants, R.gives, R.given⟩ : ReplM)).kept.log.length : Int) then min M.commit (((⟨R.me, ⟨R.kept.view, R.kept.normal, R.kept.calm, M.log, R.kept.commit⟩, R.hav, R.wants, R.gives, R.given⟩ : ReplM)).kept.log.length : Int) else R.kept.commit) = max ((⟨R.me, ⟨R.kept.view, R.kept.normal, R.kept.calm, M.log, R.kept.commit⟩, R.hav, R.wants, R.gives, R.given⟩ : ReplM)).kept.commit (min M.commit ((⟨R.me, ⟨R.kept.view, R.kept.normal, R.kept.calm, M.log, R.kept.commit⟩, R.hav, R.wants, R.gives, R.given⟩ : ReplM)).kept.log.length) from lead_max _ _]
    go_wp2_with fail
    have HT6 : Hid (TurnAt ((w5.drewN nq5).setCell ⟨b, 5, none⟩ (.int .i64 (max ((⟨R.me, ⟨R.kept.view, R.kept.normal, R.kept.calm, M.log, R.kept.commit⟩, R.hav, R.wants, R.gives, R.given⟩ : ReplM)).kept.commit (min M.commit ((⟨R.me, ⟨R.kept.view, R.kept.normal, R.kept.calm, M.log, R.kept.commit⟩, R.hav, R.wants, R.gives, R.given⟩ : ReplM)).kept.log.length)))) b B (bump RR M) L ∧ Beside B b w ((w5.drewN nq5).setCell ⟨b, 5, none⟩ (.int .i64 (max ((⟨R.me, ⟨R.kept.view, R.kept.normal, R.kept.calm, M.log, R.kept.commit⟩, R.hav, R.wants, R.gives, R.given⟩ : ReplM)).kept.commit (min M.commit ((⟨R.me, ⟨R.kept.view, R.kept.normal, R.kept.calm, M.log, R.kept.commit⟩, R.hav, R.wants, R.gives, R.given⟩ : ReplM)).kept.log.length))))) := by
      have k := turn_commit HT5.out (max ((⟨R.me, ⟨R.kept.view, R.kept.normal, R.kept.calm, M.log, R.kept.commit⟩, R.hav, R.wants, R.gives, R.given⟩ : ReplM)).kept.commit (min M.commit ((⟨R.me, ⟨R.kept.view, R.kept.normal, R.kept.calm, M.log, R.kept.commit⟩, R.hav, R.wants, R.gives, R.given⟩ : ReplM)).kept.log.length)) nq5
      rw [HRR.out]
      exact ⟨k.1, HB5.out.trans k.2⟩
    clear x0 x1 x2 x3 x4 x5 x6 x7 x8 x9 x10 f5 y5 HT5 HM5
    refine (tellHas_any b B (bump RR M) L _ HT6.out.1 hn (HT6.out.2.up hB)).mono ?_
    rintro e w7 ⟨rfl, ht7, hb7⟩
    have HE : Hid (TurnAt w7 b B (bump RR M) (L ++ [hasMsg (bump RR M) ((bump RR M).kept.view.tmod 3)]) ∧ Beside B b w w7) := ⟨ht7, HT6.out.2.trans hb7⟩
    clear ht7 hb7 HT6
    go_wp2_with fail
    go_end0
    exact ⟨rfl, HE.out⟩
  have hlg' : ¬ (R.kept.log.length : Int) < M.log.length := by omega
  have HRR : Hid (RR = R) := by
    unfold Hid
    rw [HR.out]
    unfold lead1
    rw [if_neg (fun q => q.elim hv hc), if_neg hlg]
  clear HR
  go_enter Tryd.func28, Tryd.ntmps28
  go_upto_region 1 with fail
  rw [← hw0]
  clear hw0
  go_quiet (fail)
  generalize nq = n1
  go_upto_region 3 with fail
  go_quiet (fail)
  have HT5 : Hid (TurnAt w0 b B R L) := HT.out
  have HM5 : Hid (Box w0 w.heap.size _ _) := HBM.out
  have HB5 : Hid (Beside B b w w0) := Beside.of (HB0.out.mono hB)
  clear x0 x1 x2 x3 x4 x5 x6 x7 x8 x9 x10 y0 y1 y2 y3 y4 y5 y6 y7
  obtain ⟨vl5, vh5, vw5, vg5, vn5, vs5, ps5, hx5, ho5, hm5⟩ := HT5.out
  obtain ⟨al5, cl5, hvl5⟩ := own_form ho5.2.1
  subst hvl5
  have bm5 := HM5.out
  have x0 := hx5.cell 0 _ rfl
  have x1 := hx5.cell 1 _ rfl
  have x2 := hx5.cell 2 _ rfl
  have x3 := hx5.cell 3 _ rfl
  have x4 := hx5.cell 4 _ rfl
  have x5 := hx5.cell 5 _ rfl
  have x6 := hx5.cell 6 _ rfl
  have x7 := hx5.cell 7 _ rfl
  have x8 := hx5.cell 8 _ rfl
  have x9 := hx5.cell 9 _ rfl
  have x10 := hx5.cell 10 _ rfl
  have f5 := hx5.frozen 5
  have y5 := bm5.cell 5 _ rfl
  clear hx5 ho5 hm5 bm5
  go_upto_region 5 with fail
  refine wp_region_two [0, 0, 0, 0, 0, 0, 0, 0, 0, 0, 0, 0, 0, 0, 0, 0, 0, 0, 0, 0, 0, 0, 1] (by kernel_rfl) (by kernel_rfl) ?_
  simp only [sel, ↓reduceIte, Nat.reduceEqDiff]
  repeat (go_big_quiet_step (fail))
  refine wpQuiet_nil ?_
  intro w9 hw9
  obtain ⟨nq5, rfl⟩ := hw9
  rw [show (if (R.kept.log.length : Int) < M.commit then (R.kept.log.length : Int) else M.commit) = min M.commit (R).kept.log.length from lead_min _ _]
  rw [show (if R.kept.commit < min M.commit ((R).kept.log.length : Int) then min M.commit ((R).kept.log.length : Int) else R.kept.commit) = max (R).kept.commit (min M.commit (R).kept.log.length) from lead_max _ _]
  go_wp2_with fail
  have HT6 : Hid (TurnAt ((w0.drewN (n1 + nq + nq5)).setCell ⟨b, 5, none⟩ (.int .i64 (max (R).kept.commit (min M.commit (R).kept.log.length)))) b B (bump RR M) L ∧ Beside B b w ((w0.drewN (n1 + nq + nq5)).setCell ⟨b, 5, none⟩ (.int .i64 (max (R).kept.commit (min M.commit (R).kept.log.length))))) := by
    have k := turn_commit HT5.out (max (R).kept.commit (min M.commit (R).kept.log.length)) (n1 + nq + nq5)
    rw [HRR.out]
    exact ⟨k.1, HB5.out.trans k.2⟩
  clear x0 x1 x2 x3 x4 x5 x6 x7 x8 x9 x10 f5 y5 HT5 HM5
  refine (tellHas_any b B (bump RR M) L _ HT6.out.1 hn (HT6.out.2.up hB)).mono ?_
  rintro e w7 ⟨rfl, ht7, hb7⟩
  have HE : Hid (TurnAt w7 b B (bump RR M) (L ++ [hasMsg (bump RR M) ((bump RR M).kept.view.tmod 3)]) ∧ Beside B b w w7) := ⟨ht7, HT6.out.2.trans hb7⟩
  clear ht7 hb7 HT6
  go_wp2_with fail
  go_end0
  exact ⟨rfl, HE.out⟩

end Go.Proofs.YtmdgkjbiicaljagDoor
