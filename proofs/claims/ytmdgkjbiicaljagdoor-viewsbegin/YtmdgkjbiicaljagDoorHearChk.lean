/- The program's own: may a message be heard; the wish for its view. -/
import Derived.Test.YtmdgkjbiicaljagDoorJointTickKit
import Derived.Test.YtmdgkjbiicaljagDoorMsgGo
namespace Go.Proofs.YtmdgkjbiicaljagDoor
open Go.RowKit
set_option linter.unusedVariables false
set_option linter.unusedSimpArgs false

set_option maxRecDepth 4000 in
set_option maxHeartbeats 4000000 in
theorem checkHeard_any (R : ReplM) (M : MsgM) (v u : Value) (w : World) (h : ReplAt w v R) (hm : MsgAt w u M) :
    Calls Tryd.prog 27 #[v, u] w fun e w' => e = .returned (.int .i64 (hearE R M)) ∧ Below w.heap.size w w' := by
  have HC : Hid (∀ W, Below w.heap.size w W → Calls _ _ _ W _) := fun W hW => replCheck_any R _ W (h.below hW)
  have HM : Hid (∀ W, Below w.heap.size w W → Calls _ _ _ W _) := fun W hW => msgCheck_any M _ W (hm.below hW)
  have HE : Hid (hearE R M = if replFault R ≠ 0 then replFault R else if msgFault M ≠ 0 then msgFault M else if M.dst ≠ R.me then 6 else if M.view < R.kept.view then 9 else 0) := rfl
  generalize hearE R M = EE at *
  generalize replFault R = F1 at *
  generalize msgFault M = F2 at *
  obtain ⟨vl, vh, vw, vg, vn, rfl, hl, hh, hw, hg, hn⟩ := h
  obtain ⟨al, cl, rfl, _, _⟩ := hl
  obtain ⟨ah, ch, rfl, _, _⟩ := hh
  obtain ⟨aw, cw, rfl, _, _⟩ := hw
  obtain ⟨ag, cg, rfl, _, _⟩ := hg
  obtain ⟨an, cn, rfl, _, _⟩ := hn
  obtain ⟨vm, rfl, hm⟩ := hm
  obtain ⟨am, cm, rfl, _, _⟩ := hm
  simp only [replCells, msgCells] at *
  obtain ⟨b0, b1, hb⟩ := boxes2 w 30 43 [.int .i64 R.me, .int .i64 R.kept.view, .int .i64 R.kept.normal, .bool R.kept.calm, .slice al R.kept.log.length cl, .int .i64 R.kept.commit, .slice ah R.hav.length ch, .slice aw R.wants.length cw, .slice ag R.gives.length cg, .slice an R.given.length cn] [.int .i64 M.kind, .int .i64 M.frm, .int .i64 M.dst, .int .i64 M.view, .int .i64 M.normal, .int .i64 M.commit, .int .i64 M.n, .slice am M.log.length cm]
  obtain ⟨w0, hw0⟩ : ∃ w0, w0 = (w.alloc (.cells #[.int .i64 R.me, .int .i64 R.kept.view, .int .i64 R.kept.normal, .bool R.kept.calm, .slice al R.kept.log.length cl, .int .i64 R.kept.commit, .slice ah R.hav.length ch, .slice aw R.wants.length cw, .slice ag R.gives.length cg, .slice an R.given.length cn] 30)).alloc (.cells #[.int .i64 M.kind, .int .i64 M.frm, .int .i64 M.dst, .int .i64 M.view, .int .i64 M.normal, .int .i64 M.commit, .int .i64 M.n, .slice am M.log.length cm] 43) := ⟨_, rfl⟩
  go_enter Tryd.func27, Tryd.ntmps27
  go_upto_region 1 with fail
  rw [← hw0] at b0 b1 hb ⊢
  clear hw0
  have HB0 : Hid (Box w0 w.heap.size _ _) := b0
  have HB1 : Hid (Box w0 (w.heap.size + 1) _ _) := b1
  have HBW : Hid (Below w.heap.size w w0) := hb
  have x0 := b0.cell 0 _ rfl
  have x1 := b0.cell 1 _ rfl
  have x2 := b0.cell 2 _ rfl
  have x3 := b0.cell 3 _ rfl
  have x4 := b0.cell 4 _ rfl
  have x5 := b0.cell 5 _ rfl
  have x6 := b0.cell 6 _ rfl
  have x7 := b0.cell 7 _ rfl
  have x8 := b0.cell 8 _ rfl
  have x9 := b0.cell 9 _ rfl
  clear b0 b1 hb
  go_wp2_with fail
  refine (HC.out _ HBW.out).mono ?_
  rintro e w1 ⟨rfl, hb1⟩
  have r0 := HB0.out.below hb1 HB0.out.lt
  have r1 := HB1.out.below hb1 HB1.out.lt
  have HBE : Hid (Below w.heap.size w w1) := Below.far HBW.out hb1
  have HR0 : Hid (Box w1 w.heap.size _ _) := r0
  have HR1 : Hid (Box w1 (w.heap.size + 1) _ _) := r1
  clear hb1 x0 x1 x2 x3 x4 x5 x6 x7 x8 x9 HC HB0 HB1 HBW
  have y0 := r1.cell 0 _ rfl
  have y1 := r1.cell 1 _ rfl
  have y2 := r1.cell 2 _ rfl
  have y3 := r1.cell 3 _ rfl
  have y4 := r1.cell 4 _ rfl
  have y5 := r1.cell 5 _ rfl
  have y6 := r1.cell 6 _ rfl
  have y7 := r1.cell 7 _ rfl
  clear r0 r1
  by_cases h1 : F1 = 0
  case neg =>
    have HX : Hid (EE = F1) := by unfold Hid; rw [HE.out, if_pos h1]
    clear HE HM
    go_wp2_with fail
    go_ret
    exact ⟨by rw [HX.out]; rfl, HBE.out⟩
  subst h1
  go_wp2_with fail
  refine (HM.out _ HBE.out).mono ?_
  rintro e w2 ⟨rfl, hb2⟩
  have r0 := HR0.out.below hb2 HR0.out.lt
  have r1 := HR1.out.below hb2 HR1.out.lt
  have HBF : Hid (Below w.heap.size w w2) := Below.far HBE.out hb2
  clear hb2 y0 y1 y2 y3 y4 y5 y6 y7 HM HR0 HR1 HBE
  have x0 := r0.cell 0 _ rfl
  have x1 := r0.cell 1 _ rfl
  have y2 := r1.cell 2 _ rfl
  have y3 := r1.cell 3 _ rfl
  clear r0 r1
  by_cases h2 : F2 = 0
  case neg =>
    have HX : Hid (EE = F2) := by unfold Hid; rw [HE.out, if_neg (by simp), if_pos h2]
    clear HE
    go_wp2_with fail
    go_ret
    exact ⟨by rw [HX.out]; rfl, HBF.out⟩
  subst h2
  by_cases h3 : M.dst = R.me
  case neg =>
    have HX : Hid (EE = 6) := by unfold Hid; rw [HE.out, if_neg (by simp), if_neg (by simp), if_pos h3]
    have q : (M.dst != R.me) = true := by simpa using h3
    clear HE
    go_wp2_with fail
    go_ret
    exact ⟨by rw [HX.out]; rfl, HBF.out⟩
  have q : (M.dst != R.me) = false := by simpa using h3
  by_cases h4 : M.view < R.kept.view
  · have HX : Hid (EE = 9) := by unfold Hid; rw [HE.out, if_neg (by simp), if_neg (by simp), if_neg (by simpa using h3), if_pos h4]
    clear HE h3
    go_wp2_with fail
    go_ret
    exact ⟨by rw [HX.out]; rfl, HBF.out⟩
  · have HX : Hid (EE = 0) := by unfold Hid; rw [HE.out, if_neg (by simp), if_neg (by simp), if_neg (by simpa using h3), if_neg h4]
    clear HE h3
    go_wp2_with fail
    go_ret
    exact ⟨by rw [HX.out]; rfl, HBF.out⟩

set_option maxRecDepth 4000 in
set_option maxHeartbeats 4000000 in
theorem wantHigher_any (b B : Nat) (R : ReplM) (L : List MsgM) (M : MsgM) (vm : Value) (w : World) (h : TurnAt w b B R L) (hm : ∃ am cm, vm = .slice am M.log.length cm) (hme : 0 ≤ R.me) (hme' : R.me < 3) (hn : L.length ≤ 900) (hB : B ≤ w.heap.size) :
    Calls Tryd.prog 46 #[.pointer (some ⟨b, 0, none⟩), .agg (msgCells M vm).toArray] w fun e w' => e = .returned (.tuple #[]) ∧ TurnAt w' b B (if R.kept.view < M.view then wantR R M.view else R) (L ++ if R.kept.view < M.view then wantL R M.view else []) ∧ Beside B b w w' ∧ Leaves 68 b w w' := by
  obtain ⟨am, cm, rfl⟩ := hm
  have N1 : Hid (R.kept.view < M.view → (if R.kept.view < M.view then wantR R M.view else R) = wantR R M.view ∧ (L ++ if R.kept.view < M.view then wantL R M.view else []) = L ++ wantL R M.view) := fun hlt => by rw [if_pos hlt, if_pos hlt]; exact ⟨rfl, rfl⟩
  have N2 : Hid (¬ R.kept.view < M.view → (if R.kept.view < M.view then wantR R M.view else R) = R ∧ (L ++ if R.kept.view < M.view then wantL R M.view else []) = L) := fun hlt => by rw [if_neg hlt, if_neg hlt, List.append_nil]; exact ⟨rfl, rfl⟩
  generalize (if R.kept.view < M.view then wantR R M.view else R) = RR at *
  generalize (L ++ if R.kept.view < M.view then wantL R M.view else []) = LL at *
  have bm := Box.new w 43 [.int .i64 M.kind, .int .i64 M.frm, .int .i64 M.dst, .int .i64 M.view, .int .i64 M.normal, .int .i64 M.commit, .int .i64 M.n, .slice am M.log.length cm]
  obtain ⟨w0, hw0⟩ : ∃ w0, w0 = w.alloc (.cells #[.int .i64 M.kind, .int .i64 M.frm, .int .i64 M.dst, .int .i64 M.view, .int .i64 M.normal, .int .i64 M.commit, .int .i64 M.n, .slice am M.log.length cm] 43) := ⟨_, rfl⟩
  have hb0 : Below w.heap.size w w0 := by rw [hw0]; exact below_alloc _ _
  have hs0 : w0.heap.size = w.heap.size + 1 := by rw [hw0]; simp
  have h0 := turn_below h hb0
  have HLV : Hid (Leaves 68 b w w0) := by
    obtain ⟨_, _, _, _, _, _, _, hxw, _⟩ := h
    exact Leaves.below hxw hb0
  simp only [msgCells]
  rw [← hw0] at bm
  have HB0 : Hid (Below w.heap.size w w0) := hb0
  have HS0 : Hid (w0.heap.size = w.heap.size + 1) := hs0
  have HT : Hid (TurnAt w0 b B R L) := h0
  obtain ⟨vl, vh, vw, vg, vn, vs, ps, hx, ho, hmn⟩ := h0
  have x1 := hx.cell 1 _ rfl
  have y3 := bm.cell 3 _ rfl
  clear hx ho hmn bm h hb0 hs0
  go_enter Tryd.func46, Tryd.ntmps46
  go_upto_region 1 with fail
  rw [← hw0]
  clear hw0
  go_quiet (fail)
  by_cases hlt : R.kept.view < M.view
  · obtain ⟨e1, e2⟩ := N1.out hlt
    subst e1 e2
    clear N1 N2
    go_wp2_with fail
    refine (want_any b B R M.view L _ (turn_below HT.out (below_drew_n _ _)) hme hme' hn (by show B ≤ w0.heap.size; have := HS0.out; omega)).mono ?_
    rintro e w2 ⟨rfl, ht2, hb2, hl2⟩
    have HE : Hid (TurnAt w2 b B (wantR R M.view) (L ++ wantL R M.view) ∧ Beside B b w w2 ∧ Leaves 68 b w w2) := ⟨ht2, (Beside.of (HB0.out.mono hB)).trans ((Beside.of ((below_drew_n _ _).mono (by have := HS0.out; omega))).trans hb2), (HLV.out.trans (Leaves.refl _ _ _)).trans hl2⟩
    clear ht2 hb2 hl2 x1 y3
    go_wp2_with fail
    go_end0
    exact ⟨rfl, HE.out⟩
  · obtain ⟨e1, e2⟩ := N2.out hlt
    subst e1 e2
    clear N1 N2
    go_wp2_with fail
    go_end0
    exact ⟨rfl, turn_below HT.out (below_drew_n _ _), (Beside.of (HB0.out.mono hB)).trans (Beside.of ((below_drew_n _ _).mono (by have := HS0.out; omega))), HLV.out⟩

end Go.Proofs.YtmdgkjbiicaljagDoor
