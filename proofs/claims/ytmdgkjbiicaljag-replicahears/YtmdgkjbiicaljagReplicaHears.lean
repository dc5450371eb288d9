/- For every replica and message, the law ReplicaHears answers true: replica.Hear answers what the document's answer does. No conditions but the form of the claim itself. -/
import Derived.Test.YtmdgkjbiicaljagJointKeptSame
import Derived.Test.YtmdgkjbiicaljagJointNumIs
import Derived.Test.YtmdgkjbiicaljagHeardRef
namespace Go.Proofs.Ytmdgkjbiicaljag
open Go.ChangeShapes Go.WideShapes Go.ChangeAt Go.RowKit Go.Deep
open Go.ChangeMaps (open_string shut_string)
set_option linter.unusedVariables false
set_option linter.unusedSimpArgs false
attribute [local go_sem] app_list ext_list get_list byteAt_zero

set_option maxRecDepth 4000 in
set_option maxHeartbeats 4000000 in
theorem replicaHears_walk (w : World) (R : ReplM) {cs : Array Value} (h : ReplAt w (.agg cs) R ∧ ReplFits R) (M : MsgM) {cs' : Array Value} (hm : MsgAt w (.agg cs') M ∧ TextsIn M.log) :
    Calls Try.prog 3 #[.agg cs, .agg cs'] w fun e w' => e = .returned (.bool true) ∧ Below w.heap.size w w' := by
  obtain ⟨h, hz⟩ := h
  obtain ⟨hm, hzM⟩ := hm
  have HCP : Hid (∀ W, Below w.heap.size w W → Calls _ _ _ W _) := fun W hW => replicaCopyOf_any R _ W (h.below hW) hz
  have HGO : Hid (∀ W v, ReplAt W v R → Below w.heap.size w W → Calls _ _ _ W _) := fun W v hW hB => hearGo_any R M v (.agg cs') W hW hz (hm.below hB) hzM
  have HRF : Hid (∀ W, Below w.heap.size w W → Calls _ _ _ W _) := fun W hW => heardOf_any R M _ (.agg cs') W (h.below hW) hz (hm.below hW) hzM
  have HK : Hid (ReplAt w (.agg cs) R) := h
  have HZ : Hid (ReplFits R ∧ ReplFits (hearR R M) ∧ MsgsFew 6 (hearL R M)) := ⟨hz, hearR_fits hz M hzM, hearL_few hz M hzM⟩
  clear hz hzM
  generalize hearE R M = EE at *
  generalize hearR R M = RR at *
  generalize hearL R M = LL at *
  obtain ⟨vl, vh, vw, vg, vn, hv, hl, hh, hw, hg, hn⟩ := h
  cases hv
  obtain ⟨al, cl, rfl, _, _⟩ := hl
  obtain ⟨ah, ch, rfl, _, _⟩ := hh
  obtain ⟨aw, cw, rfl, _, _⟩ := hw
  obtain ⟨ag, cg, rfl, _, _⟩ := hg
  obtain ⟨an, cn, rfl, _, _⟩ := hn
  obtain ⟨vm, hvm, hs⟩ := hm
  cases hvm
  obtain ⟨am, cm, rfl, _, _⟩ := hs
  simp only [replCells, msgCells] at HCP HRF HGO HK ⊢
  obtain ⟨b0, bm, hb⟩ := boxes2 w 29 31 [.int .i64 R.me, .int .i64 R.kept.view, .int .i64 R.kept.normal, .bool R.kept.calm, .slice al R.kept.log.length cl, .int .i64 R.kept.commit, .slice ah R.hav.length ch, .slice aw R.wants.length cw, .slice ag R.gives.length cg, .slice an R.given.length cn] [.int .i64 M.kind, .int .i64 M.frm, .int .i64 M.dst, .int .i64 M.view, .int .i64 M.normal, .int .i64 M.commit, .int .i64 M.n, .slice am M.log.length cm]
  go_enter Try.func3, Try.ntmps3
  go_wp2_with fail
  refine (HCP.out _ hb).mono ?_
  rintro e w1 ⟨v1, rfl, hn1, hb1⟩
  obtain ⟨al1, cl1, ah1, ch1, aw1, cw1, ag1, cg1, an1, cn1, rfl⟩ := hn1.form
  have r0 := b0.below hb1 b0.lt
  have HMB : Hid (Box w1 (w.heap.size + 1) 31 [.int .i64 M.kind, .int .i64 M.frm, .int .i64 M.dst, .int .i64 M.view, .int .i64 M.normal, .int .i64 M.commit, .int .i64 M.n, .slice am M.log.length cm]) := bm.below hb1 bm.lt
  have HB1 : Hid (Below w.heap.size w w1) := Below.far hb hb1
  have HN1 : Hid (ReplAt w1 _ R) := hn1.at HZ.out.1
  have HR0 : Hid (Box w1 w.heap.size _ _) := r0
  clear r0 b0 bm hb hb1 hn1 HCP
  have q0 := Box.new w1 29 [.int .i64 R.me, .int .i64 R.kept.view, .int .i64 R.kept.normal, .bool R.kept.calm, .slice al1 R.kept.log.length cl1, .int .i64 R.kept.commit, .slice ah1 R.hav.length ch1, .slice aw1 R.wants.length cw1, .slice ag1 R.gives.length cg1, .slice an1 R.given.length cn1]
  have hb2 := below_alloc w1 (.cells #[.int .i64 R.me, .int .i64 R.kept.view, .int .i64 R.kept.normal, .bool R.kept.calm, .slice al1 R.kept.log.length cl1, .int .i64 R.kept.commit, .slice ah1 R.hav.length ch1, .slice aw1 R.wants.length cw1, .slice ag1 R.gives.length cg1, .slice an1 R.given.length cn1] 29)
  obtain ⟨w2, hw2⟩ : ∃ w2, w2 = w1.alloc (.cells #[.int .i64 R.me, .int .i64 R.kept.view, .int .i64 R.kept.normal, .bool R.kept.calm, .slice al1 R.kept.log.length cl1, .int .i64 R.kept.commit, .slice ah1 R.hav.length ch1, .slice aw1 R.wants.length cw1, .slice ag1 R.gives.length cg1, .slice an1 R.given.length cn1] 29) := ⟨_, rfl⟩
  go_upto_region 2 with fail
  rw [← hw2] at q0 hb2 ⊢
  clear hw2
  have x0 := q0.cell 0 _ rfl
  have x1 := q0.cell 1 _ rfl
  have x2 := q0.cell 2 _ rfl
  have x3 := q0.cell 3 _ rfl
  have x4 := q0.cell 4 _ rfl
  have x5 := q0.cell 5 _ rfl
  have x6 := q0.cell 6 _ rfl
  have x7 := q0.cell 7 _ rfl
  have x8 := q0.cell 8 _ rfl
  have x9 := q0.cell 9 _ rfl
  have HMB2 : Hid (Box w2 (w.heap.size + 1) 31 [.int .i64 M.kind, .int .i64 M.frm, .int .i64 M.dst, .int .i64 M.view, .int .i64 M.normal, .int .i64 M.commit, .int .i64 M.n, .slice am M.log.length cm]) := HMB.out.below hb2 HMB.out.lt
  have bm2 := HMB2.out
  have z0 := bm2.cell 0 _ rfl
  have z1 := bm2.cell 1 _ rfl
  have z2 := bm2.cell 2 _ rfl
  have z3 := bm2.cell 3 _ rfl
  have z4 := bm2.cell 4 _ rfl
  have z5 := bm2.cell 5 _ rfl
  have z6 := bm2.cell 6 _ rfl
  have z7 := bm2.cell 7 _ rfl
  clear bm2
  have HQ2 : Hid (Box w2 w1.heap.size _ _) := q0
  have HB2 : Hid (Below w.heap.size w w2) := Below.far HB1.out hb2
  have HN2 : Hid (ReplAt w2 _ R) := HN1.out.below hb2
  have HR2 : Hid (Box w2 w.heap.size _ _) := HR0.out.below hb2 HR0.out.lt
  clear q0 hb2 HN1 HR0 HB1
  go_wp2_with fail
  refine (HGO.out w2 _ HN2.out HB2.out).mono ?_
  rintro e w3 ⟨v3, vs3, rfl, hn3, hm3, hb3⟩
  obtain ⟨al3, cl3, ah3, ch3, aw3, cw3, ag3, cg3, an3, cn3, rfl⟩ := hn3.form
  obtain ⟨as3, cs3, rfl⟩ := hm3.form
  have HB3 : Hid (Below w.heap.size w w3) := Below.far HB2.out hb3
  have HN3 : Hid (ReplAt w3 _ RR) := hn3.at HZ.out.2.1
  have HM3 : Hid (MsgsAt w3 _ LL) := hm3.at HZ.out.2.2 (by decide)
  have HQ3 : Hid (Box w3 w1.heap.size _ _) := HQ2.out.below hb3 HQ2.out.lt
  have HK3 : Hid (ReplAt w3 (.agg #[.int .i64 R.me, .int .i64 R.kept.view, .int .i64 R.kept.normal, .bool R.kept.calm, .slice al1 R.kept.log.length cl1, .int .i64 R.kept.commit, .slice ah1 R.hav.length ch1, .slice aw1 R.wants.length cw1, .slice ag1 R.gives.length cg1, .slice an1 R.given.length cn1]) R) := HN2.out.below hb3
  have HR3 : Hid (Box w3 w.heap.size _ _) := HR2.out.below hb3 HR2.out.lt
  have HMB3 : Hid (Box w3 (w.heap.size + 1) 31 [.int .i64 M.kind, .int .i64 M.frm, .int .i64 M.dst, .int .i64 M.view, .int .i64 M.normal, .int .i64 M.commit, .int .i64 M.n, .slice am M.log.length cm]) := HMB2.out.below hb3 HMB2.out.lt
  clear hn3 hm3 hb3 HN2 HQ2 HB2 HR2 x0 x1 x2 x3 x4 x5 x6 x7 x8 x9 z0 z1 z2 z3 z4 z5 z6 z7 HGO HMB HMB2
  have q4 := Box.new w3 29 [.int .i64 RR.me, .int .i64 RR.kept.view, .int .i64 RR.kept.normal, .bool RR.kept.calm, .slice al3 RR.kept.log.length cl3, .int .i64 RR.kept.commit, .slice ah3 RR.hav.length ch3, .slice aw3 RR.wants.length cw3, .slice ag3 RR.gives.length cg3, .slice an3 RR.given.length cn3]
  have hb4 := below_alloc w3 (.cells #[.int .i64 RR.me, .int .i64 RR.kept.view, .int .i64 RR.kept.normal, .bool RR.kept.calm, .slice al3 RR.kept.log.length cl3, .int .i64 RR.kept.commit, .slice ah3 RR.hav.length ch3, .slice aw3 RR.wants.length cw3, .slice ag3 RR.gives.length cg3, .slice an3 RR.given.length cn3] 29)
  obtain ⟨w4, hw4⟩ : ∃ w4, w4 = w3.alloc (.cells #[.int .i64 RR.me, .int .i64 RR.kept.view, .int .i64 RR.kept.normal, .bool RR.kept.calm, .slice al3 RR.kept.log.length cl3, .int .i64 RR.kept.commit, .slice ah3 RR.hav.length ch3, .slice aw3 RR.wants.length cw3, .slice ag3 RR.gives.length cg3, .slice an3 RR.given.length cn3] 29) := ⟨_, rfl⟩
  go_upto_region 3 with fail
  rw [← hw4] at q4 hb4 ⊢
  clear hw4
  have r4 := HR3.out.below hb4 HR3.out.lt
  have x0 := r4.cell 0 _ rfl
  have x1 := r4.cell 1 _ rfl
  have x2 := r4.cell 2 _ rfl
  have x3 := r4.cell 3 _ rfl
  have x4 := r4.cell 4 _ rfl
  have x5 := r4.cell 5 _ rfl
  have x6 := r4.cell 6 _ rfl
  have x7 := r4.cell 7 _ rfl
  have x8 := r4.cell 8 _ rfl
  have x9 := r4.cell 9 _ rfl
  have bm4 := HMB3.out.below hb4 HMB3.out.lt
  have z0 := bm4.cell 0 _ rfl
  have z1 := bm4.cell 1 _ rfl
  have z2 := bm4.cell 2 _ rfl
  have z3 := bm4.cell 3 _ rfl
  have z4 := bm4.cell 4 _ rfl
  have z5 := bm4.cell 5 _ rfl
  have z6 := bm4.cell 6 _ rfl
  have z7 := bm4.cell 7 _ rfl
  clear bm4
  have HQ4 : Hid (Box w4 w3.heap.size _ _) := q4
  have HB4 : Hid (Below w.heap.size w w4) := Below.far HB3.out hb4
  have HN4 : Hid (ReplAt w4 _ RR) := HN3.out.below hb4
  have HM4 : Hid (MsgsAt w4 _ LL) := HM3.out.below hb4
  have HK4 : Hid (ReplAt w4 (.agg #[.int .i64 R.me, .int .i64 R.kept.view, .int .i64 R.kept.normal, .bool R.kept.calm, .slice al1 R.kept.log.length cl1, .int .i64 R.kept.commit, .slice ah1 R.hav.length ch1, .slice aw1 R.wants.length cw1, .slice ag1 R.gives.length cg1, .slice an1 R.given.length cn1]) R) := HK3.out.below hb4
  have HP4 : Hid (Box w4 w1.heap.size _ _) := HQ3.out.below hb4 HQ3.out.lt
  have HR4 : Hid (Box w4 w.heap.size _ _) := r4
  clear q4 hb4 r4 HN3 HM3 HK3 HQ3 HB3 HR3
  go_wp2_with fail
  refine (HRF.out w4 HB4.out).mono ?_
  rintro e w5 ⟨v5, vs5, rfl, hn5, hm5, hb5⟩
  obtain ⟨al5, cl5, ah5, ch5, aw5, cw5, ag5, cg5, an5, cn5, rfl⟩ := hn5.form
  obtain ⟨as5, cs5, rfl⟩ := hm5.form
  clear x0 x1 x2 x3 x4 x5 x6 x7 x8 x9 z0 z1 z2 z3 z4 z5 z6 z7 HRF HMB3
  have q6 := Box.new w5 29 [.int .i64 RR.me, .int .i64 RR.kept.view, .int .i64 RR.kept.normal, .bool RR.kept.calm, .slice al5 RR.kept.log.length cl5, .int .i64 RR.kept.commit, .slice ah5 RR.hav.length ch5, .slice aw5 RR.wants.length cw5, .slice ag5 RR.gives.length cg5, .slice an5 RR.given.length cn5]
  have hb6 := below_alloc w5 (.cells #[.int .i64 RR.me, .int .i64 RR.kept.view, .int .i64 RR.kept.normal, .bool RR.kept.calm, .slice al5 RR.kept.log.length cl5, .int .i64 RR.kept.commit, .slice ah5 RR.hav.length ch5, .slice aw5 RR.wants.length cw5, .slice ag5 RR.gives.length cg5, .slice an5 RR.given.length cn5] 29)
  obtain ⟨w6, hw6⟩ : ∃ w6, w6 = w5.alloc (.cells #[.int .i64 RR.me, .int .i64 RR.kept.view, .int .i64 RR.kept.normal, .bool RR.kept.calm, .slice al5 RR.kept.log.length cl5, .int .i64 RR.kept.commit, .slice ah5 RR.hav.length ch5, .slice aw5 RR.wants.length cw5, .slice ag5 RR.gives.length cg5, .slice an5 RR.given.length cn5] 29) := ⟨_, rfl⟩
  have hbb : Below w4.heap.size w4 w6 := Below.far hb5 (by rw [hw6]; exact hb6)
  go_upto_region 4 with fail
  rw [← hw6] at q6 hb6 ⊢
  clear hw6
  have p4 := HQ4.out.below hbb HQ4.out.lt
  have x0 := p4.cell 0 _ rfl
  have x1 := p4.cell 1 _ rfl
  have x2 := p4.cell 2 _ rfl
  have x3 := p4.cell 3 _ rfl
  have x4 := p4.cell 4 _ rfl
  have x5 := p4.cell 5 _ rfl
  have x6 := p4.cell 6 _ rfl
  have x7 := p4.cell 7 _ rfl
  have x8 := p4.cell 8 _ rfl
  have x9 := p4.cell 9 _ rfl
  have y0 := q6.cell 0 _ rfl
  have y1 := q6.cell 1 _ rfl
  have y2 := q6.cell 2 _ rfl
  have y3 := q6.cell 3 _ rfl
  have y4 := q6.cell 4 _ rfl
  have y5 := q6.cell 5 _ rfl
  have y6 := q6.cell 6 _ rfl
  have y7 := q6.cell 7 _ rfl
  have y8 := q6.cell 8 _ rfl
  have y9 := q6.cell 9 _ rfl
  have HB6 : Hid (Below w.heap.size w w6) := Below.far HB4.out hbb
  have HN6 : Hid (∀ W, Below w6.heap.size w6 W → ReplAt W _ RR ∧ ReplAt W _ RR) := fun W hW => ⟨(HN4.out.below hbb).below hW, ((hn5.at HZ.out.2.1).below hb6).below hW⟩
  have HM6 : Hid (∀ W, Below w6.heap.size w6 W → MsgsAt W _ LL ∧ MsgsAt W _ LL) := fun W hW => ⟨(HM4.out.below hbb).below hW, ((hm5.at HZ.out.2.2 (by decide)).below hb6).below hW⟩
  have HK6 : Hid (∀ W, Below w6.heap.size w6 W → ReplAt W (.agg #[.int .i64 R.me, .int .i64 R.kept.view, .int .i64 R.kept.normal, .bool R.kept.calm, .slice al1 R.kept.log.length cl1, .int .i64 R.kept.commit, .slice ah1 R.hav.length ch1, .slice aw1 R.wants.length cw1, .slice ag1 R.gives.length cg1, .slice an1 R.given.length cn1]) R ∧ ReplAt W (.agg #[.int .i64 R.me, .int .i64 R.kept.view, .int .i64 R.kept.normal, .bool R.kept.calm, .slice al R.kept.log.length cl, .int .i64 R.kept.commit, .slice ah R.hav.length ch, .slice aw R.wants.length cw, .slice ag R.gives.length cg, .slice an R.given.length cn]) R) := fun W hW => ⟨(HK4.out.below hbb).below hW, (HK.out.below HB6.out).below hW⟩
  have HP6 : Hid (Box w6 w1.heap.size _ _) := HP4.out.below hbb HP4.out.lt
  have HR6 : Hid (Box w6 w.heap.size _ _) := HR4.out.below hbb HR4.out.lt
  clear q6 p4 hb5 hb6 hbb hn5 hm5 HN4 HM4 HK4 HP4 HR4 HB4 HQ4
  go_wp2_with fail
  refine (sameReplica_same _ _ _ _ (HN6.out _ (Below.refl _ _)).1 (HN6.out _ (Below.refl _ _)).2).mono ?_
  rintro e w7 ⟨rfl, hb7⟩
  clear x0 x1 x2 x3 x4 x5 x6 x7 x8 x9 y0 y1 y2 y3 y4 y5 y6 y7 y8 y9
  have HB7 : Hid (Below w6.heap.size w6 w7) := hb7
  clear hb7
  go_wp2_with fail
  refine (sameMessages_same LL _ _ _ (HM6.out _ HB7.out).1 (HM6.out _ HB7.out).2).mono ?_
  rintro e w8 ⟨rfl, hb8⟩
  have HB8 : Hid (Below w6.heap.size w6 w8) := Below.far HB7.out hb8
  have p8 := HP6.out.below HB8.out HP6.out.lt
  have r8 := HR6.out.below HB8.out HR6.out.lt
  have x0 := p8.cell 0 _ rfl
  have x1 := p8.cell 1 _ rfl
  have x2 := p8.cell 2 _ rfl
  have x3 := p8.cell 3 _ rfl
  have x4 := p8.cell 4 _ rfl
  have x5 := p8.cell 5 _ rfl
  have x6 := p8.cell 6 _ rfl
  have x7 := p8.cell 7 _ rfl
  have x8 := p8.cell 8 _ rfl
  have x9 := p8.cell 9 _ rfl
  have y0 := r8.cell 0 _ rfl
  have y1 := r8.cell 1 _ rfl
  have y2 := r8.cell 2 _ rfl
  have y3 := r8.cell 3 _ rfl
  have y4 := r8.cell 4 _ rfl
  have y5 := r8.cell 5 _ rfl
  have y6 := r8.cell 6 _ rfl
  have y7 := r8.cell 7 _ rfl
  have y8 := r8.cell 8 _ rfl
  have y9 := r8.cell 9 _ rfl
  clear p8 r8 hb8
  go_wp2_with fail
  refine (sameReplica_same R _ _ _ (HK6.out _ HB8.out).1 (HK6.out _ HB8.out).2).mono ?_
  rintro e w9 ⟨rfl, hb9⟩
  have HB9 : Hid (Below w.heap.size w w9) := Below.far HB6.out (Below.far HB8.out hb9)
  clear hb9 x0 x1 x2 x3 x4 x5 x6 x7 x8 x9 y0 y1 y2 y3 y4 y5 y6 y7 y8 y9
  go_wp2_with fail
  go_ret
  exact ⟨rfl, HB9.out⟩

theorem replicaHears_own : ownKnob Try.prog.godebug = none := by kernel_rfl
theorem replicaHears_laidOut : laidOutB Try.prog = true := by kernel_rfl

set_option maxRecDepth 100000 in
theorem replicaHears_lifted (os : Os) (started : os.Started) (H : Type) (enc : TypeId × Value → H) :
    ReturnsInHanded {} Try.checked os 3 .any (Rows.replicaHearsSpec.pre6 enc Try.prog Try.f3 Rows.replicaHearsRow.domain false) (Rows.replicaHearsSpec.post enc Try.prog Try.f3 false true false false) := by
  refine returnsInHanded_of_change_sized (C := Try.checked) replicaHears_own started (by kernel_rfl) Try.func3
    (ChangeSpec.witness6 (enc := enc) (C := Try.checked) false ⟨#[], #[.agg #[.int .i64 0, .int .i64 0, .int .i64 0, .bool false, .slice none 0 0, .int .i64 0, .slice none 0 0, .slice none 0 0, .slice none 0 0, .slice none 0 0], .agg #[.int .i64 0, .int .i64 0, .int .i64 0, .int .i64 0, .int .i64 0, .int .i64 0, .int .i64 0, .slice none 0 0]], []⟩ 8 (by kernel_rfl) (by kernel_rfl) (by kernel_rfl) (by kernel_rfl)) ?_
  intro W base args ds gs before hval0 hW hcnd hsz0 _
  have hval : ∀ (j : Nat) t v, Try.f3.params[j]? = some t → args[j]? = some v → Value.okWide Try.prog W .any base t v := hval0
  have hsz : (DataW.weightsEach Try.prog (Try.f3.params.toList ++ Rows.replicaHearsSpec.plain.varTypes Try.prog) (ds ++ gs)).all (· ≤ reachBytes) = true := hsz0
  have hW' := hW
  obtain ⟨p, q, hA0, hV, rfl, hfz, hnd⟩ := hW
  have hA : DataW.TrodAll enc Try.prog W 0 (fun _ => true) true Try.f3.params.toList args.toList ds p := hA0
  rw [Try.params3] at hA hval hsz
  obtain ⟨v0, vs0, d0, ds0, p0, q0, hargs, rfl, rfl, h0, r0⟩ := trodAll_cons hA
  obtain ⟨v1, vs1, d1, ds1, p1, q1, rfl, rfl, rfl, h1, r1⟩ := trodAll_cons r0
  obtain ⟨rfl, rfl, rfl⟩ := trodAll_nil r1
  obtain rfl : args = #[v0, v1] := by cases args; simp_all
  obtain ⟨rfl, rfl⟩ := trodVars_none hV
  have k0 := h0
  have lt0 : ∀ x ∈ p0, x.block < W.heap.size := by obtain ⟨m, hm⟩ := k0; exact DataW.trod_lt m _ _ _ hm
  have k1 := h1
  have lt1 : ∀ x ∈ p1, x.block < W.heap.size := by obtain ⟨m, hm⟩ := k1; exact DataW.trod_lt m _ _ _ hm
  obtain ⟨cs0, rfl, _⟩ := okWide_struct Try.underlying29 (hval 0 29 v0 rfl rfl)
  obtain ⟨fu0, hf0⟩ := h0
  obtain ⟨x0, hx0⟩ := arg_repl hf0 (within_of hsz (j := 0) rfl rfl)
  obtain ⟨cs1, rfl, _⟩ := okWide_struct Try.underlying31 (hval 1 31 v1 rfl rfl)
  obtain ⟨fu1, hf1⟩ := h1
  obtain ⟨x1, hx1⟩ := arg_msg hf1 (within_of hsz (j := 1) rfl rfl)
  clear hA0 hval0 hsz hsz0
  refine (replicaHears_walk W x0 hx0 x1 hx1).mono fun e W' ⟨he, bel⟩ => ?_
  subst he
  exact ⟨_, rfl, _, _, _, [], _, [], hW', trodAll_mk1 (shut_bool Try.underlying4 _), (trodAll_cons_mk (Below.trod replicaHears_laidOut (by kernel_rfl) (of_decide_eq_true (by kernel_rfl)) k0 bel lt0) (trodAll_cons_mk (Below.trod replicaHears_laidOut (by kernel_rfl) (of_decide_eq_true (by kernel_rfl)) k1 bel lt1) trodAll_mk0)), rfl, bel.frame _, fun h => by cases h⟩

theorem replicaHears_holds : Rows.ReplicaHearsSaid :=
  OpenClaim.holds_of_wide 3 Try.f3 rfl rfl rfl rfl rfl rfl rfl ⟨rfl, rfl, rfl, rfl, rfl⟩ rfl rfl rfl rfl rfl (by kernel_rfl) Try.func3 (by kernel_rfl)
    (of_decide_eq_true (by kernel_rfl)) (by unfold Func.isWrapper; first | (rw [if_pos (by decide +kernel)]; kernel_rfl) | (rw [if_neg (by decide +kernel)]; exact ⟨rfl, rfl⟩))
    (fun os started H enc _ => replicaHears_lifted os started H enc)
#print axioms replicaHears_holds
end Go.Proofs.Ytmdgkjbiicaljag
