/- The walk of LeadersLead. -/
import Derived.Test.YtmdgkjbiicaljagDoorJointReqsMath
import Derived.Test.YtmdgkjbiicaljagDoorJointEntriesIs
import Derived.Test.YtmdgkjbiicaljagDoorJointRawMem
import Derived.OpenShut
namespace Go.Proofs.YtmdgkjbiicaljagDoor
open Go.RowKit
set_option linter.unusedVariables false
set_option linter.unusedSimpArgs false

def calmK : KeptM := ⟨0, 0, true, [], 0⟩
def LLInv (w : World) (E : List (List UInt8)) (o : Int) (ab oc bb : Nat) (ev : Value) (k : Nat) (wr : World) : Prop :=
  ∃ a b, LLAt o E k a b ∧ ReplBox wr w.heap.size ab a ∧ ReplBox wr w.heap.size bb b ∧ wr.ownsRow w.heap.size 9 1 ev E.length (E.map enc) ∧ Box wr oc 3 [.int .i64 o] ∧ Below w.heap.size w wr
theorem new_calm (me : Int) (h0 : 0 ≤ me) (h1 : me ≤ 2) : newrE me calmK = 0 ∧ (newrR me calmK).kept = calmK ∧ (newrR me calmK).me = me ∧ ReplMay (newrR me calmK) := by
  have e : newrE me calmK = 0 := by unfold newrE; rw [if_pos ⟨h0, h1⟩]; decide
  have er : newrR me calmK = forgot ⟨me, calmK, [], [], [], []⟩ := by unfold newrR; rw [if_pos e]
  rw [er]
  exact ⟨e, rfl, rfl, forgot_may _ h0 h1 (show keptFault calmK = 0 by decide)⟩
theorem lead_at (E : List (List UInt8)) (k oi : Nat) (h : oi < 2) : [leadMsg E k 1, leadMsg E k 2][oi]? = some (leadMsg E k ((oi : Int) + 1)) := by
  match oi, h with
  | 0, _ => rfl
  | 1, _ => rfl
theorem idx_lead (E : List (List UInt8)) (i : Nat) (oi : Nat) (h : oi < 2) : idxOf (fun M => M.dst == (oi : Int) + 1) [leadMsg E i 1, leadMsg E i 2] = oi := by
  match oi, h with
  | 0, _ => rfl
  | 1, _ => rfl

set_option maxRecDepth 4000 in
set_option maxHeartbeats 16000000 in
theorem leadersLead_walk (w : World) (l : List RawM) {v : Value} (h : Raws w v l) (tp : Int) (wn : (Lit.int .i64 tp).wf = true) (ht : Tab w) :
    Calls Tryd.prog 3 #[v, .int .i64 tp] w fun e w' => e = .returned (.bool true) ∧ Below w.heap.size w w' := by
  have hn : -9223372036854775808 ≤ tp ∧ tp ≤ 9223372036854775807 := bounds_i64 wn
  have hp := pickN_bd tp 2 (by omega)
  have HPK : Hid (∀ W, Calls Tryd.prog 6 #[.int .i64 tp, .int .i64 2] W _) := fun W => picked_any tp 2 W hn.1 hn.2 (by omega) (by omega)
  obtain ⟨oi, hoi⟩ : ∃ oi : Nat, pickN tp 2 = oi := ⟨(pickN tp 2).toNat, by omega⟩
  rw [hoi] at hp HPK
  have HOI : Hid (oi < 2) := by show oi < 2; omega
  have HRW : Hid (∀ W, Below w.heap.size w W → Raws W v l) := fun W hW => h.below hW
  have HTB : Hid (∀ W, Below w.heap.size w W → Tab W) := fun W hW => ht.below hW
  have HNA : Hid (∀ W v, KeptAt W v calmK → Calls Tryd.prog 5 #[.int .i64 0, v] W _) := fun W v hv => replNew_any 0 calmK v W hv (by decide)
  have HNB : Hid (∀ W v, KeptAt W v calmK → Calls Tryd.prog 5 #[.int .i64 ((oi : Int) + 1), v] W _) := fun W v hv => replNew_any ((oi : Int) + 1) calmK v W hv (by decide)
  have hca := new_calm 0 (by omega) (by omega)
  have hcb := new_calm ((oi : Int) + 1) (by omega) (by omega)
  obtain ⟨RA, hRA⟩ : ∃ RA, newrR 0 calmK = RA := ⟨_, rfl⟩
  obtain ⟨RB, hRB⟩ : ∃ RB, newrR ((oi : Int) + 1) calmK = RB := ⟨_, rfl⟩
  rw [hRA, hca.1] at HNA
  rw [hRB, hcb.1] at HNB
  rw [hRA] at hca
  rw [hRB] at hcb
  have HLA : Hid (RA.kept = calmK ∧ RA.me = 0 ∧ ReplMay RA) := hca.2
  have HLB : Hid (RB.kept = calmK ∧ RB.me = (oi : Int) + 1 ∧ ReplMay RB) := hcb.2
  have o0 : (0 : Int) ≤ (oi : Int) := by omega
  have o1 : (oi : Int) < 2 := by omega
  obtain ⟨ax, cx, rfl, hq1, hq2⟩ := h
  clear hq1 hq2 ht wn hn hp hoi hca hcb hRA hRB
  go_enter Tryd.func3, Tryd.ntmps3
  go_wp2_with fail
  refine (HNA.out w _ ⟨.slice none 0 0, rfl, ⟨none, 0, rfl, by decide, fun i hi => absurd hi (by simp [calmK])⟩⟩).mono ?_
  rintro e w1 ⟨v1, rfl, hr1, hb1⟩
  obtain ⟨al, cl, ah, ch, aw, cw, ag, cg, an, cn, rfl⟩ := hr1.form
  have b1 := Box.new w1 30 [.int .i64 RA.me, .int .i64 RA.kept.view, .int .i64 RA.kept.normal, .bool RA.kept.calm, .slice al RA.kept.log.length cl, .int .i64 RA.kept.commit, .slice ah RA.hav.length ch, .slice aw RA.wants.length cw, .slice ag RA.gives.length cg, .slice an RA.given.length cn]
  obtain ⟨w2, hw2⟩ : ∃ w2, w2 = w1.alloc (.cells #[.int .i64 RA.me, .int .i64 RA.kept.view, .int .i64 RA.kept.normal, .bool RA.kept.calm, .slice al RA.kept.log.length cl, .int .i64 RA.kept.commit, .slice ah RA.hav.length ch, .slice aw RA.wants.length cw, .slice ag RA.gives.length cg, .slice an RA.given.length cn] 30) := ⟨_, rfl⟩
  have hb2 : Below w1.heap.size w1 w2 := by rw [hw2]; exact below_alloc _ _
  rw [← hw2] at b1
  obtain ⟨ab, hab⟩ : ∃ ab, w1.heap.size = ab := ⟨_, rfl⟩
  rw [hab] at b1
  have HXA : Hid (ReplBox w2 w.heap.size ab RA) := ⟨al, cl, ah, ch, aw, cw, ag, cg, an, cn, b1, hr1.below hb2⟩
  have HB2 : Hid (Below w.heap.size w w2) := Below.far hb1 hb2
  have HAL : Hid (w.heap.size ≤ ab ∧ ab < w2.heap.size) := ⟨by rw [← hab]; exact hb1.size, b1.lt⟩
  clear hr1 hb1 hb2 b1
  go_upto_region 2 with fail
  rw [← hw2]
  try rw [hab]
  clear hw2 hab
  go_wp2_with fail
  refine (HPK.out w2).mono ?_
  rintro e w2' ⟨rfl, e2⟩
  subst e2
  have b3 := Box.new w2' 3 [.int .i64 ((oi : Int) + 1)]
  obtain ⟨w3, hw3⟩ : ∃ w3, w3 = w2'.alloc (.cells #[.int .i64 ((oi : Int) + 1)] 3) := ⟨_, rfl⟩
  have hb3 : Below w2'.heap.size w2' w3 := by rw [hw3]; exact below_alloc _ _
  rw [← hw3] at b3
  obtain ⟨oc, hoc⟩ : ∃ oc, w2'.heap.size = oc := ⟨_, rfl⟩
  rw [hoc] at b3
  have HOC : Hid (Box w3 oc 3 [.int .i64 ((oi : Int) + 1)]) := b3
  have HX3 : Hid (ReplBox w3 w.heap.size ab RA) := HXA.out.below hb3
  have HB3 : Hid (Below w.heap.size w w3) := Below.far HB2.out hb3
  have HCL : Hid (ab < oc ∧ oc < w3.heap.size) := ⟨by rw [← hoc]; exact HAL.out.2, b3.lt⟩
  clear hb3 b3 HXA
  have e1 : (1 : Int) + (oi : Int) = (oi : Int) + 1 := by omega
  go_upto_region 3 with fail
  try rw [e1]
  rw [← hw3]
  try rw [hoc]
  clear hw3 hoc
  have hx := HOC.out
  have x0 := hx.cell 0 _ rfl
  clear hx
  go_wp2_with fail
  refine (HNB.out w3 _ ⟨.slice none 0 0, rfl, ⟨none, 0, rfl, by decide, fun i hi => absurd hi (by simp [calmK])⟩⟩).mono ?_
  rintro e w4 ⟨v4, rfl, hr4, hb4⟩
  obtain ⟨alb, clb, ahb, chb, awb, cwb, agb, cgb, anb, cnb, rfl⟩ := hr4.form
  have b5 := Box.new w4 30 [.int .i64 RB.me, .int .i64 RB.kept.view, .int .i64 RB.kept.normal, .bool RB.kept.calm, .slice alb RB.kept.log.length clb, .int .i64 RB.kept.commit, .slice ahb RB.hav.length chb, .slice awb RB.wants.length cwb, .slice agb RB.gives.length cgb, .slice anb RB.given.length cnb]
  obtain ⟨w5, hw5⟩ : ∃ w5, w5 = w4.alloc (.cells #[.int .i64 RB.me, .int .i64 RB.kept.view, .int .i64 RB.kept.normal, .bool RB.kept.calm, .slice alb RB.kept.log.length clb, .int .i64 RB.kept.commit, .slice ahb RB.hav.length chb, .slice awb RB.wants.length cwb, .slice agb RB.gives.length cgb, .slice anb RB.given.length cnb] 30) := ⟨_, rfl⟩
  have hb5 : Below w4.heap.size w4 w5 := by rw [hw5]; exact below_alloc _ _
  rw [← hw5] at b5
  obtain ⟨bb, hbb⟩ : ∃ bb, w4.heap.size = bb := ⟨_, rfl⟩
  rw [hbb] at b5
  have HXB : Hid (ReplBox w5 w.heap.size bb RB) := ReplBox.base ⟨alb, clb, ahb, chb, awb, cwb, agb, cgb, anb, cnb, b5, hr4.below hb5⟩ HB3.out.size
  have hb35 : Below w3.heap.size w3 w5 := Below.far hb4 hb5
  have HX5 : Hid (ReplBox w5 w.heap.size ab RA) := HX3.out.below hb35
  have HO5 : Hid (Box w5 oc 3 [.int .i64 ((oi : Int) + 1)]) := HOC.out.below hb35 HOC.out.lt
  have HB5 : Hid (Below w.heap.size w w5) := Below.far HB3.out hb35
  have HBL : Hid (oc < bb) := by have := HCL.out.2; have := hb4.size; show oc < bb; omega
  clear hr4 hb4 hb5 b5 hb35 HX3 HOC x0
  go_upto_region 6 with fail
  rw [← hw5]
  try rw [hbb]
  clear hw5 hbb
  have h12 : (l.take 12).length ≤ 12 := List.length_take_le _ _
  have hok := reqsOf_ok (l.take 12) nx0 0 rfl (by omega) (by intro x hx; simp [nx0] at hx; omega)
  have hql := reqsOf_len nx0 (l.take 12)
  have hmin : min l.length 12 = (reqsOf nx0 (l.take 12)).length := by rw [hql, List.length_take, Nat.min_comm]
  have HRQ : Hid (Calls Tryd.prog 8 #[.slice ax l.length cx, .int .i64 12] w5 _) := requests_any l 12 _ w5 (HRW.out w5 HB5.out) (HTB.out w5 HB5.out) (by omega)
  rw [hmin] at HRQ
  obtain ⟨q, hq⟩ : ∃ q, reqsOf nx0 (l.take 12) = q := ⟨_, rfl⟩
  rw [hq] at HRQ hok hql
  have HQ : Hid ((∀ r ∈ q, reqFault r = 0) ∧ q.length ≤ 12) := ⟨hok, by omega⟩
  clear h12 hok hql hmin hq
  go_wp2_with fail
  refine HRQ.out.mono ?_
  rintro e w6 ⟨v6, rfl, hown6, hb6⟩
  have hra : ReqsAt w6 v6 q := ReqsAt.of_own hown6 (by have := HQ.out.2; omega)
  obtain ⟨E, hE, hEl, hE0, hE40, hCC⟩ := entries_is q v6 w6 hra HQ.out.1
  obtain ⟨a6, c6, rfl⟩ := own_formN hown6
  have HCC : Hid (Calls _ _ _ w6 _) := hCC
  have HE : Hid (E.length ≤ 12 ∧ (∀ s ∈ E, decE s = 0) ∧ ∀ s ∈ E, s.length ≤ 40) := ⟨by have := HQ.out.2; omega, hE0, hE40⟩
  have HB6 : Hid (Below w5.heap.size w5 w6) := hb6
  clear hra hE hEl hE0 hE40 hCC hown6 hb6 HRQ
  go_wp2_with fail
  refine HCC.out.mono ?_
  rintro e w7 ⟨v7, rfl, hown7, hb7⟩
  obtain ⟨ea, ec, rfl⟩ := own_form hown7
  have HB7 : Hid (Below w5.heap.size w5 w7) := Below.far HB6.out hb7
  have HEV : Hid (w7.ownsRow w.heap.size 9 1 (.slice ea E.length ec) E.length (E.map enc)) := own_base hown7 (Nat.le_trans HB5.out.size HB6.out.size)
  have HI0 : Hid (LLInv w E ((oi : Int) + 1) ab oc bb (.slice ea E.length ec) 0 w7) := by
    refine ⟨RA, RB, ⟨HLA.out.2.2, HLB.out.2.2, HLA.out.2.1, HLB.out.2.1, HLA.out.1, 0, by omega, by omega, HLB.out.1⟩, HX5.out.below HB7.out, HXB.out.below HB7.out, HEV.out, HO5.out.below HB7.out HO5.out.lt, Below.far HB5.out HB7.out⟩
  clear hown7 hb7 HCC
  go_wp2_with fail
  go_loopw [46] (fun i wr => ∃ k : Nat, k ≤ E.length ∧ i = .int .i64 k ∧ LLInv w E ((oi : Int) + 1) ab oc bb (.slice ea E.length ec) k wr) (fun i wr => E.length - (intOf i).toNat)
  case atStart => exact ⟨0, by omega, rfl, HI0.out⟩
  case round =>
    obtain ⟨k, hk, rfl, a, b, hll, hxa, hxb, hev, hoc, hb⟩ := hrel
    have HLL : Hid (LLAt ((oi : Int) + 1) E k a b) := hll
    have HXA0 : Hid (ReplBox wr w.heap.size ab a) := hxa
    have HXB0 : Hid (ReplBox wr w.heap.size bb b) := hxb
    have HEV0 : Hid (wr.ownsRow w.heap.size 9 1 (.slice ea E.length ec) E.length (E.map enc)) := hev
    have HOC0 : Hid (Box wr oc 3 [.int .i64 ((oi : Int) + 1)]) := hoc
    have HB0 : Hid (Below w.heap.size w wr) := hb
    clear hll hxa hxb hev hoc hb
    by_cases hlt : k < E.length
    · have k0 : (0 : Int) ≤ (k : Int) := by omega
      have k1 : (k : Int) < (E.length : Int) := by omega
      have HK : Hid (k < E.length) := hlt
      have ho : ((oi : Int) + 1) = 1 ∨ ((oi : Int) + 1) = 2 := by have := HOI.out; omega
      obtain ⟨s, hs⟩ : ∃ s, E.getD k [] = s := ⟨_, rfl⟩
      have ht := ll_take' HLL.out hlt HE.out.1 HE.out.2.1 s hs
      have hh := ll_hear HLL.out ho hlt HE.out.1 HE.out.2.1
      have hk2 := ll_back' HLL.out ho hlt HE.out.1 HE.out.2.1 s hs
      have hs40 := HE.out.2.2 s (nth_is hlt hs).2
      obtain ⟨x, hx⟩ : ∃ x, takeR a s = x := ⟨_, rfl⟩
      rw [hx] at ht hk2
      obtain ⟨y, hy⟩ : ∃ y, hearR b (leadMsg E k ((oi : Int) + 1)) = y := ⟨_, rfl⟩
      obtain ⟨z, hz⟩ : ∃ z, hearR x (backMsg ((oi : Int) + 1) k) = z := ⟨_, rfl⟩
      rw [hy] at hh hk2
      rw [hz] at hk2
      obtain ⟨on, hon⟩ : ∃ on, hearL x (backMsg ((oi : Int) + 1) k) = on := ⟨_, rfl⟩
      rw [hon] at hk2
      have HT : Hid (takeE a s = 0 ∧ takeR a s = x ∧ takeL a s = [leadMsg E k 1, leadMsg E k 2] ∧ x.kept.commit = k ∧ ReplMay x ∧ s.length ≤ 40) := ⟨ht.1, hx, ht.2.1, ht.2.2.1, ht.2.2.2, hs40⟩
      have HH : Hid (hearE b (leadMsg E k ((oi : Int) + 1)) = 0 ∧ hearR b (leadMsg E k ((oi : Int) + 1)) = y ∧ hearL b (leadMsg E k ((oi : Int) + 1)) = [backMsg ((oi : Int) + 1) k]) := ⟨hh.1, hy, hh.2.1⟩
      have HZ : Hid (hearE x (backMsg ((oi : Int) + 1) k) = 0 ∧ hearR x (backMsg ((oi : Int) + 1) k) = z ∧ hearL x (backMsg ((oi : Int) + 1) k) = on ∧ on.length = 2 ∧ z.kept.commit = (k : Int) + 1 ∧ LLAt ((oi : Int) + 1) E (k + 1) z y) := by
        obtain ⟨p1, ⟨m1, m2, p2⟩, p3, p4⟩ := hk2
        exact ⟨p1, hz, hon, by rw [p2]; rfl, p3, p4⟩
      have HFA : Hid (ReplFits a ∧ ReplFits b ∧ ReplFits x) := ⟨may_fits a HLL.out.am, may_fits b HLL.out.bm, may_fits x ht.2.2.2⟩
      obtain ⟨ge, ce, ee, hq1, hq2, hce, hq3⟩ := own_cell HEV0.out k hlt
      clear hq1 hq2 hq3
      simp only [Value.slice.injEq, true_and] at ee
      obtain ⟨rfl, rfl⟩ := ee
      have t0 : wr.cell? ⟨ge, k, none⟩ = some (.string ⟨s.toArray⟩) := by
        rw [hce, ← hs]
        simp [List.getD, hlt, enc]
      obtain ⟨al, cl, ah, ch, aw, cw, ag, cg, an, cn, bxa, hra⟩ := HXA0.out
      have HRA : Hid (∀ W, Below wr.heap.size wr W → ReplAt W (.agg #[.int .i64 a.me, .int .i64 a.kept.view, .int .i64 a.kept.normal, .bool a.kept.calm, .slice al a.kept.log.length cl, .int .i64 a.kept.commit, .slice ah a.hav.length ch, .slice aw a.wants.length cw, .slice ag a.gives.length cg, .slice an a.given.length cn]) a) := fun W hW => (hra.at HFA.out.1).below hW
      have x0 := bxa.cell 0 _ rfl
      have x1 := bxa.cell 1 _ rfl
      have x2 := bxa.cell 2 _ rfl
      have x3 := bxa.cell 3 _ rfl
      have x4 := bxa.cell 4 _ rfl
      have x5 := bxa.cell 5 _ rfl
      have x6 := bxa.cell 6 _ rfl
      have x7 := bxa.cell 7 _ rfl
      have x8 := bxa.cell 8 _ rfl
      have x9 := bxa.cell 9 _ rfl
      clear bxa hra ht hh hk2 hs40 hce hs hx hy hz hon ho
      go_upto_region 9 with fail
      clear t0
      go_wp2_with fail
      refine (takeGo_any a s _ wr (HRA.out wr (Below.refl _ _)) HFA.out.1 (by have := HT.out.2.2.2.2.2; omega)).mono ?_
      rintro e w8 ⟨v8, vs8, rfl, hr8, hm8, hb8⟩
      rw [HT.out.1]
      rw [HT.out.2.1] at hr8
      rw [HT.out.2.2.1] at hm8
      obtain ⟨alx, clx, ahx, chx, awx, cwx, agx, cgx, anx, cnx, rfl⟩ := hr8.form
      obtain ⟨oa, ocp, ev⟩ := hm8.form
      rw [show [leadMsg E k 1, leadMsg E k 2].length = 2 from rfl] at ev
      subst ev
      have b9 := Box.new w8 30 [.int .i64 x.me, .int .i64 x.kept.view, .int .i64 x.kept.normal, .bool x.kept.calm, .slice alx x.kept.log.length clx, .int .i64 x.kept.commit, .slice ahx x.hav.length chx, .slice awx x.wants.length cwx, .slice agx x.gives.length cgx, .slice anx x.given.length cnx]
      obtain ⟨w9, hw9⟩ : ∃ w9, w9 = w8.alloc (.cells #[.int .i64 x.me, .int .i64 x.kept.view, .int .i64 x.kept.normal, .bool x.kept.calm, .slice alx x.kept.log.length clx, .int .i64 x.kept.commit, .slice ahx x.hav.length chx, .slice awx x.wants.length cwx, .slice agx x.gives.length cgx, .slice anx x.given.length cnx] 30) := ⟨_, rfl⟩
      have hb9 : Below w8.heap.size w8 w9 := by rw [hw9]; exact below_alloc _ _
      rw [← hw9] at b9
      obtain ⟨xb, hxb⟩ : ∃ xb, w8.heap.size = xb := ⟨_, rfl⟩
      rw [hxb] at b9
      have BX9 : Hid (Box w9 xb 30 [.int .i64 x.me, .int .i64 x.kept.view, .int .i64 x.kept.normal, .bool x.kept.calm, .slice alx x.kept.log.length clx, .int .i64 x.kept.commit, .slice ahx x.hav.length chx, .slice awx x.wants.length cwx, .slice agx x.gives.length cgx, .slice anx x.given.length cnx]) := b9
      have HRX9 : Hid (∀ W, Below w9.heap.size w9 W → ReplAt W (.agg #[.int .i64 x.me, .int .i64 x.kept.view, .int .i64 x.kept.normal, .bool x.kept.calm, .slice alx x.kept.log.length clx, .int .i64 x.kept.commit, .slice ahx x.hav.length chx, .slice awx x.wants.length cwx, .slice agx x.gives.length cgx, .slice anx x.given.length cnx]) x) := fun W hW => ((hr8.at HFA.out.2.2).below hb9).below hW
      have HM9 : Hid (MsgsNew w9 wr.heap.size (.slice oa 2 ocp) [leadMsg E k 1, leadMsg E k 2]) := msgs_below hm8 hb9
      have HB9 : Hid (Below wr.heap.size wr w9) := Below.far hb8 hb9
      clear hr8 hm8 hb8 hb9 b9 x0 x1 x2 x3 x4 x5 x6 x7 x8 x9
      go_upto_region 10 with fail
      rw [← hw9]
      try rw [hxb]
      clear hw9 hxb
      have h5 := BX9.out
      have x0 := h5.cell 0 _ rfl
      have x1 := h5.cell 1 _ rfl
      have x2 := h5.cell 2 _ rfl
      have x3 := h5.cell 3 _ rfl
      have x4 := h5.cell 4 _ rfl
      have x5 := h5.cell 5 _ rfl
      have x6 := h5.cell 6 _ rfl
      have x7 := h5.cell 7 _ rfl
      have x8 := h5.cell 8 _ rfl
      have x9 := h5.cell 9 _ rfl
      clear h5
      rw [HT.out.2.2.2.1] at x5
      have q0 : ((k : Int) == (k : Int)) = true := beq_iff_eq.mpr rfl
      have q1 : ((k : Int) != (k : Int)) = false := by simp only [bne, q0, Bool.not_true]
      go_upto_region 12 with fail
      clear q0 q1 x0 x1 x2 x3 x4 x5 x6 x7 x8 x9
      have HTX : Hid (TextsIn (E.take (k + 1))) := ⟨by have := HE.out.1; rw [List.length_take]; omega, fun s hs => by have := HE.out.2.2 s (List.mem_of_mem_take hs); omega⟩
      have HO9 : Hid (Box w9 oc 3 [.int .i64 ((oi : Int) + 1)]) := HOC0.out.below HB9.out HOC0.out.lt
      have HIX : Hid (Calls Tryd.prog 10 #[.slice oa 2 ocp, .func (.func 11) #[] #[.pointer (some ⟨oc, 0, none⟩)]] w9 fun e w' => e = .returned (.int .i64 (oi : Int)) ∧ Below w9.heap.size w9 w') := by
        obtain ⟨ps, hps, hown⟩ := HM9.out
        have q := idxMsg_any wr.heap.size oc ((oi : Int) + 1) _ ps w9 hown (fun p hp => by
          have hm : p.1 ∈ [leadMsg E k 1, leadMsg E k 2] := by rw [hps]; exact List.mem_map.2 ⟨p, hp, rfl⟩
          simp only [List.mem_cons, List.not_mem_nil, or_false] at hm
          rcases hm with e | e <;> rw [e] <;> exact HTX.out) (by
          have := congrArg List.length hps
          simp at this
          omega) HO9.out
        rw [← hps, idx_lead E k oi HOI.out] at q
        exact q
      go_wp2_with fail
      refine HIX.out.mono ?_
      rintro e w10 ⟨rfl, hb10⟩
      have HB10 : Hid (Below w9.heap.size w9 w10) := hb10
      have HM10 : Hid (MsgsNew w10 wr.heap.size (.slice oa 2 ocp) [leadMsg E k 1, leadMsg E k 2]) := msgs_below HM9.out hb10
      have HBR : Hid (Below wr.heap.size wr w10) := Below.far HB9.out hb10
      clear hb10 HIX
      obtain ⟨alb, clb, ahb, chb, awb, cwb, agb, cgb, anb, cnb, bxb, hrb⟩ := HXB0.out
      have HRA1 : Hid (∀ W, Below w10.heap.size w10 W → ReplAt W (.agg #[.int .i64 b.me, .int .i64 b.kept.view, .int .i64 b.kept.normal, .bool b.kept.calm, .slice alb b.kept.log.length clb, .int .i64 b.kept.commit, .slice ahb b.hav.length chb, .slice awb b.wants.length cwb, .slice agb b.gives.length cgb, .slice anb b.given.length cnb]) b) := fun W hW => ((hrb.at HFA.out.2.1).below HBR.out).below hW
      have HBB1 : Hid (Box w10 bb 30 [.int .i64 b.me, .int .i64 b.kept.view, .int .i64 b.kept.normal, .bool b.kept.calm, .slice alb b.kept.log.length clb, .int .i64 b.kept.commit, .slice ahb b.hav.length chb, .slice awb b.wants.length cwb, .slice agb b.gives.length cgb, .slice anb b.given.length cnb]) := bxb.below HBR.out bxb.lt
      clear bxb hrb
      obtain ⟨M, hM⟩ : ∃ M, leadMsg E k ((oi : Int) + 1) = M := ⟨_, rfl⟩
      have hMt : TextsIn M.log := by rw [← hM]; exact HTX.out
      have hMn : [leadMsg E k 1, leadMsg E k 2][oi]? = some M := by
        rw [← hM]
        exact lead_at E k oi HOI.out
      obtain ⟨gm, amm, cmm, rfl, hn2, hmc, hma⟩ := msg_read HM10.out oi (by have := HOI.out; simpa using this) M hMn hMt
      have HMA1 : Hid (∀ W, Below w10.heap.size w10 W → MsgAt W (.agg #[.int .i64 M.kind, .int .i64 M.frm, .int .i64 M.dst, .int .i64 M.view, .int .i64 M.normal, .int .i64 M.commit, .int .i64 M.n, .slice amm M.log.length cmm]) M) := hma
      have HMC1 : Hid (∀ W, Below w10.heap.size w10 W → ∀ j u, [.int .i64 M.kind, .int .i64 M.frm, .int .i64 M.dst, .int .i64 M.view, .int .i64 M.normal, .int .i64 M.commit, .int .i64 M.n, .slice amm M.log.length cmm][j]? = some u → W.cell? ⟨gm, oi * 8 + j, none⟩ = some u) := fun W hW j u hj => keep_cell9 hW (hmc j u hj)
      have HTM1 : Hid (TextsIn M.log) := hMt
      have HFR1 : Hid (ReplFits b) := HFA.out.2.1
      obtain ⟨LB, hLB⟩ : ∃ LB, [backMsg ((oi : Int) + 1) k] = LB := ⟨_, rfl⟩
      have HLB1 : Hid ([backMsg ((oi : Int) + 1) k] = LB ∧ LB.length = 1) := ⟨hLB, by rw [← hLB]; rfl⟩
      have HEE1 : Hid (hearE b M = 0) := by rw [← hM]; exact HH.out.1
      have HRR1 : Hid (hearR b M = y) := by rw [← hM]; exact HH.out.2.1
      have HLL1 : Hid (hearL b M = LB) := by rw [← hM, ← hLB]; exact HH.out.2.2
      have HMM : Hid (leadMsg E k ((oi : Int) + 1) = M) := hM
      clear hM hMt hMn hn2 hmc hma hLB
      go_upto_region 13 with fail
      go_cut [16, 17, 18] (fun xp xo xe wx => HeardAt w10 y LB 0 xp xo xe wx)
      case first =>
        refine wp_region_plan [0, 0, 0, 0, 0, 1, 2, 2, 2, 2, 3, 4, 4, 5] (.free 0 (.fork 3 1 (.line 1 (.free 2 (.line 4 (.done 5)))) (.free 2 (.line 3 (.line 4 (.done 5)))))) (by kernel_rfl) (by kernel_rfl) (fun h => h) (Below w10.heap.size w10) (Below.refl _ _) (fun V n hV => below_drewN n hV) fun n0 => ?_
        refine wpPlan_free (by kernel_rfl) ?_
        apply Exists.intro
        refine ⟨?_, ?_⟩
        · intro V hV
          have bx := HBB1.out.below hV HBB1.out.lt
          have x0 := bx.cell 0 _ rfl
          have x1 := bx.cell 1 _ rfl
          have x2 := bx.cell 2 _ rfl
          have x3 := bx.cell 3 _ rfl
          have x4 := bx.cell 4 _ rfl
          have x5 := bx.cell 5 _ rfl
          have x6 := bx.cell 6 _ rfl
          have x7 := bx.cell 7 _ rfl
          have x8 := bx.cell 8 _ rfl
          have x9 := bx.cell 9 _ rfl
          have t0 := HMC1.out V hV 0 _ rfl
          have t1 := HMC1.out V hV 1 _ rfl
          have t2 := HMC1.out V hV 2 _ rfl
          have t3 := HMC1.out V hV 3 _ rfl
          have t4 := HMC1.out V hV 4 _ rfl
          have t5 := HMC1.out V hV 5 _ rfl
          have t6 := HMC1.out V hV 6 _ rfl
          have t7 := HMC1.out V hV 7 _ rfl
          simp only [Nat.add_zero] at t0
          simp only [sel, ↓reduceIte, Nat.reduceEqDiff]
          repeat (go_big_quiet_step (fail))
          refine wpQuiet_nil ?_
          rfl
        intro n1
        obtain ⟨wA, hwA⟩ : ∃ wA, wA = ((w10.drewN n0).drewN n1) := ⟨_, rfl⟩
        have HB9A : Hid (Below w10.heap.size w10 wA) := by rw [hwA]; exact (below_drewN _ (below_drewN _ (Below.refl _ _)))
        have hbA : Below w10.heap.size w10 wA := by rw [hwA]; exact (below_drewN _ (below_drewN _ (Below.refl _ _)))
        rw [← hwA]
        clear hwA
        refine wpPlan_fork ?_ ?_
        · simp only [sel, ↓reduceIte, Nat.reduceEqDiff]
          refine wpEarly_cons ?_
          go_wp2_with fail
          have b2 := Box.new wA 30 [.int .i64 0, .int .i64 0, .int .i64 0, .bool false, .slice none 0 0, .int .i64 0, .slice none 0 0, .slice none 0 0, .slice none 0 0, .slice none 0 0]
          obtain ⟨wB, hwB⟩ : ∃ wB, wB = wA.alloc (.cells #[.int .i64 0, .int .i64 0, .int .i64 0, .bool false, .slice none 0 0, .int .i64 0, .slice none 0 0, .slice none 0 0, .slice none 0 0, .slice none 0 0] 30) := ⟨_, rfl⟩
          have hbB : Below wA.heap.size wA wB := by rw [hwB]; exact below_alloc _ _
          rw [← hwB] at b2 ⊢
          obtain ⟨lb, hlb⟩ : ∃ lb, wA.heap.size = lb := ⟨_, rfl⟩
          have HLB : Hid (w10.heap.size ≤ lb) := by rw [← hlb]; exact HB9A.out.size
          have HB9B : Hid (Below w10.heap.size w10 wB) := Below.far HB9A.out hbB
          rw [hlb] at b2
          try rw [hlb]
          have B9B : Hid (Box wB lb 30 [.int .i64 0, .int .i64 0, .int .i64 0, .bool false, .slice none 0 0, .int .i64 0, .slice none 0 0, .slice none 0 0, .slice none 0 0, .slice none 0 0]) := b2
          clear hwB hbB b2 hlb
          refine wpEarly_next HB9B.out fun m2 => ?_
          refine wpEarly_nil ?_
          obtain ⟨wC, hwC⟩ : ∃ wC, wC = (wB.drewN m2) := ⟨_, rfl⟩
          have HB9C : Hid (Below w10.heap.size w10 wC) := by rw [hwC]; exact (below_drewN _ (HB9B.out))
          have hbC : Below wB.heap.size wB wC := by rw [hwC]; exact (below_drewN _ (Below.refl _ _))
          rw [← hwC]
          clear hwC
          have B9C : Hid (Box wC lb 30 [.int .i64 0, .int .i64 0, .int .i64 0, .bool false, .slice none 0 0, .int .i64 0, .slice none 0 0, .slice none 0 0, .slice none 0 0, .slice none 0 0]) := B9B.out.below hbC B9B.out.lt
          refine wpPlan_line ?_
          simp only [sel, ↓reduceIte, Nat.reduceEqDiff]
          refine wpEarly_cons ?_
          go_wp2_with fail
          refine (hearGo_any b M _ _ wC (HRA1.out _ HB9C.out) HFR1.out (HMA1.out _ HB9C.out) HTM1.out).mono ?_
          rintro e wD ⟨v4, vs4, rfl, hr4, hm4, hb4⟩
          rw [HEE1.out]
          rw [HRR1.out] at hr4
          rw [HLL1.out] at hm4
          obtain ⟨alq, clq, ahq, chq, awq, cwq, agq, cgq, anq, cnq, rfl⟩ := hr4.form
          obtain ⟨asl, csl, rfl⟩ := hm4.form
          have HB9D : Hid (Below w10.heap.size w10 wD) := Below.far HB9C.out hb4
          have HR9D : Hid (ReplNew wD w10.heap.size (.agg #[.int .i64 y.me, .int .i64 y.kept.view, .int .i64 y.kept.normal, .bool y.kept.calm, .slice alq y.kept.log.length clq, .int .i64 y.kept.commit, .slice ahq y.hav.length chq, .slice awq y.wants.length cwq, .slice agq y.gives.length cgq, .slice anq y.given.length cnq]) y) := hr4.base HB9C.out.size
          have HM9D : Hid (MsgsNew wD w10.heap.size (.slice asl LB.length csl) LB) := hm4.base HB9C.out.size
          have B9D : Hid (Box wD lb 30 [.int .i64 0, .int .i64 0, .int .i64 0, .bool false, .slice none 0 0, .int .i64 0, .slice none 0 0, .slice none 0 0, .slice none 0 0, .slice none 0 0]) := B9C.out.below hb4 B9C.out.lt
          clear hr4 hm4 hb4
          go_wp2_with fail
          refine wpEarly_next HB9D.out fun m4 => ?_
          refine wpEarly_nil ?_
          refine wpPlan_free (by kernel_rfl) ?_
          apply Exists.intro
          refine ⟨?_, ?_⟩
          · intro V hV
            simp only [sel, ↓reduceIte, Nat.reduceEqDiff]
            repeat (go_big_quiet_step (fail))
            refine wpQuiet_nil ?_
            rfl
          intro n6
          obtain ⟨wE, hwE⟩ : ∃ wE, wE = ((wD.drewN m4).drewN n6) := ⟨_, rfl⟩
          have HB9E : Hid (Below w10.heap.size w10 wE) := by rw [hwE]; exact (below_drewN _ (below_drewN _ (HB9D.out)))
          have hbE : Below wD.heap.size wD wE := by rw [hwE]; exact (below_drewN _ (below_drewN _ (Below.refl _ _)))
          rw [← hwE]
          clear hwE
          have B9E : Hid (Box wE lb 30 [.int .i64 0, .int .i64 0, .int .i64 0, .bool false, .slice none 0 0, .int .i64 0, .slice none 0 0, .slice none 0 0, .slice none 0 0, .slice none 0 0]) := B9D.out.below hbE B9D.out.lt
          have HR9E : Hid (ReplNew wE w10.heap.size (.agg #[.int .i64 y.me, .int .i64 y.kept.view, .int .i64 y.kept.normal, .bool y.kept.calm, .slice alq y.kept.log.length clq, .int .i64 y.kept.commit, .slice ahq y.hav.length chq, .slice awq y.wants.length cwq, .slice agq y.gives.length cgq, .slice anq y.given.length cnq]) y) := HR9D.out.below hbE
          have HM9E : Hid (MsgsNew wE w10.heap.size (.slice asl LB.length csl) LB) := msgs_below HM9D.out hbE
          refine wpPlan_line ?_
          simp only [sel, ↓reduceIte, Nat.reduceEqDiff]
          refine wpEarly_cons ?_
          have h6 := B9E.out
          have y0 := h6.cell 0 _ rfl
          have y1 := h6.cell 1 _ rfl
          have y2 := h6.cell 2 _ rfl
          have y3 := h6.cell 3 _ rfl
          have y4 := h6.cell 4 _ rfl
          have y5 := h6.cell 5 _ rfl
          have y6 := h6.cell 6 _ rfl
          have y7 := h6.cell 7 _ rfl
          have y8 := h6.cell 8 _ rfl
          have y9 := h6.cell 9 _ rfl
          have f0 := h6.frozen 0
          have f1 := h6.frozen 1
          have f2 := h6.frozen 2
          have f3 := h6.frozen 3
          have f4 := h6.frozen 4
          have f5 := h6.frozen 5
          have f6 := h6.frozen 6
          have f7 := h6.frozen 7
          have f8 := h6.frozen 8
          have f9 := h6.frozen 9
          have HH : Hid (HeardAt w10 y LB 0 (.pointer (some ⟨lb, 0, none⟩)) (.slice asl LB.length csl) (.int .i64 0) (setAll wE lb 0 [.int .i64 y.me, .int .i64 y.kept.view, .int .i64 y.kept.normal, .bool y.kept.calm, .slice alq y.kept.log.length clq, .int .i64 y.kept.commit, .slice ahq y.hav.length chq, .slice awq y.wants.length cwq, .slice agq y.gives.length cgq, .slice anq y.given.length cnq])) := heard_set B9E.out rfl HR9E.out HM9E.out HB9E.out HLB.out
          obtain ⟨wF, hwF⟩ : ∃ wF, wF = setAll wE lb 0 [.int .i64 y.me, .int .i64 y.kept.view, .int .i64 y.kept.normal, .bool y.kept.calm, .slice alq y.kept.log.length clq, .int .i64 y.kept.commit, .slice ahq y.hav.length chq, .slice awq y.wants.length cwq, .slice agq y.gives.length cgq, .slice anq y.given.length cnq] := ⟨_, rfl⟩
          rw [← hwF] at HH
          have HB9F : Hid (Below w10.heap.size w10 wF) := by obtain ⟨_, _, _, _, _, _, _, _, _, q⟩ := HH.out; exact q
          simp only [setAll] at hwF
          go_wp2_with fail
          rw [← hwF]
          clear hwF y0 y1 y2 y3 y4 y5 y6 y7 y8 y9 f0 f1 f2 f3 f4 f5 f6 f7 f8 f9 h6
          refine wpEarly_next HB9F.out fun m7 => ?_
          refine wpEarly_cons ?_
          go_wp2_with fail
          refine wpEarly_next (below_drewN _ HB9F.out) fun m8 => ?_
          refine wpEarly_nil ?_
          refine wpPlan_done ?_
          simp only [sel, ↓reduceIte, Nat.reduceEqDiff]
          obtain ⟨wG, hwG⟩ : ∃ wG, wG = ((wF.drewN m7).drewN m8) := ⟨_, rfl⟩
          have HB9G : Hid (Below w10.heap.size w10 wG) := by rw [hwG]; exact (below_drewN _ (below_drewN _ (HB9F.out)))
          have hbG : Below wF.heap.size wF wG := by rw [hwG]; exact (below_drewN _ (below_drewN _ (Below.refl _ _)))
          rw [← hwG]
          clear hwG
          go_wp2_with fail
          go_meet
          exact HH.out.below hbG
        · simp only [sel, ↓reduceIte, Nat.reduceEqDiff]
          refine wpEarly_cons ?_
          go_wp2_with fail
          refine (hearGo_any b M _ _ wA (HRA1.out _ HB9A.out) HFR1.out (HMA1.out _ HB9A.out) HTM1.out).mono ?_
          rintro e wD ⟨v4, vs4, rfl, hr4, hm4, hb4⟩
          rw [HEE1.out]
          rw [HRR1.out] at hr4
          rw [HLL1.out] at hm4
          obtain ⟨alq, clq, ahq, chq, awq, cwq, agq, cgq, anq, cnq, rfl⟩ := hr4.form
          obtain ⟨asl, csl, rfl⟩ := hm4.form
          have HB9D : Hid (Below w10.heap.size w10 wD) := Below.far HB9A.out hb4
          have HR9D : Hid (ReplNew wD w10.heap.size (.agg #[.int .i64 y.me, .int .i64 y.kept.view, .int .i64 y.kept.normal, .bool y.kept.calm, .slice alq y.kept.log.length clq, .int .i64 y.kept.commit, .slice ahq y.hav.length chq, .slice awq y.wants.length cwq, .slice agq y.gives.length cgq, .slice anq y.given.length cnq]) y) := hr4.base HB9A.out.size
          have HM9D : Hid (MsgsNew wD w10.heap.size (.slice asl LB.length csl) LB) := hm4.base HB9A.out.size
          clear hr4 hm4 hb4
          go_wp2_with fail
          refine wpEarly_next HB9D.out fun m4 => ?_
          refine wpEarly_nil ?_
          refine wpPlan_free (by kernel_rfl) ?_
          apply Exists.intro
          refine ⟨?_, ?_⟩
          · intro V hV
            simp only [sel, ↓reduceIte, Nat.reduceEqDiff]
            repeat (go_big_quiet_step (fail))
            refine wpQuiet_nil ?_
            rfl
          intro n6
          obtain ⟨wH, hwH⟩ : ∃ wH, wH = ((wD.drewN m4).drewN n6) := ⟨_, rfl⟩
          have HB9H : Hid (Below w10.heap.size w10 wH) := by rw [hwH]; exact (below_drewN _ (below_drewN _ (HB9D.out)))
          have hbH : Below wD.heap.size wD wH := by rw [hwH]; exact (below_drewN _ (below_drewN _ (Below.refl _ _)))
          rw [← hwH]
          clear hwH
          refine wpPlan_line ?_
          simp only [sel, ↓reduceIte, Nat.reduceEqDiff]
          refine wpEarly_cons ?_
          go_wp2_with fail
          have b2 := Box.new wH 30 [.int .i64 0, .int .i64 0, .int .i64 0, .bool false, .slice none 0 0, .int .i64 0, .slice none 0 0, .slice none 0 0, .slice none 0 0, .slice none 0 0]
          obtain ⟨wB, hwB⟩ : ∃ wB, wB = wH.alloc (.cells #[.int .i64 0, .int .i64 0, .int .i64 0, .bool false, .slice none 0 0, .int .i64 0, .slice none 0 0, .slice none 0 0, .slice none 0 0, .slice none 0 0] 30) := ⟨_, rfl⟩
          have hbB : Below wH.heap.size wH wB := by rw [hwB]; exact below_alloc _ _
          rw [← hwB] at b2 ⊢
          obtain ⟨lb, hlb⟩ : ∃ lb, wH.heap.size = lb := ⟨_, rfl⟩
          have HLB : Hid (w10.heap.size ≤ lb) := by rw [← hlb]; exact HB9H.out.size
          have HB9B : Hid (Below w10.heap.size w10 wB) := Below.far HB9H.out hbB
          rw [hlb] at b2
          try rw [hlb]
          have B9B : Hid (Box wB lb 30 [.int .i64 0, .int .i64 0, .int .i64 0, .bool false, .slice none 0 0, .int .i64 0, .slice none 0 0, .slice none 0 0, .slice none 0 0, .slice none 0 0]) := b2
          have HR9B : Hid (ReplNew wB w10.heap.size (.agg #[.int .i64 y.me, .int .i64 y.kept.view, .int .i64 y.kept.normal, .bool y.kept.calm, .slice alq y.kept.log.length clq, .int .i64 y.kept.commit, .slice ahq y.hav.length chq, .slice awq y.wants.length cwq, .slice agq y.gives.length cgq, .slice anq y.given.length cnq]) y) := (HR9D.out.below hbH).below hbB
          have HM9B : Hid (MsgsNew wB w10.heap.size (.slice asl LB.length csl) LB) := msgs_below (msgs_below HM9D.out hbH) hbB
          clear hwB hbB b2 hlb
          refine wpEarly_next HB9B.out fun m2 => ?_
          refine wpEarly_nil ?_
          obtain ⟨wE, hwE⟩ : ∃ wE, wE = (wB.drewN m2) := ⟨_, rfl⟩
          have HB9E : Hid (Below w10.heap.size w10 wE) := by rw [hwE]; exact (below_drewN _ (HB9B.out))
          have hbE : Below wB.heap.size wB wE := by rw [hwE]; exact (below_drewN _ (Below.refl _ _))
          rw [← hwE]
          clear hwE
          have B9E : Hid (Box wE lb 30 [.int .i64 0, .int .i64 0, .int .i64 0, .bool false, .slice none 0 0, .int .i64 0, .slice none 0 0, .slice none 0 0, .slice none 0 0, .slice none 0 0]) := B9B.out.below hbE B9B.out.lt
          have HR9E : Hid (ReplNew wE w10.heap.size (.agg #[.int .i64 y.me, .int .i64 y.kept.view, .int .i64 y.kept.normal, .bool y.kept.calm, .slice alq y.kept.log.length clq, .int .i64 y.kept.commit, .slice ahq y.hav.length chq, .slice awq y.wants.length cwq, .slice agq y.gives.length cgq, .slice anq y.given.length cnq]) y) := HR9B.out.below hbE
          have HM9E : Hid (MsgsNew wE w10.heap.size (.slice asl LB.length csl) LB) := msgs_below HM9B.out hbE
          refine wpPlan_line ?_
          simp only [sel, ↓reduceIte, Nat.reduceEqDiff]
          refine wpEarly_cons ?_
          have h6 := B9E.out
          have y0 := h6.cell 0 _ rfl
          have y1 := h6.cell 1 _ rfl
          have y2 := h6.cell 2 _ rfl
          have y3 := h6.cell 3 _ rfl
          have y4 := h6.cell 4 _ rfl
          have y5 := h6.cell 5 _ rfl
          have y6 := h6.cell 6 _ rfl
          have y7 := h6.cell 7 _ rfl
          have y8 := h6.cell 8 _ rfl
          have y9 := h6.cell 9 _ rfl
          have f0 := h6.frozen 0
          have f1 := h6.frozen 1
          have f2 := h6.frozen 2
          have f3 := h6.frozen 3
          have f4 := h6.frozen 4
          have f5 := h6.frozen 5
          have f6 := h6.frozen 6
          have f7 := h6.frozen 7
          have f8 := h6.frozen 8
          have f9 := h6.frozen 9
          have HH : Hid (HeardAt w10 y LB 0 (.pointer (some ⟨lb, 0, none⟩)) (.slice asl LB.length csl) (.int .i64 0) (setAll wE lb 0 [.int .i64 y.me, .int .i64 y.kept.view, .int .i64 y.kept.normal, .bool y.kept.calm, .slice alq y.kept.log.length clq, .int .i64 y.kept.commit, .slice ahq y.hav.length chq, .slice awq y.wants.length cwq, .slice agq y.gives.length cgq, .slice anq y.given.length cnq])) := heard_set B9E.out rfl HR9E.out HM9E.out HB9E.out HLB.out
          obtain ⟨wF, hwF⟩ : ∃ wF, wF = setAll wE lb 0 [.int .i64 y.me, .int .i64 y.kept.view, .int .i64 y.kept.normal, .bool y.kept.calm, .slice alq y.kept.log.length clq, .int .i64 y.kept.commit, .slice ahq y.hav.length chq, .slice awq y.wants.length cwq, .slice agq y.gives.length cgq, .slice anq y.given.length cnq] := ⟨_, rfl⟩
          rw [← hwF] at HH
          have HB9F : Hid (Below w10.heap.size w10 wF) := by obtain ⟨_, _, _, _, _, _, _, _, _, q⟩ := HH.out; exact q
          simp only [setAll] at hwF
          go_wp2_with fail
          rw [← hwF]
          clear hwF y0 y1 y2 y3 y4 y5 y6 y7 y8 y9 f0 f1 f2 f3 f4 f5 f6 f7 f8 f9 h6
          refine wpEarly_next HB9F.out fun m7 => ?_
          refine wpEarly_cons ?_
          go_wp2_with fail
          refine wpEarly_next (below_drewN _ HB9F.out) fun m8 => ?_
          refine wpEarly_nil ?_
          refine wpPlan_done ?_
          simp only [sel, ↓reduceIte, Nat.reduceEqDiff]
          obtain ⟨wG, hwG⟩ : ∃ wG, wG = ((wF.drewN m7).drewN m8) := ⟨_, rfl⟩
          have HB9G : Hid (Below w10.heap.size w10 wG) := by rw [hwG]; exact (below_drewN _ (below_drewN _ (HB9F.out)))
          have hbG : Below wF.heap.size wF wG := by rw [hwG]; exact (below_drewN _ (below_drewN _ (Below.refl _ _)))
          rw [← hwG]
          clear hwG
          go_wp2_with fail
          go_meet
          exact HH.out.below hbG
      case rest =>
        obtain ⟨yb, ba, bcp, rfl, rfl, rfl, hyb, hbox, hms, hbw⟩ := hcut
        rw [HLB1.out.2] at hms ⊢
        have HYB : Hid (w10.heap.size ≤ yb) := hyb
        have HYX : Hid (ReplBox wc w10.heap.size yb y) := hbox
        have HMY : Hid (MsgsNew wc w10.heap.size (.slice ba 1 bcp) LB) := hms
        have HBY : Hid (Below w10.heap.size w10 wc) := hbw
        clear hyb hbox hms hbw
        obtain ⟨K, hK⟩ : ∃ K, backMsg ((oi : Int) + 1) k = K := ⟨_, rfl⟩
        have hKn : K.n = (k : Int) + 1 := by rw [← hK]; rfl
        have HKK : Hid (backMsg ((oi : Int) + 1) k = K ∧ TextsIn K.log) := ⟨hK, by rw [← hK]; exact ⟨by simp [backMsg], fun s hs => by simp [backMsg] at hs⟩⟩
        obtain ⟨gb, amb, cmb, rfl, hn2, hmc, hma⟩ := msg_read HMY.out 0 (by rw [HLB1.out.2]; omega) K (by rw [← HLB1.out.1, hK]; rfl) HKK.out.2
        have HMA2 : Hid (∀ W, Below wc.heap.size wc W → MsgAt W (.agg #[.int .i64 K.kind, .int .i64 K.frm, .int .i64 K.dst, .int .i64 K.view, .int .i64 K.normal, .int .i64 K.commit, .int .i64 K.n, .slice amb K.log.length cmb]) K) := hma
        have HMC2 : Hid (∀ W, Below wc.heap.size wc W → ∀ j u, [.int .i64 K.kind, .int .i64 K.frm, .int .i64 K.dst, .int .i64 K.view, .int .i64 K.normal, .int .i64 K.commit, .int .i64 K.n, .slice amb K.log.length cmb][j]? = some u → W.cell? ⟨gb, 0 * 8 + j, none⟩ = some u) := fun W hW j u hj => keep_cell9 hW (hmc j u hj)
        have t6 := HMC2.out wc (Below.refl _ _) 6 _ rfl
        simp only [Nat.zero_mul, Nat.zero_add] at t6
        rw [hKn] at t6
        clear hn2 hmc hma hK hKn
        have hE12 := HE.out.1
        have q0 : (((k : Int) + 1) == ((k : Int) + 1)) = true := beq_iff_eq.mpr rfl
        have q1 : (((k : Int) + 1) != ((k : Int) + 1)) = false := by simp only [bne, q0, Bool.not_true]
        go_upto_region 16 with fail
        clear t6
        have HTM2 : Hid (TextsIn K.log) := HKK.out.2
        have HFR2 : Hid (ReplFits x) := HFA.out.2.2
        have hxc : Below w9.heap.size w9 wc := Below.far HB10.out HBY.out
        have HRA2 : Hid (∀ W, Below wc.heap.size wc W → ReplAt W (.agg #[.int .i64 x.me, .int .i64 x.kept.view, .int .i64 x.kept.normal, .bool x.kept.calm, .slice alx x.kept.log.length clx, .int .i64 x.kept.commit, .slice ahx x.hav.length chx, .slice awx x.wants.length cwx, .slice agx x.gives.length cgx, .slice anx x.given.length cnx]) x) := fun W hW => HRX9.out W (Below.far hxc hW)
        have HBB2 : Hid (Box wc xb 30 [.int .i64 x.me, .int .i64 x.kept.view, .int .i64 x.kept.normal, .bool x.kept.calm, .slice alx x.kept.log.length clx, .int .i64 x.kept.commit, .slice ahx x.hav.length chx, .slice awx x.wants.length cwx, .slice agx x.gives.length cgx, .slice anx x.given.length cnx]) := BX9.out.below hxc BX9.out.lt
        have HEE2 : Hid (hearE x K = 0) := by rw [← HKK.out.1]; exact HZ.out.1
        have HRR2 : Hid (hearR x K = z) := by rw [← HKK.out.1]; exact HZ.out.2.1
        have HLL2 : Hid (hearL x K = on) := by rw [← HKK.out.1]; exact HZ.out.2.2.1
        clear hxc
        obtain ⟨wp, hwp⟩ : ∃ wp, wp = wc := ⟨_, rfl⟩
        subst hwp
        go_upto_region 16 with fail
        go_cut [19, 20, 21] (fun xp xo xe wx => HeardAt wp z on 0 xp xo xe wx)
        case first =>
          refine wp_region_plan [0, 0, 0, 0, 1, 2, 2, 2, 2, 3, 4, 4, 5] (.free 0 (.fork 3 1 (.line 1 (.free 2 (.line 4 (.done 5)))) (.free 2 (.line 3 (.line 4 (.done 5)))))) (by kernel_rfl) (by kernel_rfl) (fun h => h) (Below wp.heap.size wp) (Below.refl _ _) (fun V n hV => below_drewN n hV) fun n0 => ?_
          refine wpPlan_free (by kernel_rfl) ?_
          apply Exists.intro
          refine ⟨?_, ?_⟩
          · intro V hV
            have bx := HBB2.out.below hV HBB2.out.lt
            have x0 := bx.cell 0 _ rfl
            have x1 := bx.cell 1 _ rfl
            have x2 := bx.cell 2 _ rfl
            have x3 := bx.cell 3 _ rfl
            have x4 := bx.cell 4 _ rfl
            have x5 := bx.cell 5 _ rfl
            have x6 := bx.cell 6 _ rfl
            have x7 := bx.cell 7 _ rfl
            have x8 := bx.cell 8 _ rfl
            have x9 := bx.cell 9 _ rfl
            have t0 := HMC2.out V hV 0 _ rfl
            have t1 := HMC2.out V hV 1 _ rfl
            have t2 := HMC2.out V hV 2 _ rfl
            have t3 := HMC2.out V hV 3 _ rfl
            have t4 := HMC2.out V hV 4 _ rfl
            have t5 := HMC2.out V hV 5 _ rfl
            have t6 := HMC2.out V hV 6 _ rfl
            have t7 := HMC2.out V hV 7 _ rfl
            simp only [Nat.zero_mul, Nat.zero_add] at t0 t1 t2 t3 t4 t5 t6 t7
            simp only [sel, ↓reduceIte, Nat.reduceEqDiff]
            repeat (go_big_quiet_step (fail))
            refine wpQuiet_nil ?_
            rfl
          intro n1
          obtain ⟨wA, hwA⟩ : ∃ wA, wA = ((wp.drewN n0).drewN n1) := ⟨_, rfl⟩
          have HB9A : Hid (Below wp.heap.size wp wA) := by rw [hwA]; exact (below_drewN _ (below_drewN _ (Below.refl _ _)))
          have hbA : Below wp.heap.size wp wA := by rw [hwA]; exact (below_drewN _ (below_drewN _ (Below.refl _ _)))
          rw [← hwA]
          clear hwA
          refine wpPlan_fork ?_ ?_
          · simp only [sel, ↓reduceIte, Nat.reduceEqDiff]
            refine wpEarly_cons ?_
            go_wp2_with fail
            have b2 := Box.new wA 30 [.int .i64 0, .int .i64 0, .int .i64 0, .bool false, .slice none 0 0, .int .i64 0, .slice none 0 0, .slice none 0 0, .slice none 0 0, .slice none 0 0]
            obtain ⟨wB, hwB⟩ : ∃ wB, wB = wA.alloc (.cells #[.int .i64 0, .int .i64 0, .int .i64 0, .bool false, .slice none 0 0, .int .i64 0, .slice none 0 0, .slice none 0 0, .slice none 0 0, .slice none 0 0] 30) := ⟨_, rfl⟩
            have hbB : Below wA.heap.size wA wB := by rw [hwB]; exact below_alloc _ _
            rw [← hwB] at b2 ⊢
            obtain ⟨lb, hlb⟩ : ∃ lb, wA.heap.size = lb := ⟨_, rfl⟩
            have HLB : Hid (wp.heap.size ≤ lb) := by rw [← hlb]; exact HB9A.out.size
            have HB9B : Hid (Below wp.heap.size wp wB) := Below.far HB9A.out hbB
            rw [hlb] at b2
            try rw [hlb]
            have B9B : Hid (Box wB lb 30 [.int .i64 0, .int .i64 0, .int .i64 0, .bool false, .slice none 0 0, .int .i64 0, .slice none 0 0, .slice none 0 0, .slice none 0 0, .slice none 0 0]) := b2
            clear hwB hbB b2 hlb
            refine wpEarly_next HB9B.out fun m2 => ?_
            refine wpEarly_nil ?_
            obtain ⟨wC, hwC⟩ : ∃ wC, wC = (wB.drewN m2) := ⟨_, rfl⟩
            have HB9C : Hid (Below wp.heap.size wp wC) := by rw [hwC]; exact (below_drewN _ (HB9B.out))
            have hbC : Below wB.heap.size wB wC := by rw [hwC]; exact (below_drewN _ (Below.refl _ _))
            rw [← hwC]
            clear hwC
            have B9C : Hid (Box wC lb 30 [.int .i64 0, .int .i64 0, .int .i64 0, .bool false, .slice none 0 0, .int .i64 0, .slice none 0 0, .slice none 0 0, .slice none 0 0, .slice none 0 0]) := B9B.out.below hbC B9B.out.lt
            refine wpPlan_line ?_
            simp only [sel, ↓reduceIte, Nat.reduceEqDiff]
            refine wpEarly_cons ?_
            go_wp2_with fail
            refine (hearGo_any x K _ _ wC (HRA2.out _ HB9C.out) HFR2.out (HMA2.out _ HB9C.out) HTM2.out).mono ?_
            rintro e wD ⟨v4, vs4, rfl, hr4, hm4, hb4⟩
            rw [HEE2.out]
            rw [HRR2.out] at hr4
            rw [HLL2.out] at hm4
            obtain ⟨alq, clq, ahq, chq, awq, cwq, agq, cgq, anq, cnq, rfl⟩ := hr4.form
            obtain ⟨asl, csl, rfl⟩ := hm4.form
            have HB9D : Hid (Below wp.heap.size wp wD) := Below.far HB9C.out hb4
            have HR9D : Hid (ReplNew wD wp.heap.size (.agg #[.int .i64 z.me, .int .i64 z.kept.view, .int .i64 z.kept.normal, .bool z.kept.calm, .slice alq z.kept.log.length clq, .int .i64 z.kept.commit, .slice ahq z.hav.length chq, .slice awq z.wants.length cwq, .slice agq z.gives.length cgq, .slice anq z.given.length cnq]) z) := hr4.base HB9C.out.size
            have HM9D : Hid (MsgsNew wD wp.heap.size (.slice asl on.length csl) on) := hm4.base HB9C.out.size
            have B9D : Hid (Box wD lb 30 [.int .i64 0, .int .i64 0, .int .i64 0, .bool false, .slice none 0 0, .int .i64 0, .slice none 0 0, .slice none 0 0, .slice none 0 0, .slice none 0 0]) := B9C.out.below hb4 B9C.out.lt
            clear hr4 hm4 hb4
            go_wp2_with fail
            refine wpEarly_next HB9D.out fun m4 => ?_
            refine wpEarly_nil ?_
            refine wpPlan_free (by kernel_rfl) ?_
            apply Exists.intro
            refine ⟨?_, ?_⟩
            · intro V hV
              simp only [sel, ↓reduceIte, Nat.reduceEqDiff]
              repeat (go_big_quiet_step (fail))
              refine wpQuiet_nil ?_
              rfl
            intro n6
            obtain ⟨wE, hwE⟩ : ∃ wE, wE = ((wD.drewN m4).drewN n6) := ⟨_, rfl⟩
            have HB9E : Hid (Below wp.heap.size wp wE) := by rw [hwE]; exact (below_drewN _ (below_drewN _ (HB9D.out)))
            have hbE : Below wD.heap.size wD wE := by rw [hwE]; exact (below_drewN _ (below_drewN _ (Below.refl _ _)))
            rw [← hwE]
            clear hwE
            have B9E : Hid (Box wE lb 30 [.int .i64 0, .int .i64 0, .int .i64 0, .bool false, .slice none 0 0, .int .i64 0, .slice none 0 0, .slice none 0 0, .slice none 0 0, .slice none 0 0]) := B9D.out.below hbE B9D.out.lt
            have HR9E : Hid (ReplNew wE wp.heap.size (.agg #[.int .i64 z.me, .int .i64 z.kept.view, .int .i64 z.kept.normal, .bool z.kept.calm, .slice alq z.kept.log.length clq, .int .i64 z.kept.commit, .slice ahq z.hav.length chq, .slice awq z.wants.length cwq, .slice agq z.gives.length cgq, .slice anq z.given.length cnq]) z) := HR9D.out.below hbE
            have HM9E : Hid (MsgsNew wE wp.heap.size (.slice asl on.length csl) on) := msgs_below HM9D.out hbE
            refine wpPlan_line ?_
            simp only [sel, ↓reduceIte, Nat.reduceEqDiff]
            refine wpEarly_cons ?_
            have h6 := B9E.out
            have y0 := h6.cell 0 _ rfl
            have y1 := h6.cell 1 _ rfl
            have y2 := h6.cell 2 _ rfl
            have y3 := h6.cell 3 _ rfl
            have y4 := h6.cell 4 _ rfl
            have y5 := h6.cell 5 _ rfl
            have y6 := h6.cell 6 _ rfl
            have y7 := h6.cell 7 _ rfl
            have y8 := h6.cell 8 _ rfl
            have y9 := h6.cell 9 _ rfl
            have f0 := h6.frozen 0
            have f1 := h6.frozen 1
            have f2 := h6.frozen 2
            have f3 := h6.frozen 3
            have f4 := h6.frozen 4
            have f5 := h6.frozen 5
            have f6 := h6.frozen 6
            have f7 := h6.frozen 7
            have f8 := h6.frozen 8
            have f9 := h6.frozen 9
            have HH : Hid (HeardAt wp z on 0 (.pointer (some ⟨lb, 0, none⟩)) (.slice asl on.length csl) (.int .i64 0) (setAll wE lb 0 [.int .i64 z.me, .int .i64 z.kept.view, .int .i64 z.kept.normal, .bool z.kept.calm, .slice alq z.kept.log.length clq, .int .i64 z.kept.commit, .slice ahq z.hav.length chq, .slice awq z.wants.length cwq, .slice agq z.gives.length cgq, .slice anq z.given.length cnq])) := heard_set B9E.out rfl HR9E.out HM9E.out HB9E.out HLB.out
            obtain ⟨wF, hwF⟩ : ∃ wF, wF = setAll wE lb 0 [.int .i64 z.me, .int .i64 z.kept.view, .int .i64 z.kept.normal, .bool z.kept.calm, .slice alq z.kept.log.length clq, .int .i64 z.kept.commit, .slice ahq z.hav.length chq, .slice awq z.wants.length cwq, .slice agq z.gives.length cgq, .slice anq z.given.length cnq] := ⟨_, rfl⟩
            rw [← hwF] at HH
            have HB9F : Hid (Below wp.heap.size wp wF) := by obtain ⟨_, _, _, _, _, _, _, _, _, q⟩ := HH.out; exact q
            simp only [setAll] at hwF
            go_wp2_with fail
            rw [← hwF]
            clear hwF y0 y1 y2 y3 y4 y5 y6 y7 y8 y9 f0 f1 f2 f3 f4 f5 f6 f7 f8 f9 h6
            refine wpEarly_next HB9F.out fun m7 => ?_
            refine wpEarly_cons ?_
            go_wp2_with fail
            refine wpEarly_next (below_drewN _ HB9F.out) fun m8 => ?_
            refine wpEarly_nil ?_
            refine wpPlan_done ?_
            simp only [sel, ↓reduceIte, Nat.reduceEqDiff]
            obtain ⟨wG, hwG⟩ : ∃ wG, wG = ((wF.drewN m7).drewN m8) := ⟨_, rfl⟩
            have HB9G : Hid (Below wp.heap.size wp wG) := by rw [hwG]; exact (below_drewN _ (below_drewN _ (HB9F.out)))
            have hbG : Below wF.heap.size wF wG := by rw [hwG]; exact (below_drewN _ (below_drewN _ (Below.refl _ _)))
            rw [← hwG]
            clear hwG
            go_wp2_with fail
            go_meet
            exact HH.out.below hbG
          · simp only [sel, ↓reduceIte, Nat.reduceEqDiff]
            refine wpEarly_cons ?_
            go_wp2_with fail
            refine (hearGo_any x K _ _ wA (HRA2.out _ HB9A.out) HFR2.out (HMA2.out _ HB9A.out) HTM2.out).mono ?_
            rintro e wD ⟨v4, vs4, rfl, hr4, hm4, hb4⟩
            rw [HEE2.out]
            rw [HRR2.out] at hr4
            rw [HLL2.out] at hm4
            obtain ⟨alq, clq, ahq, chq, awq, cwq, agq, cgq, anq, cnq, rfl⟩ := hr4.form
            obtain ⟨asl, csl, rfl⟩ := hm4.form
            have HB9D : Hid (Below wp.heap.size wp wD) := Below.far HB9A.out hb4
            have HR9D : Hid (ReplNew wD wp.heap.size (.agg #[.int .i64 z.me, .int .i64 z.kept.view, .int .i64 z.kept.normal, .bool z.kept.calm, .slice alq z.kept.log.length clq, .int .i64 z.kept.commit, .slice ahq z.hav.length chq, .slice awq z.wants.length cwq, .slice agq z.gives.length cgq, .slice anq z.given.length cnq]) z) := hr4.base HB9A.out.size
            have HM9D : Hid (MsgsNew wD wp.heap.size (.slice asl on.length csl) on) := hm4.base HB9A.out.size
            clear hr4 hm4 hb4
            go_wp2_with fail
            refine wpEarly_next HB9D.out fun m4 => ?_
            refine wpEarly_nil ?_
            refine wpPlan_free (by kernel_rfl) ?_
            apply Exists.intro
            refine ⟨?_, ?_⟩
            · intro V hV
              simp only [sel, ↓reduceIte, Nat.reduceEqDiff]
              repeat (go_big_quiet_step (fail))
              refine wpQuiet_nil ?_
              rfl
            intro n6
            obtain ⟨wH, hwH⟩ : ∃ wH, wH = ((wD.drewN m4).drewN n6) := ⟨_, rfl⟩
            have HB9H : Hid (Below wp.heap.size wp wH) := by rw [hwH]; exact (below_drewN _ (below_drewN _ (HB9D.out)))
            have hbH : Below wD.heap.size wD wH := by rw [hwH]; exact (below_drewN _ (below_drewN _ (Below.refl _ _)))
            rw [← hwH]
            clear hwH
            refine wpPlan_line ?_
            simp only [sel, ↓reduceIte, Nat.reduceEqDiff]
            refine wpEarly_cons ?_
            go_wp2_with fail
            have b2 := Box.new wH 30 [.int .i64 0, .int .i64 0, .int .i64 0, .bool false, .slice none 0 0, .int .i64 0, .slice none 0 0, .slice none 0 0, .slice none 0 0, .slice none 0 0]
            obtain ⟨wB, hwB⟩ : ∃ wB, wB = wH.alloc (.cells #[.int .i64 0, .int .i64 0, .int .i64 0, .bool false, .slice none 0 0, .int .i64 0, .slice none 0 0, .slice none 0 0, .slice none 0 0, .slice none 0 0] 30) := ⟨_, rfl⟩
            have hbB : Below wH.heap.size wH wB := by rw [hwB]; exact below_alloc _ _
            rw [← hwB] at b2 ⊢
            obtain ⟨lb, hlb⟩ : ∃ lb, wH.heap.size = lb := ⟨_, rfl⟩
            have HLB : Hid (wp.heap.size ≤ lb) := by rw [← hlb]; exact HB9H.out.size
            have HB9B : Hid (Below wp.heap.size wp wB) := Below.far HB9H.out hbB
            rw [hlb] at b2
            try rw [hlb]
            have B9B : Hid (Box wB lb 30 [.int .i64 0, .int .i64 0, .int .i64 0, .bool false, .slice none 0 0, .int .i64 0, .slice none 0 0, .slice none 0 0, .slice none 0 0, .slice none 0 0]) := b2
            have HR9B : Hid (ReplNew wB wp.heap.size (.agg #[.int .i64 z.me, .int .i64 z.kept.view, .int .i64 z.kept.normal, .bool z.kept.calm, .slice alq z.kept.log.length clq, .int .i64 z.kept.commit, .slice ahq z.hav.length chq, .slice awq z.wants.length cwq, .slice agq z.gives.length cgq, .slice anq z.given.length cnq]) z) := (HR9D.out.below hbH).below hbB
            have HM9B : Hid (MsgsNew wB wp.heap.size (.slice asl on.length csl) on) := msgs_below (msgs_below HM9D.out hbH) hbB
            clear hwB hbB b2 hlb
            refine wpEarly_next HB9B.out fun m2 => ?_
            refine wpEarly_nil ?_
            obtain ⟨wE, hwE⟩ : ∃ wE, wE = (wB.drewN m2) := ⟨_, rfl⟩
            have HB9E : Hid (Below wp.heap.size wp wE) := by rw [hwE]; exact (below_drewN _ (HB9B.out))
            have hbE : Below wB.heap.size wB wE := by rw [hwE]; exact (below_drewN _ (Below.refl _ _))
            rw [← hwE]
            clear hwE
            have B9E : Hid (Box wE lb 30 [.int .i64 0, .int .i64 0, .int .i64 0, .bool false, .slice none 0 0, .int .i64 0, .slice none 0 0, .slice none 0 0, .slice none 0 0, .slice none 0 0]) := B9B.out.below hbE B9B.out.lt
            have HR9E : Hid (ReplNew wE wp.heap.size (.agg #[.int .i64 z.me, .int .i64 z.kept.view, .int .i64 z.kept.normal, .bool z.kept.calm, .slice alq z.kept.log.length clq, .int .i64 z.kept.commit, .slice ahq z.hav.length chq, .slice awq z.wants.length cwq, .slice agq z.gives.length cgq, .slice anq z.given.length cnq]) z) := HR9B.out.below hbE
            have HM9E : Hid (MsgsNew wE wp.heap.size (.slice asl on.length csl) on) := msgs_below HM9B.out hbE
            refine wpPlan_line ?_
            simp only [sel, ↓reduceIte, Nat.reduceEqDiff]
            refine wpEarly_cons ?_
            have h6 := B9E.out
            have y0 := h6.cell 0 _ rfl
            have y1 := h6.cell 1 _ rfl
            have y2 := h6.cell 2 _ rfl
            have y3 := h6.cell 3 _ rfl
            have y4 := h6.cell 4 _ rfl
            have y5 := h6.cell 5 _ rfl
            have y6 := h6.cell 6 _ rfl
            have y7 := h6.cell 7 _ rfl
            have y8 := h6.cell 8 _ rfl
            have y9 := h6.cell 9 _ rfl
            have f0 := h6.frozen 0
            have f1 := h6.frozen 1
            have f2 := h6.frozen 2
            have f3 := h6.frozen 3
            have f4 := h6.frozen 4
            have f5 := h6.frozen 5
            have f6 := h6.frozen 6
            have f7 := h6.frozen 7
            have f8 := h6.frozen 8
            have f9 := h6.frozen 9
            have HH : Hid (HeardAt wp z on 0 (.pointer (some ⟨lb, 0, none⟩)) (.slice asl on.length csl) (.int .i64 0) (setAll wE lb 0 [.int .i64 z.me, .int .i64 z.kept.view, .int .i64 z.kept.normal, .bool z.kept.calm, .slice alq z.kept.log.length clq, .int .i64 z.kept.commit, .slice ahq z.hav.length chq, .slice awq z.wants.length cwq, .slice agq z.gives.length cgq, .slice anq z.given.length cnq])) := heard_set B9E.out rfl HR9E.out HM9E.out HB9E.out HLB.out
            obtain ⟨wF, hwF⟩ : ∃ wF, wF = setAll wE lb 0 [.int .i64 z.me, .int .i64 z.kept.view, .int .i64 z.kept.normal, .bool z.kept.calm, .slice alq z.kept.log.length clq, .int .i64 z.kept.commit, .slice ahq z.hav.length chq, .slice awq z.wants.length cwq, .slice agq z.gives.length cgq, .slice anq z.given.length cnq] := ⟨_, rfl⟩
            rw [← hwF] at HH
            have HB9F : Hid (Below wp.heap.size wp wF) := by obtain ⟨_, _, _, _, _, _, _, _, _, q⟩ := HH.out; exact q
            simp only [setAll] at hwF
            go_wp2_with fail
            rw [← hwF]
            clear hwF y0 y1 y2 y3 y4 y5 y6 y7 y8 y9 f0 f1 f2 f3 f4 f5 f6 f7 f8 f9 h6
            refine wpEarly_next HB9F.out fun m7 => ?_
            refine wpEarly_cons ?_
            go_wp2_with fail
            refine wpEarly_next (below_drewN _ HB9F.out) fun m8 => ?_
            refine wpEarly_nil ?_
            refine wpPlan_done ?_
            simp only [sel, ↓reduceIte, Nat.reduceEqDiff]
            obtain ⟨wG, hwG⟩ : ∃ wG, wG = ((wF.drewN m7).drewN m8) := ⟨_, rfl⟩
            have HB9G : Hid (Below wp.heap.size wp wG) := by rw [hwG]; exact (below_drewN _ (below_drewN _ (HB9F.out)))
            have hbG : Below wF.heap.size wF wG := by rw [hwG]; exact (below_drewN _ (below_drewN _ (Below.refl _ _)))
            rw [← hwG]
            clear hwG
            go_wp2_with fail
            go_meet
            exact HH.out.below hbG
        case rest =>
          obtain ⟨zb, na, ncp, rfl, rfl, rfl, hzb, hbox, hms, hbw⟩ := hcut
          rw [HZ.out.2.2.2.1] at hms ⊢
          have HZX : Hid (ReplBox wc wp.heap.size zb z) := hbox
          have HBZ : Hid (Below wp.heap.size wp wc) := hbw
          have HZB : Hid (wp.heap.size ≤ zb) := hzb
          clear hms hbw hzb hbox
          obtain ⟨alz, clz, ahz, chz, awz, cwz, agz, cgz, anz, cnz, bz, hrz⟩ := HZX.out
          have BZ : Hid (Box wc zb 30 [.int .i64 z.me, .int .i64 z.kept.view, .int .i64 z.kept.normal, .bool z.kept.calm, .slice alz z.kept.log.length clz, .int .i64 z.kept.commit, .slice ahz z.hav.length chz, .slice awz z.wants.length cwz, .slice agz z.gives.length cgz, .slice anz z.given.length cnz]) := bz
          have HRZ : Hid (ReplNew wc wp.heap.size (.agg #[.int .i64 z.me, .int .i64 z.kept.view, .int .i64 z.kept.normal, .bool z.kept.calm, .slice alz z.kept.log.length clz, .int .i64 z.kept.commit, .slice ahz z.hav.length chz, .slice awz z.wants.length cwz, .slice agz z.gives.length cgz, .slice anz z.given.length cnz]) z) := hrz
          have x0 := bz.cell 0 _ rfl
          have x1 := bz.cell 1 _ rfl
          have x2 := bz.cell 2 _ rfl
          have x3 := bz.cell 3 _ rfl
          have x4 := bz.cell 4 _ rfl
          have x5 := bz.cell 5 _ rfl
          have x6 := bz.cell 6 _ rfl
          have x7 := bz.cell 7 _ rfl
          have x8 := bz.cell 8 _ rfl
          have x9 := bz.cell 9 _ rfl
          rw [HZ.out.2.2.2.2.1] at x5
          clear bz hrz
          have hE12 := HE.out.1
          go_upto_region 19 with fail
          clear x0 x1 x2 x3 x4 x5 x6 x7 x8 x9
          have hwz : Below wp.heap.size wp wc := HBZ.out
          have hrc : Below wr.heap.size wr wc := Below.far HBR.out (Below.far HBY.out HBZ.out)
          have HYC : Hid (ReplBox wc w.heap.size yb y) := (HYX.out.below hwz).base (Nat.le_trans HB0.out.size HBR.out.size)
          obtain ⟨aly, cly, ahy, chy, awy, cwy, agy, cgy, any, cny, byx, hry⟩ := HYC.out
          have BY : Hid (Box wc yb 30 [.int .i64 y.me, .int .i64 y.kept.view, .int .i64 y.kept.normal, .bool y.kept.calm, .slice aly y.kept.log.length cly, .int .i64 y.kept.commit, .slice ahy y.hav.length chy, .slice awy y.wants.length cwy, .slice agy y.gives.length cgy, .slice any y.given.length cny]) := byx
          have HRY : Hid (ReplNew wc w.heap.size (.agg #[.int .i64 y.me, .int .i64 y.kept.view, .int .i64 y.kept.normal, .bool y.kept.calm, .slice aly y.kept.log.length cly, .int .i64 y.kept.commit, .slice ahy y.hav.length chy, .slice awy y.wants.length cwy, .slice agy y.gives.length cgy, .slice any y.given.length cny]) y) := hry
          have HRZ2 : Hid (ReplNew wc w.heap.size (.agg #[.int .i64 z.me, .int .i64 z.kept.view, .int .i64 z.kept.normal, .bool z.kept.calm, .slice alz z.kept.log.length clz, .int .i64 z.kept.commit, .slice ahz z.hav.length chz, .slice awz z.wants.length cwz, .slice agz z.gives.length cgz, .slice anz z.given.length cnz]) z) := HRZ.out.base (Nat.le_trans HB0.out.size (Nat.le_trans HBR.out.size HBY.out.size))
          have hxac := HXA0.out.below hrc
          have hxbc := HXB0.out.below hrc
          obtain ⟨ala, cla, aha, cha, awa, cwa, aga, cga, ana, cna, bxa, hra⟩ := hxac
          obtain ⟨alb, clb, ahb, chb, awb, cwb, agb, cgb, anb, cnb, bxb, hrb⟩ := hxbc
          have BA : Hid (Box wc ab 30 [.int .i64 a.me, .int .i64 a.kept.view, .int .i64 a.kept.normal, .bool a.kept.calm, .slice ala a.kept.log.length cla, .int .i64 a.kept.commit, .slice aha a.hav.length cha, .slice awa a.wants.length cwa, .slice aga a.gives.length cga, .slice ana a.given.length cna]) := bxa
          have BB : Hid (Box wc bb 30 [.int .i64 b.me, .int .i64 b.kept.view, .int .i64 b.kept.normal, .bool b.kept.calm, .slice alb b.kept.log.length clb, .int .i64 b.kept.commit, .slice ahb b.hav.length chb, .slice awb b.wants.length cwb, .slice agb b.gives.length cgb, .slice anb b.given.length cnb]) := bxb
          have HEV1 : Hid (wc.ownsRow w.heap.size 9 1 (.slice (some ⟨ge, 0, none⟩) E.length ec) E.length (E.map enc)) := own_below HEV0.out hrc (own_lt HEV0.out)
          have HOC1 : Hid (Box wc oc 3 [.int .i64 ((oi : Int) + 1)]) := HOC0.out.below hrc HOC0.out.lt
          have HBW : Hid (Below w.heap.size w wc) := Below.far HB0.out hrc
          have HNE : Hid (ab < oc ∧ oc < bb ∧ bb < yb ∧ bb < zb ∧ w.heap.size ≤ ab) := by
            have h1 := HCL.out.1
            have h2 := HBL.out
            have h3 : bb < wr.heap.size := by obtain ⟨_, _, _, _, _, _, _, _, _, _, q, _⟩ := HXB0.out; exact q.lt
            have h4 := HBR.out.size
            have h5 := HYB.out
            have h6 := HZB.out
            have h7 := HBY.out.size
            exact ⟨h1, h2, by omega, by omega, HAL.out.1⟩
          clear hwz hrc byx hry bxa hra bxb hrb
          refine wp_region_plan [0, 0, 1, 2] (.free 0 (.line 1 (.done 2))) (by kernel_rfl) (by kernel_rfl) (fun h => h) (fun V => Box V zb 30 [.int .i64 z.me, .int .i64 z.kept.view, .int .i64 z.kept.normal, .bool z.kept.calm, .slice alz z.kept.log.length clz, .int .i64 z.kept.commit, .slice ahz z.hav.length chz, .slice awz z.wants.length cwz, .slice agz z.gives.length cgz, .slice anz z.given.length cnz] ∧ Box V yb 30 [.int .i64 y.me, .int .i64 y.kept.view, .int .i64 y.kept.normal, .bool y.kept.calm, .slice aly y.kept.log.length cly, .int .i64 y.kept.commit, .slice ahy y.hav.length chy, .slice awy y.wants.length cwy, .slice agy y.gives.length cgy, .slice any y.given.length cny]) ⟨BZ.out, BY.out⟩ (fun V n hV => hV) fun n0 => ?_
          refine wpPlan_free (by kernel_rfl) ?_
          apply Exists.intro
          refine ⟨?_, ?_⟩
          · intro V hV
            obtain ⟨bz, by5⟩ := hV
            have x0 := bz.cell 0 _ rfl
            have x1 := bz.cell 1 _ rfl
            have x2 := bz.cell 2 _ rfl
            have x3 := bz.cell 3 _ rfl
            have x4 := bz.cell 4 _ rfl
            have x5 := bz.cell 5 _ rfl
            have x6 := bz.cell 6 _ rfl
            have x7 := bz.cell 7 _ rfl
            have x8 := bz.cell 8 _ rfl
            have x9 := bz.cell 9 _ rfl
            have y0 := by5.cell 0 _ rfl
            have y1 := by5.cell 1 _ rfl
            have y2 := by5.cell 2 _ rfl
            have y3 := by5.cell 3 _ rfl
            have y4 := by5.cell 4 _ rfl
            have y5 := by5.cell 5 _ rfl
            have y6 := by5.cell 6 _ rfl
            have y7 := by5.cell 7 _ rfl
            have y8 := by5.cell 8 _ rfl
            have y9 := by5.cell 9 _ rfl
            simp only [sel, ↓reduceIte, Nat.reduceEqDiff]
            repeat (go_big_quiet_step (fail))
            refine wpQuiet_nil ?_
            rfl
          intro n1
          obtain ⟨wd, hwd⟩ : ∃ wd, wd = ((wc.drewN n0).drewN n1) := ⟨_, rfl⟩
          have HBd : Hid (Below wc.heap.size wc wd) := by rw [hwd]; exact (below_drewN _ (below_drewN _ (Below.refl _ _)))
          have hbd : Below wc.heap.size wc wd := by rw [hwd]; exact (below_drewN _ (below_drewN _ (Below.refl _ _)))
          rw [← hwd]
          clear hwd
          have BAd : Hid (Box wd ab 30 [.int .i64 a.me, .int .i64 a.kept.view, .int .i64 a.kept.normal, .bool a.kept.calm, .slice ala a.kept.log.length cla, .int .i64 a.kept.commit, .slice aha a.hav.length cha, .slice awa a.wants.length cwa, .slice aga a.gives.length cga, .slice ana a.given.length cna]) := BA.out.below hbd BA.out.lt
          have BBd : Hid (Box wd bb 30 [.int .i64 b.me, .int .i64 b.kept.view, .int .i64 b.kept.normal, .bool b.kept.calm, .slice alb b.kept.log.length clb, .int .i64 b.kept.commit, .slice ahb b.hav.length chb, .slice awb b.wants.length cwb, .slice agb b.gives.length cgb, .slice anb b.given.length cnb]) := BB.out.below hbd BB.out.lt
          have BZd : Hid (Box wd zb 30 [.int .i64 z.me, .int .i64 z.kept.view, .int .i64 z.kept.normal, .bool z.kept.calm, .slice alz z.kept.log.length clz, .int .i64 z.kept.commit, .slice ahz z.hav.length chz, .slice awz z.wants.length cwz, .slice agz z.gives.length cgz, .slice anz z.given.length cnz]) := BZ.out.below hbd BZ.out.lt
          have BYd : Hid (Box wd yb 30 [.int .i64 y.me, .int .i64 y.kept.view, .int .i64 y.kept.normal, .bool y.kept.calm, .slice aly y.kept.log.length cly, .int .i64 y.kept.commit, .slice ahy y.hav.length chy, .slice awy y.wants.length cwy, .slice agy y.gives.length cgy, .slice any y.given.length cny]) := BY.out.below hbd BY.out.lt
          have HS1 : Hid (ReplBox (setAll wd ab 0 [.int .i64 z.me, .int .i64 z.kept.view, .int .i64 z.kept.normal, .bool z.kept.calm, .slice alz z.kept.log.length clz, .int .i64 z.kept.commit, .slice ahz z.hav.length chz, .slice awz z.wants.length cwz, .slice agz z.gives.length cgz, .slice anz z.given.length cnz]) w.heap.size ab z ∧ Box (setAll wd ab 0 [.int .i64 z.me, .int .i64 z.kept.view, .int .i64 z.kept.normal, .bool z.kept.calm, .slice alz z.kept.log.length clz, .int .i64 z.kept.commit, .slice ahz z.hav.length chz, .slice awz z.wants.length cwz, .slice agz z.gives.length cgz, .slice anz z.given.length cnz]) bb 30 [.int .i64 b.me, .int .i64 b.kept.view, .int .i64 b.kept.normal, .bool b.kept.calm, .slice alb b.kept.log.length clb, .int .i64 b.kept.commit, .slice ahb b.hav.length chb, .slice awb b.wants.length cwb, .slice agb b.gives.length cgb, .slice anb b.given.length cnb] ∧ ReplNew (setAll wd ab 0 [.int .i64 z.me, .int .i64 z.kept.view, .int .i64 z.kept.normal, .bool z.kept.calm, .slice alz z.kept.log.length clz, .int .i64 z.kept.commit, .slice ahz z.hav.length chz, .slice awz z.wants.length cwz, .slice agz z.gives.length cgz, .slice anz z.given.length cnz]) w.heap.size (.agg #[.int .i64 y.me, .int .i64 y.kept.view, .int .i64 y.kept.normal, .bool y.kept.calm, .slice aly y.kept.log.length cly, .int .i64 y.kept.commit, .slice ahy y.hav.length chy, .slice awy y.wants.length cwy, .slice agy y.gives.length cgy, .slice any y.given.length cny]) y ∧ (setAll wd ab 0 [.int .i64 z.me, .int .i64 z.kept.view, .int .i64 z.kept.normal, .bool z.kept.calm, .slice alz z.kept.log.length clz, .int .i64 z.kept.commit, .slice ahz z.hav.length chz, .slice awz z.wants.length cwz, .slice agz z.gives.length cgz, .slice anz z.given.length cnz]).ownsRow w.heap.size 9 1 (.slice (some ⟨ge, 0, none⟩) E.length ec) E.length (E.map enc) ∧ Box (setAll wd ab 0 [.int .i64 z.me, .int .i64 z.kept.view, .int .i64 z.kept.normal, .bool z.kept.calm, .slice alz z.kept.log.length clz, .int .i64 z.kept.commit, .slice ahz z.hav.length chz, .slice awz z.wants.length cwz, .slice agz z.gives.length cgz, .slice anz z.given.length cnz]) oc 3 [.int .i64 ((oi : Int) + 1)] ∧ Below w.heap.size w (setAll wd ab 0 [.int .i64 z.me, .int .i64 z.kept.view, .int .i64 z.kept.normal, .bool z.kept.calm, .slice alz z.kept.log.length clz, .int .i64 z.kept.commit, .slice ahz z.hav.length chz, .slice awz z.wants.length cwz, .slice agz z.gives.length cgz, .slice anz z.given.length cnz]) ∧ Box (setAll wd ab 0 [.int .i64 z.me, .int .i64 z.kept.view, .int .i64 z.kept.normal, .bool z.kept.calm, .slice alz z.kept.log.length clz, .int .i64 z.kept.commit, .slice ahz z.hav.length chz, .slice awz z.wants.length cwz, .slice agz z.gives.length cgz, .slice anz z.given.length cnz]) zb 30 [.int .i64 z.me, .int .i64 z.kept.view, .int .i64 z.kept.normal, .bool z.kept.calm, .slice alz z.kept.log.length clz, .int .i64 z.kept.commit, .slice ahz z.hav.length chz, .slice awz z.wants.length cwz, .slice agz z.gives.length cgz, .slice anz z.given.length cnz] ∧ Box (setAll wd ab 0 [.int .i64 z.me, .int .i64 z.kept.view, .int .i64 z.kept.normal, .bool z.kept.calm, .slice alz z.kept.log.length clz, .int .i64 z.kept.commit, .slice ahz z.hav.length chz, .slice awz z.wants.length cwz, .slice agz z.gives.length cgz, .slice anz z.given.length cnz]) yb 30 [.int .i64 y.me, .int .i64 y.kept.view, .int .i64 y.kept.normal, .bool y.kept.calm, .slice aly y.kept.log.length cly, .int .i64 y.kept.commit, .slice ahy y.hav.length chy, .slice awy y.wants.length cwy, .slice agy y.gives.length cgy, .slice any y.given.length cny]) := by
            have hne := HNE.out
            have hev := own_below HEV1.out hbd (own_lt HEV1.out)
            exact ⟨set_repl BAd.out rfl (HRZ2.out.below hbd), BBd.out.setAll_other (by omega) _ _, keep_new (HRY.out.below hbd) BAd.out _, setAll_own _ _ _ hev (own_type hev BAd.out (by decide)), (HOC1.out.below hbd HOC1.out.lt).setAll_other (by omega) _ _, keep_below (Below.far HBW.out hbd) hne.2.2.2.2 _, BZd.out.setAll_other (by omega) _ _, BYd.out.setAll_other (by omega) _ _⟩
          refine wpPlan_line ?_
          simp only [sel, ↓reduceIte, Nat.reduceEqDiff]
          refine wpEarly_cons ?_
          have h6 := BAd.out
          have y0 := h6.cell 0 _ rfl
          have y1 := h6.cell 1 _ rfl
          have y2 := h6.cell 2 _ rfl
          have y3 := h6.cell 3 _ rfl
          have y4 := h6.cell 4 _ rfl
          have y5 := h6.cell 5 _ rfl
          have y6 := h6.cell 6 _ rfl
          have y7 := h6.cell 7 _ rfl
          have y8 := h6.cell 8 _ rfl
          have y9 := h6.cell 9 _ rfl
          have f0 := h6.frozen 0
          have f1 := h6.frozen 1
          have f2 := h6.frozen 2
          have f3 := h6.frozen 3
          have f4 := h6.frozen 4
          have f5 := h6.frozen 5
          have f6 := h6.frozen 6
          have f7 := h6.frozen 7
          have f8 := h6.frozen 8
          have f9 := h6.frozen 9
          obtain ⟨we, hwe⟩ : ∃ we, we = setAll wd ab 0 [.int .i64 z.me, .int .i64 z.kept.view, .int .i64 z.kept.normal, .bool z.kept.calm, .slice alz z.kept.log.length clz, .int .i64 z.kept.commit, .slice ahz z.hav.length chz, .slice awz z.wants.length cwz, .slice agz z.gives.length cgz, .slice anz z.given.length cnz] := ⟨_, rfl⟩
          rw [← hwe] at HS1
          simp only [setAll] at hwe
          go_wp2_with fail
          rw [← hwe]
          clear hwe y0 y1 y2 y3 y4 y5 y6 y7 y8 y9 f0 f1 f2 f3 f4 f5 f6 f7 f8 f9 h6
          refine wpEarly_next ⟨HS1.out.2.2.2.2.2.2.1, HS1.out.2.2.2.2.2.2.2⟩ fun m3 => ?_
          refine wpEarly_nil ?_
          refine wpPlan_done ?_
          simp only [sel, ↓reduceIte, Nat.reduceEqDiff]
          obtain ⟨wf, hwf⟩ : ∃ wf, wf = (we.drewN m3) := ⟨_, rfl⟩
          have HBf : Hid (Below we.heap.size we wf) := by rw [hwf]; exact (below_drewN _ (Below.refl _ _))
          have hbf : Below we.heap.size we wf := by rw [hwf]; exact (below_drewN _ (Below.refl _ _))
          rw [← hwf]
          clear hwf
          have BBf : Hid (Box wf bb 30 [.int .i64 b.me, .int .i64 b.kept.view, .int .i64 b.kept.normal, .bool b.kept.calm, .slice alb b.kept.log.length clb, .int .i64 b.kept.commit, .slice ahb b.hav.length chb, .slice awb b.wants.length cwb, .slice agb b.gives.length cgb, .slice anb b.given.length cnb]) := HS1.out.2.1.below hbf HS1.out.2.1.lt
          have HS2 : Hid (LLInv w E ((oi : Int) + 1) ab oc bb (.slice (some ⟨ge, 0, none⟩) E.length ec) (k + 1) (setAll wf bb 0 [.int .i64 y.me, .int .i64 y.kept.view, .int .i64 y.kept.normal, .bool y.kept.calm, .slice aly y.kept.log.length cly, .int .i64 y.kept.commit, .slice ahy y.hav.length chy, .slice awy y.wants.length cwy, .slice agy y.gives.length cgy, .slice any y.given.length cny])) := by
            have hne := HNE.out
            obtain ⟨s1, s2, s3, s4, s5, s6, _, _⟩ := HS1.out
            have hev := own_below s4 hbf (own_lt s4)
            exact ⟨z, y, HZ.out.2.2.2.2.2, keep_repl (s1.below hbf) BBf.out (by omega) _, set_repl BBf.out rfl (s3.below hbf), setAll_own _ _ _ hev (own_type hev BBf.out (by decide)), (s5.below hbf s5.lt).setAll_other (by omega) _ _, keep_below (Below.far s6 hbf) (by omega) _⟩
          have h6 := BBf.out
          have y0 := h6.cell 0 _ rfl
          have y1 := h6.cell 1 _ rfl
          have y2 := h6.cell 2 _ rfl
          have y3 := h6.cell 3 _ rfl
          have y4 := h6.cell 4 _ rfl
          have y5 := h6.cell 5 _ rfl
          have y6 := h6.cell 6 _ rfl
          have y7 := h6.cell 7 _ rfl
          have y8 := h6.cell 8 _ rfl
          have y9 := h6.cell 9 _ rfl
          have f0 := h6.frozen 0
          have f1 := h6.frozen 1
          have f2 := h6.frozen 2
          have f3 := h6.frozen 3
          have f4 := h6.frozen 4
          have f5 := h6.frozen 5
          have f6 := h6.frozen 6
          have f7 := h6.frozen 7
          have f8 := h6.frozen 8
          have f9 := h6.frozen 9
          obtain ⟨wg, hwg⟩ : ∃ wg, wg = setAll wf bb 0 [.int .i64 y.me, .int .i64 y.kept.view, .int .i64 y.kept.normal, .bool y.kept.calm, .slice aly y.kept.log.length cly, .int .i64 y.kept.commit, .slice ahy y.hav.length chy, .slice awy y.wants.length cwy, .slice agy y.gives.length cgy, .slice any y.given.length cny] := ⟨_, rfl⟩
          rw [← hwg] at HS2
          simp only [setAll] at hwg
          go_upto_region 20 with fail
          rw [← hwg]
          clear hwg y0 y1 y2 y3 y4 y5 y6 y7 y8 y9 f0 f1 f2 f3 f4 f5 f6 f7 f8 f9 h6
          go_wp2_with fail
          go_roundw
          case rel => exact ⟨k + 1, by have := HK.out; omega, by go_num, HS2.out⟩
          case measure => simp [intOf]; have := HK.out; omega
    · obtain rfl : k = E.length := by omega
      clear hlt hk
      go_wp2_with fail
      go_ret
      exact ⟨rfl, HB0.out⟩

end Go.Proofs.YtmdgkjbiicaljagDoor
