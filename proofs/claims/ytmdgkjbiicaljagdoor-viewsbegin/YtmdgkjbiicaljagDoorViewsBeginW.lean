/- The walk of ViewsBegin. -/
import Derived.Test.YtmdgkjbiicaljagDoorJointIdxWant
import Derived.Test.YtmdgkjbiicaljagDoorJointReqsMath
import Derived.Test.YtmdgkjbiicaljagDoorJointEqAny
import Derived.Test.YtmdgkjbiicaljagDoorJointRawMem
import Derived.Test.YtmdgkjbiicaljagDoorJointTurnGo
import Derived.OpenShut
namespace Go.Proofs.YtmdgkjbiicaljagDoor
open Go.RowKit
set_option linter.unusedVariables false
set_option linter.unusedSimpArgs false

theorem strs_first {w : World} {a : Option Addr} {n c : Nat} {l : List (List UInt8)} (h : Strs w (.slice a n c) l) (k : Nat) (hk : k ≤ n) : Strs w (.slice a k c) (l.take k) := by
  obtain ⟨a', c', e, hl, hc⟩ := h
  simp only [Value.slice.injEq] at e
  obtain ⟨rfl, hn, rfl⟩ := e
  have e1 : (l.take k).length = k := by rw [List.length_take]; omega
  refine ⟨a, c, by rw [e1], by rw [e1]; omega, fun i hi => ?_⟩
  rw [e1] at hi
  obtain ⟨b, o, ha, hcell⟩ := hc i (by omega)
  refine ⟨b, o, ha, ?_⟩
  have : (l.take k).getD i [] = l.getD i [] := by
    simp only [List.getD, List.getElem?_take_of_lt hi]
  rw [this]
  exact hcell
theorem own_cap {w : World} {base size n cap : Nat} {e : TypeId} {a : Option Addr} {xs : List Value} (ho : w.ownsRow base e size (.slice a n cap) n xs) : n ≤ cap := by
  rcases ho.2 with ⟨h2, _⟩ | ⟨g, cap', cur, e, h3, hg, r⟩
  · simp only [Value.slice.injEq] at h2
    omega
  · simp only [Value.slice.injEq] at e
    obtain ⟨_, _, rfl⟩ := e
    exact r.1
/-- What the walk keeps: two replicas in their boxes, the log, and all that was there before. -/
def VInv (w : World) (E : List (List UInt8)) (ab bb : Nat) (ev : Value) (A B : ReplM) (wr : World) : Prop :=
  ReplBox wr w.heap.size ab A ∧ ReplBox wr w.heap.size bb B ∧ wr.ownsRow w.heap.size 9 1 ev E.length (E.map enc) ∧ Below w.heap.size w wr
theorem VInv.below {w : World} {E : List (List UInt8)} {ab bb : Nat} {ev : Value} {A B : ReplM} {wr wx : World} (h : VInv w E ab bb ev A B wr) (hb : Below wr.heap.size wr wx) : VInv w E ab bb ev A B wx :=
  ⟨h.1.below hb, h.2.1.below hb, own_below h.2.2.1 hb (own_lt h.2.2.1), Below.far h.2.2.2 hb⟩
theorem VInv.setA {w : World} {E : List (List UInt8)} {ab bb : Nat} {ev : Value} {A B R : ReplM} {wr : World} {al ah aw ag an : Option Addr} {cl ch cw cg cn : Nat} (h : VInv w E ab bb ev A B wr) (hne : ab < bb) (hw : w.heap.size ≤ ab) (hr : ReplNew wr w.heap.size (.agg #[.int .i64 R.me, .int .i64 R.kept.view, .int .i64 R.kept.normal, .bool R.kept.calm, .slice al R.kept.log.length cl, .int .i64 R.kept.commit, .slice ah R.hav.length ch, .slice aw R.wants.length cw, .slice ag R.gives.length cg, .slice an R.given.length cn]) R) :
    VInv w E ab bb ev R B (setAll wr ab 0 [.int .i64 R.me, .int .i64 R.kept.view, .int .i64 R.kept.normal, .bool R.kept.calm, .slice al R.kept.log.length cl, .int .i64 R.kept.commit, .slice ah R.hav.length ch, .slice aw R.wants.length cw, .slice ag R.gives.length cg, .slice an R.given.length cn]) := by
  obtain ⟨h1, h2, h3, h4⟩ := h
  obtain ⟨_, _, _, _, _, _, _, _, _, _, hx, _⟩ := h1
  exact ⟨set_repl hx rfl hr, keep_repl h2 hx (by omega) _, setAll_own _ _ _ h3 (own_type h3 hx (by decide)), keep_below h4 hw _⟩
theorem VInv.setB {w : World} {E : List (List UInt8)} {ab bb : Nat} {ev : Value} {A B R : ReplM} {wr : World} {al ah aw ag an : Option Addr} {cl ch cw cg cn : Nat} (h : VInv w E ab bb ev A B wr) (hne : ab < bb) (hw : w.heap.size ≤ ab) (hr : ReplNew wr w.heap.size (.agg #[.int .i64 R.me, .int .i64 R.kept.view, .int .i64 R.kept.normal, .bool R.kept.calm, .slice al R.kept.log.length cl, .int .i64 R.kept.commit, .slice ah R.hav.length ch, .slice aw R.wants.length cw, .slice ag R.gives.length cg, .slice an R.given.length cn]) R) :
    VInv w E ab bb ev A R (setAll wr bb 0 [.int .i64 R.me, .int .i64 R.kept.view, .int .i64 R.kept.normal, .bool R.kept.calm, .slice al R.kept.log.length cl, .int .i64 R.kept.commit, .slice ah R.hav.length ch, .slice aw R.wants.length cw, .slice ag R.gives.length cg, .slice an R.given.length cn]) := by
  obtain ⟨h1, h2, h3, h4⟩ := h
  obtain ⟨_, _, _, _, _, _, _, _, _, _, hx, _⟩ := h2
  exact ⟨keep_repl h1 hx (by omega) _, set_repl hx rfl hr, setAll_own _ _ _ h3 (own_type h3 hx (by decide)), keep_below h4 (by omega) _⟩
theorem keep_msgs {wc : World} {B b : Nat} {cs : List Value} {L : List MsgM} {v : Value} (h : MsgsNew wc B v L) (hx : Box wc b 30 cs) (xs : List Value) : MsgsNew (setAll wc b 0 xs) B v L := by
  obtain ⟨ps, e, ho⟩ := h
  exact ⟨ps, e, ho.setAll hx (by decide) (by decide) 0 _⟩

def V8 (w : World) (E : List (List UInt8)) (ab bb : Nat) (ev : Value) (A B : ReplM) (L : List MsgM) (xo xe : Value) (wx : World) : Prop :=
  ∃ asl csl, xo = .slice asl L.length csl ∧ xe = .int .i64 0 ∧ VInv w E ab bb ev A B wx ∧ MsgsNew wx w.heap.size (.slice asl L.length csl) L
theorem V8.drew {w : World} {E : List (List UInt8)} {ab bb : Nat} {ev : Value} {A B : ReplM} {L : List MsgM} {xo xe : Value} {wx : World} (h : V8 w E ab bb ev A B L xo xe wx) : V8 w E ab bb ev A B L xo xe wx.drew := by
  obtain ⟨asl, csl, h1, h2, h3, h4⟩ := h
  exact ⟨asl, csl, h1, h2, h3.below (Below.refl _ _).drew, msgs_below h4 (Below.refl _ _).drew⟩
theorem V8.below {w : World} {E : List (List UInt8)} {ab bb : Nat} {ev : Value} {A B : ReplM} {L : List MsgM} {xo xe : Value} {wx wy : World} (h : V8 w E ab bb ev A B L xo xe wx) (hb : Below wx.heap.size wx wy) : V8 w E ab bb ev A B L xo xe wy := by
  obtain ⟨asl, csl, h1, h2, h3, h4⟩ := h
  exact ⟨asl, csl, h1, h2, h3.below hb, msgs_below h4 hb⟩
theorem v8_set {w : World} {E : List (List UInt8)} {ab bb : Nat} {ev : Value} {A B R : ReplM} {L : List MsgM} {wD wr : World} {al ah aw ag an asl : Option Addr} {cl ch cw cg cn csl : Nat} (h : VInv w E ab bb ev A B wD) (hW : Below wD.heap.size wD wr) (hne : ab < bb) (hw : w.heap.size ≤ ab) (hr : ReplNew wr w.heap.size (.agg #[.int .i64 R.me, .int .i64 R.kept.view, .int .i64 R.kept.normal, .bool R.kept.calm, .slice al R.kept.log.length cl, .int .i64 R.kept.commit, .slice ah R.hav.length ch, .slice aw R.wants.length cw, .slice ag R.gives.length cg, .slice an R.given.length cn]) R) (hm : MsgsNew wr w.heap.size (.slice asl L.length csl) L) :
    V8 w E ab bb ev R B L (.slice asl L.length csl) (.int .i64 0) (setAll wr ab 0 [.int .i64 R.me, .int .i64 R.kept.view, .int .i64 R.kept.normal, .bool R.kept.calm, .slice al R.kept.log.length cl, .int .i64 R.kept.commit, .slice ah R.hav.length ch, .slice aw R.wants.length cw, .slice ag R.gives.length cg, .slice an R.given.length cn]) := by
  have h' := h.below hW
  have hx := h'.1
  obtain ⟨_, _, _, _, _, _, _, _, _, _, hx, _⟩ := hx
  exact ⟨asl, csl, rfl, rfl, h'.setA hne hw hr, keep_msgs hm hx _⟩
theorem enter_hear (us : Array Value) (w : World) : (callFunc 12 us).run Tryd.prog w = .ok (.enter 12 us) w := by kernel_rfl

set_option maxRecDepth 4000 in
set_option maxHeartbeats 16000000 in
theorem viewsBegin_walk (w : World) (l : List RawM) {v : Value} (h : Raws w v l) (n : Int) (wn : (Lit.int .i64 n).wf = true) (ht : Tab w) :
    Calls Tryd.prog 4 #[v, .int .i64 n] w fun e w' => e = .returned (.bool true) ∧ Below w.heap.size w w' := by
  have hn : -9223372036854775808 ≤ n ∧ n ≤ 9223372036854775807 := bounds_i64 wn
  have HN : Hid (-9223372036854775808 ≤ n ∧ n ≤ 9223372036854775807) := hn
  have h12 : (l.take 12).length ≤ 12 := List.length_take_le _ _
  have hok := reqsOf_ok (l.take 12) nx0 0 rfl (by omega) (by intro x hx; simp [nx0] at hx; omega)
  have hql := reqsOf_len nx0 (l.take 12)
  have hmin : min l.length 12 = (reqsOf nx0 (l.take 12)).length := by rw [hql, List.length_take, Nat.min_comm]
  have HRQ : Hid (Calls Tryd.prog 8 #[v, .int .i64 12] w _) := requests_any l 12 _ w h ht (by omega)
  rw [hmin] at HRQ
  obtain ⟨q, hq⟩ : ∃ q, reqsOf nx0 (l.take 12) = q := ⟨_, rfl⟩
  rw [hq] at HRQ hok hql
  have HQ : Hid ((∀ r ∈ q, reqFault r = 0) ∧ q.length ≤ 12) := ⟨hok, by omega⟩
  obtain ⟨ax, cx, rfl, hq1, hq2⟩ := h
  clear hq1 hq2 h12 hok hql hmin hq ht wn hn
  go_enter Tryd.func4, Tryd.ntmps4
  go_wp2_with fail
  refine HRQ.out.mono ?_
  rintro e w6 ⟨v6, rfl, hown6, hb6⟩
  have hra : ReqsAt w6 v6 q := ReqsAt.of_own hown6 (by have := HQ.out.2; omega)
  obtain ⟨E, hE, hEl, hE0, hE40, hCC⟩ := entries_is q v6 w6 hra HQ.out.1
  obtain ⟨a6, c6, rfl⟩ := own_formN hown6
  have HCC : Hid (Calls _ _ _ w6 _) := hCC
  have HE : Hid (VLog E ∧ TextsIn E) := ⟨⟨by have := HQ.out.2; omega, hE0⟩, by have := HQ.out.2; omega, fun s hs => by have := hE40 s hs; omega⟩
  have HB6 : Hid (Below w.heap.size w w6) := hb6
  clear hra hE hEl hE0 hE40 hCC hown6 hb6 HRQ
  go_wp2_with fail
  refine HCC.out.mono ?_
  rintro e w7 ⟨v7, rfl, hown7, hb7⟩
  obtain ⟨ea, ec, rfl⟩ := own_form hown7
  have HB7 : Hid (Below w.heap.size w w7) := Below.far HB6.out hb7
  have HEV : Hid (w7.ownsRow w.heap.size 9 1 (.slice ea E.length ec) E.length (E.map enc)) := own_base hown7 HB6.out.size
  clear hown7 hb7 HCC
  have hp := pickN_bd n ((E.length : Int) + 1) (by omega)
  obtain ⟨k, hk⟩ : ∃ k : Nat, pickN n ((E.length : Int) + 1) = k := ⟨(pickN n ((E.length : Int) + 1)).toNat, by omega⟩
  rw [hk] at hp
  have HKE : Hid (k ≤ E.length) := by show k ≤ E.length; omega
  have HPK : Hid (∀ W, Calls Tryd.prog 6 #[.int .i64 n, .int .i64 ((E.length : Int) + 1)] W fun e w' => e = .returned (.int .i64 k) ∧ w' = W) := fun W => by
    rw [← hk]
    exact picked_any n _ W HN.out.1 HN.out.2 (by omega) (by have := HE.out.1.len; omega)
  have hl12 := HE.out.1.len
  clear hp hk
  have l0 : (0 : Int) ≤ (E.length : Int) := by omega
  have l1 : (E.length : Int) ≤ 12 := by omega
  go_wp2_with fail
  try rw [wrap64_as _ ⟨by omega, by omega⟩]
  refine (HPK.out w7).mono ?_
  rintro e w7' ⟨rfl, e7⟩
  subst e7
  clear l0 l1 hl12 HPK
  have hcap := own_cap HEV.out
  have k0 : (0 : Int) ≤ (k : Int) := by omega
  have k1 : (k : Int) ≤ (ec : Int) := by have := HKE.out; omega
  have k2 : (k : Int) ≤ (E.length : Int) := by have := HKE.out; omega
  clear hcap
  have HST : Hid (∀ W, Below w7'.heap.size w7' W → Strs W (.slice ea E.length ec) E) := fun W hW => Strs.of_own (own_below HEV.out hW (own_lt HEV.out)) (by have := HE.out.2.1; omega) HE.out.2.2
  have hnew := v_new HE.out.1 k
  have HNA : Hid (Calls Tryd.prog 5 #[.int .i64 1, .agg #[.int .i64 0, .int .i64 0, .bool true, .slice ea k ec, .int .i64 0]] w7' _) := replNew_any 1 (vA0 E k).kept _ w7' ⟨.slice ea k ec, rfl, strs_first (HST.out w7' (Below.refl _ _)) k HKE.out⟩ (by show (E.take k).length * 16 ≤ _; have := HE.out.1.len; rw [List.length_take]; omega)
  have HNB : Hid (∀ W, Below w7'.heap.size w7' W → Calls Tryd.prog 5 #[.int .i64 2, .agg #[.int .i64 0, .int .i64 0, .bool true, .slice ea E.length ec, .int .i64 0]] W _) := fun W hW => replNew_any 2 (vB0 E).kept _ W ⟨.slice ea E.length ec, rfl, HST.out W hW⟩ (by show E.length * 16 ≤ _; have := HE.out.1.len; omega)
  rw [hnew.1, hnew.2.1] at HNA
  rw [hnew.2.2.1, hnew.2.2.2] at HNB
  obtain ⟨RA, hRA⟩ : ∃ RA, vA0 E k = RA := ⟨_, rfl⟩
  obtain ⟨RB, hRB⟩ : ∃ RB, vB0 E = RB := ⟨_, rfl⟩
  rw [hRA] at HNA
  rw [hRB] at HNB
  have HRA0 : Hid (vA0 E k = RA ∧ ReplMay RA) := ⟨hRA, by rw [← hRA]; exact vA0_may HE.out.1 k⟩
  have HRB0 : Hid (vB0 E = RB ∧ ReplMay RB) := ⟨hRB, by rw [← hRB]; exact vB0_may HE.out.1⟩
  clear hnew hRA hRB
  go_wp2_with fail
  refine HNA.out.mono ?_
  rintro e w8 ⟨v8, rfl, hr8, hb8⟩
  obtain ⟨al, cl, ah, ch, aw, cw, ag, cg, an, cn, rfl⟩ := hr8.form
  have b9 := Box.new w8 30 [.int .i64 RA.me, .int .i64 RA.kept.view, .int .i64 RA.kept.normal, .bool RA.kept.calm, .slice al RA.kept.log.length cl, .int .i64 RA.kept.commit, .slice ah RA.hav.length ch, .slice aw RA.wants.length cw, .slice ag RA.gives.length cg, .slice an RA.given.length cn]
  obtain ⟨w9, hw9⟩ : ∃ w9, w9 = w8.alloc (.cells #[.int .i64 RA.me, .int .i64 RA.kept.view, .int .i64 RA.kept.normal, .bool RA.kept.calm, .slice al RA.kept.log.length cl, .int .i64 RA.kept.commit, .slice ah RA.hav.length ch, .slice aw RA.wants.length cw, .slice ag RA.gives.length cg, .slice an RA.given.length cn] 30) := ⟨_, rfl⟩
  have hb9 : Below w8.heap.size w8 w9 := by rw [hw9]; exact below_alloc _ _
  rw [← hw9] at b9
  obtain ⟨ab, hab⟩ : ∃ ab, w8.heap.size = ab := ⟨_, rfl⟩
  rw [hab] at b9
  have HXA : Hid (ReplBox w9 w.heap.size ab RA) := ReplBox.base ⟨al, cl, ah, ch, aw, cw, ag, cg, an, cn, b9, hr8.below hb9⟩ HB7.out.size
  have HB9 : Hid (Below w7'.heap.size w7' w9) := Below.far hb8 hb9
  have HAL : Hid (w.heap.size ≤ ab ∧ ab < w9.heap.size) := ⟨by rw [← hab]; exact Nat.le_trans HB7.out.size hb8.size, b9.lt⟩
  clear hr8 hb8 hb9 b9 HNA
  go_upto_region 4 with fail
  rw [← hw9]
  try rw [hab]
  clear hw9 hab
  go_wp2_with fail
  refine (HNB.out w9 HB9.out).mono ?_
  rintro e wA ⟨v8, rfl, hr8, hb8⟩
  obtain ⟨alb, clb, ahb, chb, awb, cwb, agb, cgb, anb, cnb, rfl⟩ := hr8.form
  have b9 := Box.new wA 30 [.int .i64 RB.me, .int .i64 RB.kept.view, .int .i64 RB.kept.normal, .bool RB.kept.calm, .slice alb RB.kept.log.length clb, .int .i64 RB.kept.commit, .slice ahb RB.hav.length chb, .slice awb RB.wants.length cwb, .slice agb RB.gives.length cgb, .slice anb RB.given.length cnb]
  obtain ⟨wB, hwB⟩ : ∃ wB, wB = wA.alloc (.cells #[.int .i64 RB.me, .int .i64 RB.kept.view, .int .i64 RB.kept.normal, .bool RB.kept.calm, .slice alb RB.kept.log.length clb, .int .i64 RB.kept.commit, .slice ahb RB.hav.length chb, .slice awb RB.wants.length cwb, .slice agb RB.gives.length cgb, .slice anb RB.given.length cnb] 30) := ⟨_, rfl⟩
  have hb9 : Below wA.heap.size wA wB := by rw [hwB]; exact below_alloc _ _
  rw [← hwB] at b9
  obtain ⟨bb, hbb⟩ : ∃ bb, wA.heap.size = bb := ⟨_, rfl⟩
  rw [hbb] at b9
  have hbAB : Below w9.heap.size w9 wB := Below.far hb8 hb9
  have HAB : Hid (ab < bb) := by have := HAL.out.2; have := hb8.size; show ab < bb; omega
  have HV0 : Hid (VInv w E ab bb (.slice ea E.length ec) RA RB wB) := ⟨HXA.out.below hbAB, ReplBox.base ⟨alb, clb, ahb, chb, awb, cwb, agb, cgb, anb, cnb, b9, hr8.below hb9⟩ (Nat.le_trans HB7.out.size HB9.out.size), own_below (own_below HEV.out HB9.out (own_lt HEV.out)) hbAB (own_lt (own_below HEV.out HB9.out (own_lt HEV.out))), Below.far HB7.out (Below.far HB9.out hbAB)⟩
  have BB0 : Hid (Box wB bb 30 [.int .i64 RB.me, .int .i64 RB.kept.view, .int .i64 RB.kept.normal, .bool RB.kept.calm, .slice alb RB.kept.log.length clb, .int .i64 RB.kept.commit, .slice ahb RB.hav.length chb, .slice awb RB.wants.length cwb, .slice agb RB.gives.length cgb, .slice anb RB.given.length cnb]) := b9
  have HRB1 : Hid (ReplAt wB (.agg #[.int .i64 RB.me, .int .i64 RB.kept.view, .int .i64 RB.kept.normal, .bool RB.kept.calm, .slice alb RB.kept.log.length clb, .int .i64 RB.kept.commit, .slice ahb RB.hav.length chb, .slice awb RB.wants.length cwb, .slice agb RB.gives.length cgb, .slice anb RB.given.length cnb]) RB) := (hr8.at (may_fits _ HRB0.out.2)).below hb9
  clear hr8 hb8 hb9 b9 HNB hbAB HXA
  go_upto_region 5 with fail
  rw [← hwB]
  try rw [hbb]
  clear hwB hbb
  have h5 := BB0.out
  have x0 := h5.cell 0 _ rfl
  have x1 := h5.cell 1 _ rfl
  have x2 := h5.cell 2 _ rfl
  have x3 := h5.cell 3 _ rfl
  have x4 := h5.cell 4 _ rfl
  have x5 := h5.cell 5 _ rfl
  have x6 := h5.cell 6 _ rfl
  have x7 := h5.cell 7 _ rfl
  have x8 := h5.cell 8 _ rfl
  have x9 := h5.cell 9 _ rfl
  clear h5
  go_wp2_with fail
  refine (alarmGo_any RB _ wB HRB1.out (may_fits _ HRB0.out.2)).mono ?_
  rintro e wC ⟨v9, vs9, rfl, hr9, hm9, hb9⟩
  have hal := v_alarm HE.out.1
  rw [HRB0.out.1] at hal
  rw [hal.1]
  rw [hal.2.1] at hr9
  rw [hal.2.2] at hm9
  have HMB1 : Hid (ReplMay (vB1 E) ∧ ReplMay (vA1 E k) ∧ ReplMay (vC E)) := ⟨vB1_may HE.out.1, vA1_may HE.out.1 k, vC_may HE.out.1⟩
  obtain ⟨R1, hR1⟩ : ∃ R1, vB1 E = R1 := ⟨_, rfl⟩
  rw [hR1] at hr9 HMB1
  have HR1 : Hid (vB1 E = R1) := hR1
  obtain ⟨ald, cld, ahd, chd, awd, cwd, agd, cgd, anD, cnd, rfl⟩ := hr9.form
  obtain ⟨oa, ocp, ev⟩ := hm9.form
  rw [show [wantM 2 0, wantM 2 1].length = 2 from rfl] at ev
  subst ev
  have hV1 := HV0.out.below hb9
  have BBC : Hid (Box wC bb 30 [.int .i64 RB.me, .int .i64 RB.kept.view, .int .i64 RB.kept.normal, .bool RB.kept.calm, .slice alb RB.kept.log.length clb, .int .i64 RB.kept.commit, .slice ahb RB.hav.length chb, .slice awb RB.wants.length cwb, .slice agb RB.gives.length cgb, .slice anb RB.given.length cnb]) := BB0.out.below hb9 BB0.out.lt
  have hsz : w.heap.size ≤ wB.heap.size := HV0.out.2.2.2.size
  obtain ⟨wD, hwD⟩ : ∃ wD, wD = setAll wC bb 0 [.int .i64 R1.me, .int .i64 R1.kept.view, .int .i64 R1.kept.normal, .bool R1.kept.calm, .slice ald R1.kept.log.length cld, .int .i64 R1.kept.commit, .slice ahd R1.hav.length chd, .slice awd R1.wants.length cwd, .slice agd R1.gives.length cgd, .slice anD R1.given.length cnd] := ⟨_, rfl⟩
  have HVD : Hid (VInv w E ab bb (.slice ea E.length ec) RA R1 wD) := by rw [hwD]; exact hV1.setB HAB.out HAL.out.1 (hr9.base hsz)
  have HMD : Hid (MsgsNew wD w.heap.size (.slice oa 2 ocp) [wantM 2 0, wantM 2 1]) := by rw [hwD]; exact keep_msgs (hm9.base hsz) BBC.out _
  simp only [setAll] at hwD
  have h5 := BBC.out
  clear x0 x1 x2 x3 x4 x5 x6 x7 x8 x9
  have y0 := h5.cell 0 _ rfl
  have y1 := h5.cell 1 _ rfl
  have y2 := h5.cell 2 _ rfl
  have y3 := h5.cell 3 _ rfl
  have y4 := h5.cell 4 _ rfl
  have y5 := h5.cell 5 _ rfl
  have y6 := h5.cell 6 _ rfl
  have y7 := h5.cell 7 _ rfl
  have y8 := h5.cell 8 _ rfl
  have y9 := h5.cell 9 _ rfl
  have f0 := h5.frozen 0
  have f1 := h5.frozen 1
  have f2 := h5.frozen 2
  have f3 := h5.frozen 3
  have f4 := h5.frozen 4
  have f5 := h5.frozen 5
  have f6 := h5.frozen 6
  have f7 := h5.frozen 7
  have f8 := h5.frozen 8
  have f9 := h5.frozen 9
  clear h5 hal hR1 hr9 hm9 hb9 hV1 hsz BB0 HRB1
  go_upto_region 6 with fail
  rw [← hwD]
  clear hwD y0 y1 y2 y3 y4 y5 y6 y7 y8 y9 f0 f1 f2 f3 f4 f5 f6 f7 f8 f9 BBC HV0
  obtain ⟨M, hM⟩ : ∃ M, wantM 2 1 = M := ⟨_, rfl⟩
  have hMd : M.dst = 1 := by rw [← hM]; rfl
  have hMt : TextsIn M.log := by rw [← hM]; exact ⟨by decide, fun s hs => by simp [wantM] at hs⟩
  obtain ⟨gm, amm, cmm, rfl, hn2, hmc, hma⟩ := msg_read HMD.out 1 (by simp) M (by rw [← hM]; rfl) hMt
  have HMM : Hid (wantM 2 1 = M ∧ TextsIn M.log) := ⟨hM, hMt⟩
  have HMA1 : Hid (∀ W, Below wD.heap.size wD W → MsgAt W (.agg #[.int .i64 M.kind, .int .i64 M.frm, .int .i64 M.dst, .int .i64 M.view, .int .i64 M.normal, .int .i64 M.commit, .int .i64 M.n, .slice amm M.log.length cmm]) M) := hma
  have HMC1 : Hid (∀ W, Below wD.heap.size wD W → ∀ j u, [.int .i64 M.kind, .int .i64 M.frm, .int .i64 M.dst, .int .i64 M.view, .int .i64 M.normal, .int .i64 M.commit, .int .i64 M.n, .slice amm M.log.length cmm][j]? = some u → W.cell? ⟨gm, 1 * 8 + j, none⟩ = some u) := fun W hW j u hj => keep_cell9 hW (hmc j u hj)
  have t2 := HMC1.out wD (Below.refl _ _) 2 _ rfl
  rw [hMd] at t2
  simp only [Nat.one_mul, Nat.reduceAdd] at t2
  clear hM hMd hMt hn2 hmc hma
  go_upto_region 8 with fail
  clear t2
  obtain ⟨ala, cla, aha, cha, awa, cwa, aga, cga, ana, cna, bxa, hra⟩ := HVD.out.1
  have BXA : Hid (Box wD ab 30 [.int .i64 RA.me, .int .i64 RA.kept.view, .int .i64 RA.kept.normal, .bool RA.kept.calm, .slice ala RA.kept.log.length cla, .int .i64 RA.kept.commit, .slice aha RA.hav.length cha, .slice awa RA.wants.length cwa, .slice aga RA.gives.length cga, .slice ana RA.given.length cna]) := bxa
  have HRA8 : Hid (∀ W, Below wD.heap.size wD W → ReplAt W (.agg #[.int .i64 RA.me, .int .i64 RA.kept.view, .int .i64 RA.kept.normal, .bool RA.kept.calm, .slice ala RA.kept.log.length cla, .int .i64 RA.kept.commit, .slice aha RA.hav.length cha, .slice awa RA.wants.length cwa, .slice aga RA.gives.length cga, .slice ana RA.given.length cna]) RA) := fun W hW => (hra.at (may_fits _ HRA0.out.2)).below hW
  have hh := v_hear1 HE.out.1 k
  rw [HRA0.out.1, HMM.out.1] at hh
  obtain ⟨R2, hR2⟩ : ∃ R2, vA1 E k = R2 := ⟨_, rfl⟩
  rw [hR2] at hh HMB1
  have HR2 : Hid (vA1 E k = R2) := hR2
  obtain ⟨LW, hLW⟩ : ∃ LW, [wantM 1 0, wantM 1 2] = LW := ⟨_, rfl⟩
  rw [hLW] at hh
  have HLW : Hid ([wantM 1 0, wantM 1 2] = LW ∧ LW.length = 2) := ⟨hLW, by rw [← hLW]; rfl⟩
  have hsz : w.heap.size ≤ wD.heap.size := HVD.out.2.2.2.size
  have HHC : Hid (∀ W, Below wD.heap.size wD W → Calls Tryd.prog 12 [.agg #[.int .i64 RA.me, .int .i64 RA.kept.view, .int .i64 RA.kept.normal, .bool RA.kept.calm, .slice ala RA.kept.log.length cla, .int .i64 RA.kept.commit, .slice aha RA.hav.length cha, .slice awa RA.wants.length cwa, .slice aga RA.gives.length cga, .slice ana RA.given.length cna], .agg #[.int .i64 M.kind, .int .i64 M.frm, .int .i64 M.dst, .int .i64 M.view, .int .i64 M.normal, .int .i64 M.commit, .int .i64 M.n, .slice amm M.log.length cmm]].toArray W fun e w' => ∃ u', e = .returned u' ∧ (∃ al cl ah ch aw cw ag cg an cn asl csl, u' = .tuple #[.agg #[.int .i64 R2.me, .int .i64 R2.kept.view, .int .i64 R2.kept.normal, .bool R2.kept.calm, .slice al R2.kept.log.length cl, .int .i64 R2.kept.commit, .slice ah R2.hav.length ch, .slice aw R2.wants.length cw, .slice ag R2.gives.length cg, .slice an R2.given.length cn], .slice asl LW.length csl, .int .i64 0] ∧ ReplNew w' w.heap.size (.agg #[.int .i64 R2.me, .int .i64 R2.kept.view, .int .i64 R2.kept.normal, .bool R2.kept.calm, .slice al R2.kept.log.length cl, .int .i64 R2.kept.commit, .slice ah R2.hav.length ch, .slice aw R2.wants.length cw, .slice ag R2.gives.length cg, .slice an R2.given.length cn]) R2 ∧ MsgsNew w' w.heap.size (.slice asl LW.length csl) LW ∧ Below W.heap.size W w')) := fun W hW =>
    (hearGo_any RA M _ _ W (HRA8.out W hW) (may_fits _ HRA0.out.2) (HMA1.out W hW) HMM.out.2).mono fun e w' ⟨v4, vs4, he, hr4, hm4, hb4⟩ => by
      rw [hh.1] at he
      rw [hh.2.1] at hr4
      rw [hh.2.2] at hm4
      obtain ⟨al, cl, ah, ch, aw, cw, ag, cg, an, cn, rfl⟩ := hr4.form
      obtain ⟨asl, csl, rfl⟩ := hm4.form
      exact ⟨_, he, al, cl, ah, ch, aw, cw, ag, cg, an, cn, asl, csl, rfl, hr4.base (Nat.le_trans hsz hW.size), hm4.base (Nat.le_trans hsz hW.size), hb4⟩
  clear hh hR2 hLW hsz hra bxa
  go_cut [13, 14] (fun xo xe wx => V8 w E ab bb (.slice ea E.length ec) R2 R1 LW xo xe wx)
  case first =>
    refine wp_region_plan [0, 1, 2, 3, 4, 5, 5, 5, 5, 6, 6, 7] (.fork 0 1 (.line 1 (.line 2 (.line 3 (.line 4 (.free 5 (.line 6 (.done 7))))))) (.fork 0 2 (.line 2 (.line 3 (.line 4 (.free 5 (.line 6 (.done 7)))))) (.fork 0 3 (.line 3 (.line 4 (.free 5 (.line 6 (.done 7))))) (.line 0 (.line 4 (.free 5 (.line 6 (.done 7)))))))) (by kernel_rfl) (by kernel_rfl) (fun h => h) (Below w.heap.size w) HVD.out.2.2.2 (fun V n hV => below_drewN n hV) fun n0 => ?_
    have HDD : Hid (Below wD.heap.size wD wD) := Below.refl _ _
    obtain ⟨wq0, hwq0⟩ : ∃ wq0, wq0 = (wD.drewN n0) := ⟨_, rfl⟩
    have HDwq0 : Hid (Below wD.heap.size wD wq0) := by rw [hwq0]; exact (below_drewN _ (HDD.out))
    have hbq0 : Below wD.heap.size wD wq0 := by rw [hwq0]; exact (below_drewN _ (Below.refl _ _))
    rw [← hwq0]
    clear hwq0
    refine wpPlan_fork ?_ ?_
    · simp only [sel, ↓reduceIte, Nat.reduceEqDiff]
      refine wpEarly_cons ?_
      have bx := BXA.out.below HDwq0.out BXA.out.lt
      have x0 := bx.cell 0 _ rfl
      have x1 := bx.cell 1 _ rfl
      have x2 := bx.cell 2 _ rfl
      have x3 := bx.cell 3 _ rfl
      have x4 := bx.cell 4 _ rfl
      have x5 := bx.cell 5 _ rfl
      have x6 := bx.cell 6 _ rfl
      have x7 := bx.cell 7 _ rfl
      have x8 := bx.cell 8 _ rfl
      have x9 := bx.cell 9 _ rfl
      go_wp2_with fail
      clear bx x0 x1 x2 x3 x4 x5 x6 x7 x8 x9
      refine wpEarly_next (Below.far HVD.out.2.2.2 HDwq0.out) fun mq1 => ?_
      refine wpEarly_nil ?_
      obtain ⟨wq1, hwq1⟩ : ∃ wq1, wq1 = (wq0.drewN mq1) := ⟨_, rfl⟩
      have HDwq1 : Hid (Below wD.heap.size wD wq1) := by rw [hwq1]; exact (below_drewN _ (HDwq0.out))
      have hbq1 : Below wq0.heap.size wq0 wq1 := by rw [hwq1]; exact (below_drewN _ (Below.refl _ _))
      rw [← hwq1]
      clear hwq1
      refine wpPlan_line ?_
      simp only [sel, ↓reduceIte, Nat.reduceEqDiff]
      refine wpEarly_cons ?_
      go_wp2_with fail
      refine wpEarly_next (Below.far HVD.out.2.2.2 HDwq1.out) fun mq2 => ?_
      refine wpEarly_nil ?_
      obtain ⟨wq2, hwq2⟩ : ∃ wq2, wq2 = (wq1.drewN mq2) := ⟨_, rfl⟩
      have HDwq2 : Hid (Below wD.heap.size wD wq2) := by rw [hwq2]; exact (below_drewN _ (HDwq1.out))
      have hbq2 : Below wq1.heap.size wq1 wq2 := by rw [hwq2]; exact (below_drewN _ (Below.refl _ _))
      rw [← hwq2]
      clear hwq2
      refine wpPlan_line ?_
      simp only [sel, ↓reduceIte, Nat.reduceEqDiff]
      refine wpEarly_cons ?_
      go_wp2_with fail
      refine wpEarly_next (Below.far HVD.out.2.2.2 HDwq2.out) fun mq3 => ?_
      refine wpEarly_nil ?_
      obtain ⟨wq3, hwq3⟩ : ∃ wq3, wq3 = (wq2.drewN mq3) := ⟨_, rfl⟩
      have HDwq3 : Hid (Below wD.heap.size wD wq3) := by rw [hwq3]; exact (below_drewN _ (HDwq2.out))
      have hbq3 : Below wq2.heap.size wq2 wq3 := by rw [hwq3]; exact (below_drewN _ (Below.refl _ _))
      rw [← hwq3]
      clear hwq3
      refine wpPlan_line ?_
      simp only [sel, ↓reduceIte, Nat.reduceEqDiff]
      refine wpEarly_cons ?_
      have t0 := HMC1.out wq3 HDwq3.out 0 _ rfl
      have t1 := HMC1.out wq3 HDwq3.out 1 _ rfl
      have t2 := HMC1.out wq3 HDwq3.out 2 _ rfl
      have t3 := HMC1.out wq3 HDwq3.out 3 _ rfl
      have t4 := HMC1.out wq3 HDwq3.out 4 _ rfl
      have t5 := HMC1.out wq3 HDwq3.out 5 _ rfl
      have t6 := HMC1.out wq3 HDwq3.out 6 _ rfl
      have t7 := HMC1.out wq3 HDwq3.out 7 _ rfl
      simp only [Nat.one_mul, Nat.reduceAdd, Nat.add_zero] at t0 t1 t2 t3 t4 t5 t6 t7
      go_wp2_with fail
      clear t0 t1 t2 t3 t4 t5 t6 t7
      refine wpEarly_next (Below.far HVD.out.2.2.2 HDwq3.out) fun mq4 => ?_
      refine wpEarly_nil ?_
      obtain ⟨wq4, hwq4⟩ : ∃ wq4, wq4 = (wq3.drewN mq4) := ⟨_, rfl⟩
      have HDwq4 : Hid (Below wD.heap.size wD wq4) := by rw [hwq4]; exact (below_drewN _ (HDwq3.out))
      have hbq4 : Below wq3.heap.size wq3 wq4 := by rw [hwq4]; exact (below_drewN _ (Below.refl _ _))
      rw [← hwq4]
      clear hwq4
      refine wpPlan_line ?_
      simp only [sel, ↓reduceIte, Nat.reduceEqDiff]
      refine wpEarly_cons ?_
      go_wp2_with fail
      refine (HHC.out wq4 HDwq4.out).mono ?_
      rintro e wE ⟨u', rfl, alq, clq, ahq, chq, awq, cwq, agq, cgq, anq, cnq, asl, csl, rfl, hr4, hm4, hb4⟩
      have HDE : Hid (Below wD.heap.size wD wE) := Below.far HDwq4.out hb4
      have HRE : Hid (ReplNew wE w.heap.size (.agg #[.int .i64 R2.me, .int .i64 R2.kept.view, .int .i64 R2.kept.normal, .bool R2.kept.calm, .slice alq R2.kept.log.length clq, .int .i64 R2.kept.commit, .slice ahq R2.hav.length chq, .slice awq R2.wants.length cwq, .slice agq R2.gives.length cgq, .slice anq R2.given.length cnq]) R2) := hr4
      have HME : Hid (MsgsNew wE w.heap.size (.slice asl LW.length csl) LW) := hm4
      clear hr4 hm4 hb4
      go_wp2_with fail
      refine wpEarly_next (Below.far HVD.out.2.2.2 HDE.out) fun m4 => ?_
      refine wpEarly_nil ?_
      refine wpPlan_free (by kernel_rfl) ?_
      apply Exists.intro
      refine ⟨?_, ?_⟩
      · intro V hV
        simp only [sel, ↓reduceIte, Nat.reduceEqDiff]
        repeat (go_big_quiet_step (fail))
        refine wpQuiet_nil ?_
        rfl
      intro n6
      obtain ⟨wF, hwF⟩ : ∃ wF, wF = ((wE.drewN m4).drewN n6) := ⟨_, rfl⟩
      have HDF : Hid (Below wD.heap.size wD wF) := by rw [hwF]; exact (below_drewN _ (below_drewN _ (HDE.out)))
      have hbF : Below wE.heap.size wE wF := by rw [hwF]; exact (below_drewN _ (below_drewN _ (Below.refl _ _)))
      rw [← hwF]
      clear hwF
      have HRF : Hid (ReplNew wF w.heap.size (.agg #[.int .i64 R2.me, .int .i64 R2.kept.view, .int .i64 R2.kept.normal, .bool R2.kept.calm, .slice alq R2.kept.log.length clq, .int .i64 R2.kept.commit, .slice ahq R2.hav.length chq, .slice awq R2.wants.length cwq, .slice agq R2.gives.length cgq, .slice anq R2.given.length cnq]) R2) := HRE.out.below hbF
      have HMF : Hid (MsgsNew wF w.heap.size (.slice asl LW.length csl) LW) := msgs_below HME.out hbF
      have HV9 : Hid (V8 w E ab bb (.slice ea E.length ec) R2 R1 LW (.slice asl LW.length csl) (.int .i64 0) (setAll wF ab 0 [.int .i64 R2.me, .int .i64 R2.kept.view, .int .i64 R2.kept.normal, .bool R2.kept.calm, .slice alq R2.kept.log.length clq, .int .i64 R2.kept.commit, .slice ahq R2.hav.length chq, .slice awq R2.wants.length cwq, .slice agq R2.gives.length cgq, .slice anq R2.given.length cnq])) := v8_set HVD.out HDF.out HAB.out HAL.out.1 HRF.out HMF.out
      refine wpPlan_line ?_
      simp only [sel, ↓reduceIte, Nat.reduceEqDiff]
      refine wpEarly_cons ?_
      have h6 := BXA.out.below HDF.out BXA.out.lt
      have y0 := h6.cell 0 _ rfl
      have y1 := h6.cell 1 _ rfl
      have y2 := h6.cell 2 _ rfl
      have y3 := h6.cell 3 _ rfl
      have y4 := h6.cell 4 _ rfl
      have y5 := h6.cell 5 _ rfl
      have y6 := h6.cell 6 _ rfl
      have y7 := h6.cell 7 _ rfl
      have y8 := h6.cell 8 _ rfl
      have y9 := h6.cell 9 _ rfl
      have f0 := h6.frozen 0
      have f1 := h6.frozen 1
      have f2 := h6.frozen 2
      have f3 := h6.frozen 3
      have f4 := h6.frozen 4
      have f5 := h6.frozen 5
      have f6 := h6.frozen 6
      have f7 := h6.frozen 7
      have f8 := h6.frozen 8
      have f9 := h6.frozen 9
      obtain ⟨wG, hwG⟩ : ∃ wG, wG = setAll wF ab 0 [.int .i64 R2.me, .int .i64 R2.kept.view, .int .i64 R2.kept.normal, .bool R2.kept.calm, .slice alq R2.kept.log.length clq, .int .i64 R2.kept.commit, .slice ahq R2.hav.length chq, .slice awq R2.wants.length cwq, .slice agq R2.gives.length cgq, .slice anq R2.given.length cnq] := ⟨_, rfl⟩
      rw [← hwG] at HV9
      have HBG : Hid (Below w.heap.size w wG) := by obtain ⟨_, _, _, _, q, _⟩ := HV9.out; exact q.2.2.2
      simp only [setAll] at hwG
      go_wp2_with fail
      rw [← hwG]
      clear hwG y0 y1 y2 y3 y4 y5 y6 y7 y8 y9 f0 f1 f2 f3 f4 f5 f6 f7 f8 f9 h6
      refine wpEarly_next HBG.out fun m7 => ?_
      refine wpEarly_cons ?_
      go_wp2_with fail
      refine wpEarly_next (below_drewN _ HBG.out) fun m8 => ?_
      refine wpEarly_nil ?_
      refine wpPlan_done ?_
      simp only [sel, ↓reduceIte, Nat.reduceEqDiff]
      obtain ⟨wH, hwH⟩ : ∃ wH, wH = ((wG.drewN m7).drewN m8) := ⟨_, rfl⟩
      have HBH : Hid (Below w.heap.size w wH) := by rw [hwH]; exact (below_drewN _ (below_drewN _ (HBG.out)))
      have hbH : Below wG.heap.size wG wH := by rw [hwH]; exact (below_drewN _ (below_drewN _ (Below.refl _ _)))
      rw [← hwH]
      clear hwH
      go_wp2_with fail
      go_meet
      exact HV9.out.below hbH
    · simp only [sel, ↓reduceIte, Nat.reduceEqDiff]
      refine wpEarly_cons ?_
      go_wp2_with fail
      refine wpEarly_next (Below.far HVD.out.2.2.2 HDwq0.out) fun mq5 => ?_
      refine wpEarly_nil ?_
      obtain ⟨wq5, hwq5⟩ : ∃ wq5, wq5 = (wq0.drewN mq5) := ⟨_, rfl⟩
      have HDwq5 : Hid (Below wD.heap.size wD wq5) := by rw [hwq5]; exact (below_drewN _ (HDwq0.out))
      have hbq5 : Below wq0.heap.size wq0 wq5 := by rw [hwq5]; exact (below_drewN _ (Below.refl _ _))
      rw [← hwq5]
      clear hwq5
      refine wpPlan_fork ?_ ?_
      · simp only [sel, ↓reduceIte, Nat.reduceEqDiff]
        refine wpEarly_cons ?_
        have bx := BXA.out.below HDwq5.out BXA.out.lt
        have x0 := bx.cell 0 _ rfl
        have x1 := bx.cell 1 _ rfl
        have x2 := bx.cell 2 _ rfl
        have x3 := bx.cell 3 _ rfl
        have x4 := bx.cell 4 _ rfl
        have x5 := bx.cell 5 _ rfl
        have x6 := bx.cell 6 _ rfl
        have x7 := bx.cell 7 _ rfl
        have x8 := bx.cell 8 _ rfl
        have x9 := bx.cell 9 _ rfl
        go_wp2_with fail
        clear bx x0 x1 x2 x3 x4 x5 x6 x7 x8 x9
        refine wpEarly_next (Below.far HVD.out.2.2.2 HDwq5.out) fun mq6 => ?_
        refine wpEarly_nil ?_
        obtain ⟨wq6, hwq6⟩ : ∃ wq6, wq6 = (wq5.drewN mq6) := ⟨_, rfl⟩
        have HDwq6 : Hid (Below wD.heap.size wD wq6) := by rw [hwq6]; exact (below_drewN _ (HDwq5.out))
        have hbq6 : Below wq5.heap.size wq5 wq6 := by rw [hwq6]; exact (below_drewN _ (Below.refl _ _))
        rw [← hwq6]
        clear hwq6
        refine wpPlan_line ?_
        simp only [sel, ↓reduceIte, Nat.reduceEqDiff]
        refine wpEarly_cons ?_
        go_wp2_with fail
        refine wpEarly_next (Below.far HVD.out.2.2.2 HDwq6.out) fun mq7 => ?_
        refine wpEarly_nil ?_
        obtain ⟨wq7, hwq7⟩ : ∃ wq7, wq7 = (wq6.drewN mq7) := ⟨_, rfl⟩
        have HDwq7 : Hid (Below wD.heap.size wD wq7) := by rw [hwq7]; exact (below_drewN _ (HDwq6.out))
        have hbq7 : Below wq6.heap.size wq6 wq7 := by rw [hwq7]; exact (below_drewN _ (Below.refl _ _))
        rw [← hwq7]
        clear hwq7
        refine wpPlan_line ?_
        simp only [sel, ↓reduceIte, Nat.reduceEqDiff]
        refine wpEarly_cons ?_
        have t0 := HMC1.out wq7 HDwq7.out 0 _ rfl
        have t1 := HMC1.out wq7 HDwq7.out 1 _ rfl
        have t2 := HMC1.out wq7 HDwq7.out 2 _ rfl
        have t3 := HMC1.out wq7 HDwq7.out 3 _ rfl
        have t4 := HMC1.out wq7 HDwq7.out 4 _ rfl
        have t5 := HMC1.out wq7 HDwq7.out 5 _ rfl
        have t6 := HMC1.out wq7 HDwq7.out 6 _ rfl
        have t7 := HMC1.out wq7 HDwq7.out 7 _ rfl
        simp only [Nat.one_mul, Nat.reduceAdd, Nat.add_zero] at t0 t1 t2 t3 t4 t5 t6 t7
        go_wp2_with fail
        clear t0 t1 t2 t3 t4 t5 t6 t7
        refine wpEarly_next (Below.far HVD.out.2.2.2 HDwq7.out) fun mq8 => ?_
        refine wpEarly_nil ?_
        obtain ⟨wq8, hwq8⟩ : ∃ wq8, wq8 = (wq7.drewN mq8) := ⟨_, rfl⟩
        have HDwq8 : Hid (Below wD.heap.size wD wq8) := by rw [hwq8]; exact (below_drewN _ (HDwq7.out))
        have hbq8 : Below wq7.heap.size wq7 wq8 := by rw [hwq8]; exact (below_drewN _ (Below.refl _ _))
        rw [← hwq8]
        clear hwq8
        refine wpPlan_line ?_
        simp only [sel, ↓reduceIte, Nat.reduceEqDiff]
        refine wpEarly_cons ?_
        go_wp2_with fail
        refine (HHC.out wq8 HDwq8.out).mono ?_
        rintro e wE ⟨u', rfl, alq, clq, ahq, chq, awq, cwq, agq, cgq, anq, cnq, asl, csl, rfl, hr4, hm4, hb4⟩
        have HDE : Hid (Below wD.heap.size wD wE) := Below.far HDwq8.out hb4
        have HRE : Hid (ReplNew wE w.heap.size (.agg #[.int .i64 R2.me, .int .i64 R2.kept.view, .int .i64 R2.kept.normal, .bool R2.kept.calm, .slice alq R2.kept.log.length clq, .int .i64 R2.kept.commit, .slice ahq R2.hav.length chq, .slice awq R2.wants.length cwq, .slice agq R2.gives.length cgq, .slice anq R2.given.length cnq]) R2) := hr4
        have HME : Hid (MsgsNew wE w.heap.size (.slice asl LW.length csl) LW) := hm4
        clear hr4 hm4 hb4
        go_wp2_with fail
        refine wpEarly_next (Below.far HVD.out.2.2.2 HDE.out) fun m4 => ?_
        refine wpEarly_nil ?_
        refine wpPlan_free (by kernel_rfl) ?_
        apply Exists.intro
        refine ⟨?_, ?_⟩
        · intro V hV
          simp only [sel, ↓reduceIte, Nat.reduceEqDiff]
          repeat (go_big_quiet_step (fail))
          refine wpQuiet_nil ?_
          rfl
        intro n6
        obtain ⟨wF, hwF⟩ : ∃ wF, wF = ((wE.drewN m4).drewN n6) := ⟨_, rfl⟩
        have HDF : Hid (Below wD.heap.size wD wF) := by rw [hwF]; exact (below_drewN _ (below_drewN _ (HDE.out)))
        have hbF : Below wE.heap.size wE wF := by rw [hwF]; exact (below_drewN _ (below_drewN _ (Below.refl _ _)))
        rw [← hwF]
        clear hwF
        have HRF : Hid (ReplNew wF w.heap.size (.agg #[.int .i64 R2.me, .int .i64 R2.kept.view, .int .i64 R2.kept.normal, .bool R2.kept.calm, .slice alq R2.kept.log.length clq, .int .i64 R2.kept.commit, .slice ahq R2.hav.length chq, .slice awq R2.wants.length cwq, .slice agq R2.gives.length cgq, .slice anq R2.given.length cnq]) R2) := HRE.out.below hbF
        have HMF : Hid (MsgsNew wF w.heap.size (.slice asl LW.length csl) LW) := msgs_below HME.out hbF
        have HV9 : Hid (V8 w E ab bb (.slice ea E.length ec) R2 R1 LW (.slice asl LW.length csl) (.int .i64 0) (setAll wF ab 0 [.int .i64 R2.me, .int .i64 R2.kept.view, .int .i64 R2.kept.normal, .bool R2.kept.calm, .slice alq R2.kept.log.length clq, .int .i64 R2.kept.commit, .slice ahq R2.hav.length chq, .slice awq R2.wants.length cwq, .slice agq R2.gives.length cgq, .slice anq R2.given.length cnq])) := v8_set HVD.out HDF.out HAB.out HAL.out.1 HRF.out HMF.out
        refine wpPlan_line ?_
        simp only [sel, ↓reduceIte, Nat.reduceEqDiff]
        refine wpEarly_cons ?_
        have h6 := BXA.out.below HDF.out BXA.out.lt
        have y0 := h6.cell 0 _ rfl
        have y1 := h6.cell 1 _ rfl
        have y2 := h6.cell 2 _ rfl
        have y3 := h6.cell 3 _ rfl
        have y4 := h6.cell 4 _ rfl
        have y5 := h6.cell 5 _ rfl
        have y6 := h6.cell 6 _ rfl
        have y7 := h6.cell 7 _ rfl
        have y8 := h6.cell 8 _ rfl
        have y9 := h6.cell 9 _ rfl
        have f0 := h6.frozen 0
        have f1 := h6.frozen 1
        have f2 := h6.frozen 2
        have f3 := h6.frozen 3
        have f4 := h6.frozen 4
        have f5 := h6.frozen 5
        have f6 := h6.frozen 6
        have f7 := h6.frozen 7
        have f8 := h6.frozen 8
        have f9 := h6.frozen 9
        obtain ⟨wG, hwG⟩ : ∃ wG, wG = setAll wF ab 0 [.int .i64 R2.me, .int .i64 R2.kept.view, .int .i64 R2.kept.normal, .bool R2.kept.calm, .slice alq R2.kept.log.length clq, .int .i64 R2.kept.commit, .slice ahq R2.hav.length chq, .slice awq R2.wants.length cwq, .slice agq R2.gives.length cgq, .slice anq R2.given.length cnq] := ⟨_, rfl⟩
        rw [← hwG] at HV9
        have HBG : Hid (Below w.heap.size w wG) := by obtain ⟨_, _, _, _, q, _⟩ := HV9.out; exact q.2.2.2
        simp only [setAll] at hwG
        go_wp2_with fail
        rw [← hwG]
        clear hwG y0 y1 y2 y3 y4 y5 y6 y7 y8 y9 f0 f1 f2 f3 f4 f5 f6 f7 f8 f9 h6
        refine wpEarly_next HBG.out fun m7 => ?_
        refine wpEarly_cons ?_
        go_wp2_with fail
        refine wpEarly_next (below_drewN _ HBG.out) fun m8 => ?_
        refine wpEarly_nil ?_
        refine wpPlan_done ?_
        simp only [sel, ↓reduceIte, Nat.reduceEqDiff]
        obtain ⟨wH, hwH⟩ : ∃ wH, wH = ((wG.drewN m7).drewN m8) := ⟨_, rfl⟩
        have HBH : Hid (Below w.heap.size w wH) := by rw [hwH]; exact (below_drewN _ (below_drewN _ (HBG.out)))
        have hbH : Below wG.heap.size wG wH := by rw [hwH]; exact (below_drewN _ (below_drewN _ (Below.refl _ _)))
        rw [← hwH]
        clear hwH
        go_wp2_with fail
        go_meet
        exact HV9.out.below hbH
      · simp only [sel, ↓reduceIte, Nat.reduceEqDiff]
        refine wpEarly_cons ?_
        go_wp2_with fail
        refine wpEarly_next (Below.far HVD.out.2.2.2 HDwq5.out) fun mq9 => ?_
        refine wpEarly_nil ?_
        obtain ⟨wq9, hwq9⟩ : ∃ wq9, wq9 = (wq5.drewN mq9) := ⟨_, rfl⟩
        have HDwq9 : Hid (Below wD.heap.size wD wq9) := by rw [hwq9]; exact (below_drewN _ (HDwq5.out))
        have hbq9 : Below wq5.heap.size wq5 wq9 := by rw [hwq9]; exact (below_drewN _ (Below.refl _ _))
        rw [← hwq9]
        clear hwq9
        refine wpPlan_fork ?_ ?_
        · simp only [sel, ↓reduceIte, Nat.reduceEqDiff]
          refine wpEarly_cons ?_
          have bx := BXA.out.below HDwq9.out BXA.out.lt
          have x0 := bx.cell 0 _ rfl
          have x1 := bx.cell 1 _ rfl
          have x2 := bx.cell 2 _ rfl
          have x3 := bx.cell 3 _ rfl
          have x4 := bx.cell 4 _ rfl
          have x5 := bx.cell 5 _ rfl
          have x6 := bx.cell 6 _ rfl
          have x7 := bx.cell 7 _ rfl
          have x8 := bx.cell 8 _ rfl
          have x9 := bx.cell 9 _ rfl
          go_wp2_with fail
          clear bx x0 x1 x2 x3 x4 x5 x6 x7 x8 x9
          refine wpEarly_next (Below.far HVD.out.2.2.2 HDwq9.out) fun mq10 => ?_
          refine wpEarly_nil ?_
          obtain ⟨wq10, hwq10⟩ : ∃ wq10, wq10 = (wq9.drewN mq10) := ⟨_, rfl⟩
          have HDwq10 : Hid (Below wD.heap.size wD wq10) := by rw [hwq10]; exact (below_drewN _ (HDwq9.out))
          have hbq10 : Below wq9.heap.size wq9 wq10 := by rw [hwq10]; exact (below_drewN _ (Below.refl _ _))
          rw [← hwq10]
          clear hwq10
          refine wpPlan_line ?_
          simp only [sel, ↓reduceIte, Nat.reduceEqDiff]
          refine wpEarly_cons ?_
          have t0 := HMC1.out wq10 HDwq10.out 0 _ rfl
          have t1 := HMC1.out wq10 HDwq10.out 1 _ rfl
          have t2 := HMC1.out wq10 HDwq10.out 2 _ rfl
          have t3 := HMC1.out wq10 HDwq10.out 3 _ rfl
          have t4 := HMC1.out wq10 HDwq10.out 4 _ rfl
          have t5 := HMC1.out wq10 HDwq10.out 5 _ rfl
          have t6 := HMC1.out wq10 HDwq10.out 6 _ rfl
          have t7 := HMC1.out wq10 HDwq10.out 7 _ rfl
          simp only [Nat.one_mul, Nat.reduceAdd, Nat.add_zero] at t0 t1 t2 t3 t4 t5 t6 t7
          go_wp2_with fail
          clear t0 t1 t2 t3 t4 t5 t6 t7
          refine wpEarly_next (Below.far HVD.out.2.2.2 HDwq10.out) fun mq11 => ?_
          refine wpEarly_nil ?_
          obtain ⟨wq11, hwq11⟩ : ∃ wq11, wq11 = (wq10.drewN mq11) := ⟨_, rfl⟩
          have HDwq11 : Hid (Below wD.heap.size wD wq11) := by rw [hwq11]; exact (below_drewN _ (HDwq10.out))
          have hbq11 : Below wq10.heap.size wq10 wq11 := by rw [hwq11]; exact (below_drewN _ (Below.refl _ _))
          rw [← hwq11]
          clear hwq11
          refine wpPlan_line ?_
          simp only [sel, ↓reduceIte, Nat.reduceEqDiff]
          refine wpEarly_cons ?_
          go_wp2_with fail
          refine (HHC.out wq11 HDwq11.out).mono ?_
          rintro e wE ⟨u', rfl, alq, clq, ahq, chq, awq, cwq, agq, cgq, anq, cnq, asl, csl, rfl, hr4, hm4, hb4⟩
          have HDE : Hid (Below wD.heap.size wD wE) := Below.far HDwq11.out hb4
          have HRE : Hid (ReplNew wE w.heap.size (.agg #[.int .i64 R2.me, .int .i64 R2.kept.view, .int .i64 R2.kept.normal, .bool R2.kept.calm, .slice alq R2.kept.log.length clq, .int .i64 R2.kept.commit, .slice ahq R2.hav.length chq, .slice awq R2.wants.length cwq, .slice agq R2.gives.length cgq, .slice anq R2.given.length cnq]) R2) := hr4
          have HME : Hid (MsgsNew wE w.heap.size (.slice asl LW.length csl) LW) := hm4
          clear hr4 hm4 hb4
          go_wp2_with fail
          refine wpEarly_next (Below.far HVD.out.2.2.2 HDE.out) fun m4 => ?_
          refine wpEarly_nil ?_
          refine wpPlan_free (by kernel_rfl) ?_
          apply Exists.intro
          refine ⟨?_, ?_⟩
          · intro V hV
            simp only [sel, ↓reduceIte, Nat.reduceEqDiff]
            repeat (go_big_quiet_step (fail))
            refine wpQuiet_nil ?_
            rfl
          intro n6
          obtain ⟨wF, hwF⟩ : ∃ wF, wF = ((wE.drewN m4).drewN n6) := ⟨_, rfl⟩
          have HDF : Hid (Below wD.heap.size wD wF) := by rw [hwF]; exact (below_drewN _ (below_drewN _ (HDE.out)))
          have hbF : Below wE.heap.size wE wF := by rw [hwF]; exact (below_drewN _ (below_drewN _ (Below.refl _ _)))
          rw [← hwF]
          clear hwF
          have HRF : Hid (ReplNew wF w.heap.size (.agg #[.int .i64 R2.me, .int .i64 R2.kept.view, .int .i64 R2.kept.normal, .bool R2.kept.calm, .slice alq R2.kept.log.length clq, .int .i64 R2.kept.commit, .slice ahq R2.hav.length chq, .slice awq R2.wants.length cwq, .slice agq R2.gives.length cgq, .slice anq R2.given.length cnq]) R2) := HRE.out.below hbF
          have HMF : Hid (MsgsNew wF w.heap.size (.slice asl LW.length csl) LW) := msgs_below HME.out hbF
          have HV9 : Hid (V8 w E ab bb (.slice ea E.length ec) R2 R1 LW (.slice asl LW.length csl) (.int .i64 0) (setAll wF ab 0 [.int .i64 R2.me, .int .i64 R2.kept.view, .int .i64 R2.kept.normal, .bool R2.kept.calm, .slice alq R2.kept.log.length clq, .int .i64 R2.kept.commit, .slice ahq R2.hav.length chq, .slice awq R2.wants.length cwq, .slice agq R2.gives.length cgq, .slice anq R2.given.length cnq])) := v8_set HVD.out HDF.out HAB.out HAL.out.1 HRF.out HMF.out
          refine wpPlan_line ?_
          simp only [sel, ↓reduceIte, Nat.reduceEqDiff]
          refine wpEarly_cons ?_
          have h6 := BXA.out.below HDF.out BXA.out.lt
          have y0 := h6.cell 0 _ rfl
          have y1 := h6.cell 1 _ rfl
          have y2 := h6.cell 2 _ rfl
          have y3 := h6.cell 3 _ rfl
          have y4 := h6.cell 4 _ rfl
          have y5 := h6.cell 5 _ rfl
          have y6 := h6.cell 6 _ rfl
          have y7 := h6.cell 7 _ rfl
          have y8 := h6.cell 8 _ rfl
          have y9 := h6.cell 9 _ rfl
          have f0 := h6.frozen 0
          have f1 := h6.frozen 1
          have f2 := h6.frozen 2
          have f3 := h6.frozen 3
          have f4 := h6.frozen 4
          have f5 := h6.frozen 5
          have f6 := h6.frozen 6
          have f7 := h6.frozen 7
          have f8 := h6.frozen 8
          have f9 := h6.frozen 9
          obtain ⟨wG, hwG⟩ : ∃ wG, wG = setAll wF ab 0 [.int .i64 R2.me, .int .i64 R2.kept.view, .int .i64 R2.kept.normal, .bool R2.kept.calm, .slice alq R2.kept.log.length clq, .int .i64 R2.kept.commit, .slice ahq R2.hav.length chq, .slice awq R2.wants.length cwq, .slice agq R2.gives.length cgq, .slice anq R2.given.length cnq] := ⟨_, rfl⟩
          rw [← hwG] at HV9
          have HBG : Hid (Below w.heap.size w wG) := by obtain ⟨_, _, _, _, q, _⟩ := HV9.out; exact q.2.2.2
          simp only [setAll] at hwG
          go_wp2_with fail
          rw [← hwG]
          clear hwG y0 y1 y2 y3 y4 y5 y6 y7 y8 y9 f0 f1 f2 f3 f4 f5 f6 f7 f8 f9 h6
          refine wpEarly_next HBG.out fun m7 => ?_
          refine wpEarly_cons ?_
          go_wp2_with fail
          refine wpEarly_next (below_drewN _ HBG.out) fun m8 => ?_
          refine wpEarly_nil ?_
          refine wpPlan_done ?_
          simp only [sel, ↓reduceIte, Nat.reduceEqDiff]
          obtain ⟨wH, hwH⟩ : ∃ wH, wH = ((wG.drewN m7).drewN m8) := ⟨_, rfl⟩
          have HBH : Hid (Below w.heap.size w wH) := by rw [hwH]; exact (below_drewN _ (below_drewN _ (HBG.out)))
          have hbH : Below wG.heap.size wG wH := by rw [hwH]; exact (below_drewN _ (below_drewN _ (Below.refl _ _)))
          rw [← hwH]
          clear hwH
          go_wp2_with fail
          go_meet
          exact HV9.out.below hbH
        · simp only [sel, ↓reduceIte, Nat.reduceEqDiff]
          refine wpEarly_cons ?_
          have t0 := HMC1.out wq9 HDwq9.out 0 _ rfl
          have t1 := HMC1.out wq9 HDwq9.out 1 _ rfl
          have t2 := HMC1.out wq9 HDwq9.out 2 _ rfl
          have t3 := HMC1.out wq9 HDwq9.out 3 _ rfl
          have t4 := HMC1.out wq9 HDwq9.out 4 _ rfl
          have t5 := HMC1.out wq9 HDwq9.out 5 _ rfl
          have t6 := HMC1.out wq9 HDwq9.out 6 _ rfl
          have t7 := HMC1.out wq9 HDwq9.out 7 _ rfl
          simp only [Nat.one_mul, Nat.reduceAdd, Nat.add_zero] at t0 t1 t2 t3 t4 t5 t6 t7
          go_wp2_with fail
          clear t0 t1 t2 t3 t4 t5 t6 t7
          refine wpEarly_next (Below.far HVD.out.2.2.2 HDwq9.out) fun mq12 => ?_
          refine wpEarly_nil ?_
          obtain ⟨wq12, hwq12⟩ : ∃ wq12, wq12 = (wq9.drewN mq12) := ⟨_, rfl⟩
          have HDwq12 : Hid (Below wD.heap.size wD wq12) := by rw [hwq12]; exact (below_drewN _ (HDwq9.out))
          have hbq12 : Below wq9.heap.size wq9 wq12 := by rw [hwq12]; exact (below_drewN _ (Below.refl _ _))
          rw [← hwq12]
          clear hwq12
          refine wpPlan_line ?_
          simp only [sel, ↓reduceIte, Nat.reduceEqDiff]
          refine wpEarly_cons ?_
          have bx := BXA.out.below HDwq12.out BXA.out.lt
          have x0 := bx.cell 0 _ rfl
          have x1 := bx.cell 1 _ rfl
          have x2 := bx.cell 2 _ rfl
          have x3 := bx.cell 3 _ rfl
          have x4 := bx.cell 4 _ rfl
          have x5 := bx.cell 5 _ rfl
          have x6 := bx.cell 6 _ rfl
          have x7 := bx.cell 7 _ rfl
          have x8 := bx.cell 8 _ rfl
          have x9 := bx.cell 9 _ rfl
          go_wp2_with fail
          clear bx x0 x1 x2 x3 x4 x5 x6 x7 x8 x9
          refine wpEarly_next (Below.far HVD.out.2.2.2 HDwq12.out) fun mq13 => ?_
          refine wpEarly_nil ?_
          obtain ⟨wq13, hwq13⟩ : ∃ wq13, wq13 = (wq12.drewN mq13) := ⟨_, rfl⟩
          have HDwq13 : Hid (Below wD.heap.size wD wq13) := by rw [hwq13]; exact (below_drewN _ (HDwq12.out))
          have hbq13 : Below wq12.heap.size wq12 wq13 := by rw [hwq13]; exact (below_drewN _ (Below.refl _ _))
          rw [← hwq13]
          clear hwq13
          refine wpPlan_line ?_
          simp only [sel, ↓reduceIte, Nat.reduceEqDiff]
          refine wpEarly_cons ?_
          go_wp2_with fail
          refine (HHC.out wq13 HDwq13.out).mono ?_
          rintro e wE ⟨u', rfl, alq, clq, ahq, chq, awq, cwq, agq, cgq, anq, cnq, asl, csl, rfl, hr4, hm4, hb4⟩
          have HDE : Hid (Below wD.heap.size wD wE) := Below.far HDwq13.out hb4
          have HRE : Hid (ReplNew wE w.heap.size (.agg #[.int .i64 R2.me, .int .i64 R2.kept.view, .int .i64 R2.kept.normal, .bool R2.kept.calm, .slice alq R2.kept.log.length clq, .int .i64 R2.kept.commit, .slice ahq R2.hav.length chq, .slice awq R2.wants.length cwq, .slice agq R2.gives.length cgq, .slice anq R2.given.length cnq]) R2) := hr4
          have HME : Hid (MsgsNew wE w.heap.size (.slice asl LW.length csl) LW) := hm4
          clear hr4 hm4 hb4
          go_wp2_with fail
          refine wpEarly_next (Below.far HVD.out.2.2.2 HDE.out) fun m4 => ?_
          refine wpEarly_nil ?_
          refine wpPlan_free (by kernel_rfl) ?_
          apply Exists.intro
          refine ⟨?_, ?_⟩
          · intro V hV
            simp only [sel, ↓reduceIte, Nat.reduceEqDiff]
            repeat (go_big_quiet_step (fail))
            refine wpQuiet_nil ?_
            rfl
          intro n6
          obtain ⟨wF, hwF⟩ : ∃ wF, wF = ((wE.drewN m4).drewN n6) := ⟨_, rfl⟩
          have HDF : Hid (Below wD.heap.size wD wF) := by rw [hwF]; exact (below_drewN _ (below_drewN _ (HDE.out)))
          have hbF : Below wE.heap.size wE wF := by rw [hwF]; exact (below_drewN _ (below_drewN _ (Below.refl _ _)))
          rw [← hwF]
          clear hwF
          have HRF : Hid (ReplNew wF w.heap.size (.agg #[.int .i64 R2.me, .int .i64 R2.kept.view, .int .i64 R2.kept.normal, .bool R2.kept.calm, .slice alq R2.kept.log.length clq, .int .i64 R2.kept.commit, .slice ahq R2.hav.length chq, .slice awq R2.wants.length cwq, .slice agq R2.gives.length cgq, .slice anq R2.given.length cnq]) R2) := HRE.out.below hbF
          have HMF : Hid (MsgsNew wF w.heap.size (.slice asl LW.length csl) LW) := msgs_below HME.out hbF
          have HV9 : Hid (V8 w E ab bb (.slice ea E.length ec) R2 R1 LW (.slice asl LW.length csl) (.int .i64 0) (setAll wF ab 0 [.int .i64 R2.me, .int .i64 R2.kept.view, .int .i64 R2.kept.normal, .bool R2.kept.calm, .slice alq R2.kept.log.length clq, .int .i64 R2.kept.commit, .slice ahq R2.hav.length chq, .slice awq R2.wants.length cwq, .slice agq R2.gives.length cgq, .slice anq R2.given.length cnq])) := v8_set HVD.out HDF.out HAB.out HAL.out.1 HRF.out HMF.out
          refine wpPlan_line ?_
          simp only [sel, ↓reduceIte, Nat.reduceEqDiff]
          refine wpEarly_cons ?_
          have h6 := BXA.out.below HDF.out BXA.out.lt
          have y0 := h6.cell 0 _ rfl
          have y1 := h6.cell 1 _ rfl
          have y2 := h6.cell 2 _ rfl
          have y3 := h6.cell 3 _ rfl
          have y4 := h6.cell 4 _ rfl
          have y5 := h6.cell 5 _ rfl
          have y6 := h6.cell 6 _ rfl
          have y7 := h6.cell 7 _ rfl
          have y8 := h6.cell 8 _ rfl
          have y9 := h6.cell 9 _ rfl
          have f0 := h6.frozen 0
          have f1 := h6.frozen 1
          have f2 := h6.frozen 2
          have f3 := h6.frozen 3
          have f4 := h6.frozen 4
          have f5 := h6.frozen 5
          have f6 := h6.frozen 6
          have f7 := h6.frozen 7
          have f8 := h6.frozen 8
          have f9 := h6.frozen 9
          obtain ⟨wG, hwG⟩ : ∃ wG, wG = setAll wF ab 0 [.int .i64 R2.me, .int .i64 R2.kept.view, .int .i64 R2.kept.normal, .bool R2.kept.calm, .slice alq R2.kept.log.length clq, .int .i64 R2.kept.commit, .slice ahq R2.hav.length chq, .slice awq R2.wants.length cwq, .slice agq R2.gives.length cgq, .slice anq R2.given.length cnq] := ⟨_, rfl⟩
          rw [← hwG] at HV9
          have HBG : Hid (Below w.heap.size w wG) := by obtain ⟨_, _, _, _, q, _⟩ := HV9.out; exact q.2.2.2
          simp only [setAll] at hwG
          go_wp2_with fail
          rw [← hwG]
          clear hwG y0 y1 y2 y3 y4 y5 y6 y7 y8 y9 f0 f1 f2 f3 f4 f5 f6 f7 f8 f9 h6
          refine wpEarly_next HBG.out fun m7 => ?_
          refine wpEarly_cons ?_
          go_wp2_with fail
          refine wpEarly_next (below_drewN _ HBG.out) fun m8 => ?_
          refine wpEarly_nil ?_
          refine wpPlan_done ?_
          simp only [sel, ↓reduceIte, Nat.reduceEqDiff]
          obtain ⟨wH, hwH⟩ : ∃ wH, wH = ((wG.drewN m7).drewN m8) := ⟨_, rfl⟩
          have HBH : Hid (Below w.heap.size w wH) := by rw [hwH]; exact (below_drewN _ (below_drewN _ (HBG.out)))
          have hbH : Below wG.heap.size wG wH := by rw [hwH]; exact (below_drewN _ (below_drewN _ (Below.refl _ _)))
          rw [← hwH]
          clear hwH
          go_wp2_with fail
          go_meet
          exact HV9.out.below hbH
  case rest =>
    obtain ⟨ob, obc, rfl, rfl, hv8, hm8⟩ := hcut
    rw [HLW.out.2] at hm8 ⊢
    have HV8 : Hid (VInv w E ab bb (.slice ea E.length ec) R2 R1 wc) := hv8
    have HM8 : Hid (MsgsNew wc w.heap.size (.slice ob 2 obc) LW) := hm8
    clear hv8 hm8 HHC
    have hcalm : R2.kept.calm = false := by rw [← HR2.out]; rfl
    obtain ⟨ala2, cla2, aha2, cha2, awa2, cwa2, aga2, cga2, ana2, cna2, bx2, hr2⟩ := HV8.out.1
    have x3 := bx2.cell 3 _ rfl
    rw [hcalm] at x3
    clear bx2 hr2 hcalm
    go_upto_region 11 with fail
    clear x3
    have HIX : Hid (Calls Tryd.prog 10 #[.slice ob 2 obc, .func (.func 14) #[] #[]] wc fun e w' => e = .returned (.int .i64 1) ∧ Below wc.heap.size wc w') := by
      obtain ⟨ps, hps, hown⟩ := HM8.out
      have hlen := congrArg List.length hps
      rw [HLW.out.2, List.length_map] at hlen
      have q := idxWant_any w.heap.size _ ps wc hown (fun p hp => by
        have hm : p.1 ∈ LW := by rw [hps]; exact List.mem_map.2 ⟨p, hp, rfl⟩
        rw [← HLW.out.1] at hm
        simp only [List.mem_cons, List.not_mem_nil, or_false] at hm
        rcases hm with e | e <;> rw [e] <;> exact ⟨by simp [wantM], fun s hs => by simp [wantM] at hs⟩) (by omega)
      rw [← hps, ← HLW.out.1] at q
      exact q
    go_wp2_with fail
    refine HIX.out.mono ?_
    rintro e wd ⟨rfl, hbd⟩
    have HVd : Hid (VInv w E ab bb (.slice ea E.length ec) R2 R1 wd) := HV8.out.below hbd
    have HMd : Hid (MsgsNew wd w.heap.size (.slice ob 2 obc) LW) := msgs_below HM8.out hbd
    clear hbd HIX
    go_upto_region 14 with fail
    obtain ⟨M2, hM2⟩ : ∃ M2, wantM 1 2 = M2 := ⟨_, rfl⟩
    have hMt : TextsIn M2.log := by rw [← hM2]; exact ⟨by simp [wantM], fun s hs => by simp [wantM] at hs⟩
    obtain ⟨gb, am2, cm2, rfl, hn2, hmc, hma⟩ := msg_read HMd.out 1 (by rw [HLW.out.2]; omega) M2 (by rw [← HLW.out.1, ← hM2]; rfl) hMt
    have hh2 := v_hear2 HE.out.1
    rw [HR1.out, hM2] at hh2
    obtain ⟨LG, hLG⟩ : ∃ LG, [giveM E] = LG := ⟨_, rfl⟩
    rw [hLG] at hh2
    obtain ⟨R3, hR3⟩ : ∃ R3, hearR R1 M2 = R3 := ⟨_, rfl⟩
    have HLG : Hid ([giveM E] = LG ∧ LG.length = 1) := ⟨hLG, by rw [← hLG]; rfl⟩
    have HMA2 : Hid (∀ W, Below wd.heap.size wd W → MsgAt W (.agg #[.int .i64 M2.kind, .int .i64 M2.frm, .int .i64 M2.dst, .int .i64 M2.view, .int .i64 M2.normal, .int .i64 M2.commit, .int .i64 M2.n, .slice am2 M2.log.length cm2]) M2) := hma
    have HMC2 : Hid (∀ W, Below wd.heap.size wd W → ∀ j u, [.int .i64 M2.kind, .int .i64 M2.frm, .int .i64 M2.dst, .int .i64 M2.view, .int .i64 M2.normal, .int .i64 M2.commit, .int .i64 M2.n, .slice am2 M2.log.length cm2][j]? = some u → W.cell? ⟨gb, 1 * 8 + j, none⟩ = some u) := fun W hW j u hj => keep_cell9 hW (hmc j u hj)
    have HTM2 : Hid (TextsIn M2.log) := hMt
    have HFR2 : Hid (ReplFits R1) := may_fits _ HMB1.out.1
    have HEE2 : Hid (hearE R1 M2 = 0) := hh2.1
    have HRR2 : Hid (hearR R1 M2 = R3) := hR3
    have HLL2 : Hid (hearL R1 M2 = LG) := hh2.2
    obtain ⟨alb2, clb2, ahb2, chb2, awb2, cwb2, agb2, cgb2, anb2, cnb2, bx2, hr2⟩ := HVd.out.2.1
    have BXB2 : Hid (Box wd bb 30 [.int .i64 R1.me, .int .i64 R1.kept.view, .int .i64 R1.kept.normal, .bool R1.kept.calm, .slice alb2 R1.kept.log.length clb2, .int .i64 R1.kept.commit, .slice ahb2 R1.hav.length chb2, .slice awb2 R1.wants.length cwb2, .slice agb2 R1.gives.length cgb2, .slice anb2 R1.given.length cnb2]) := bx2
    have HRA2 : Hid (∀ W, Below wd.heap.size wd W → ReplAt W (.agg #[.int .i64 R1.me, .int .i64 R1.kept.view, .int .i64 R1.kept.normal, .bool R1.kept.calm, .slice alb2 R1.kept.log.length clb2, .int .i64 R1.kept.commit, .slice ahb2 R1.hav.length chb2, .slice awb2 R1.wants.length cwb2, .slice agb2 R1.gives.length cgb2, .slice anb2 R1.given.length cnb2]) R1) := fun W hW => (hr2.at HFR2.out).below hW
    clear hM2 hMt hn2 hmc hma hh2 hLG hR3 bx2 hr2
    go_upto_region 14 with fail
    go_cut [16, 17, 18] (fun xp xo xe wx => HeardAt wd R3 LG 0 xp xo xe wx)
    case first =>
      refine wp_region_plan [0, 0, 0, 0, 0, 1, 2, 2, 2, 2, 3, 4, 4, 5] (.free 0 (.fork 3 1 (.line 1 (.free 2 (.line 4 (.done 5)))) (.free 2 (.line 3 (.line 4 (.done 5)))))) (by kernel_rfl) (by kernel_rfl) (fun h => h) (Below wd.heap.size wd) (Below.refl _ _) (fun V n hV => below_drewN n hV) fun n0 => ?_
      refine wpPlan_free (by kernel_rfl) ?_
      apply Exists.intro
      refine ⟨?_, ?_⟩
      · intro V hV
        have bx := BXB2.out.below hV BXB2.out.lt
        have x0 := bx.cell 0 _ rfl
        have x1 := bx.cell 1 _ rfl
        have x2 := bx.cell 2 _ rfl
        have x3 := bx.cell 3 _ rfl
        have x4 := bx.cell 4 _ rfl
        have x5 := bx.cell 5 _ rfl
        have x6 := bx.cell 6 _ rfl
        have x7 := bx.cell 7 _ rfl
        have x8 := bx.cell 8 _ rfl
        have x9 := bx.cell 9 _ rfl
        have t0 := HMC2.out V hV 0 _ rfl
        have t1 := HMC2.out V hV 1 _ rfl
        have t2 := HMC2.out V hV 2 _ rfl
        have t3 := HMC2.out V hV 3 _ rfl
        have t4 := HMC2.out V hV 4 _ rfl
        have t5 := HMC2.out V hV 5 _ rfl
        have t6 := HMC2.out V hV 6 _ rfl
        have t7 := HMC2.out V hV 7 _ rfl
        simp only [Nat.one_mul, Nat.reduceAdd, Nat.add_zero] at t0 t1 t2 t3 t4 t5 t6 t7
        simp only [sel, ↓reduceIte, Nat.reduceEqDiff]
        repeat (go_big_quiet_step (fail))
        refine wpQuiet_nil ?_
        rfl
      intro n1
      obtain ⟨wA, hwA⟩ : ∃ wA, wA = ((wd.drewN n0).drewN n1) := ⟨_, rfl⟩
      have HB9A : Hid (Below wd.heap.size wd wA) := by rw [hwA]; exact (below_drewN _ (below_drewN _ (Below.refl _ _)))
      have hbA : Below wd.heap.size wd wA := by rw [hwA]; exact (below_drewN _ (below_drewN _ (Below.refl _ _)))
      rw [← hwA]
      clear hwA
      refine wpPlan_fork ?_ ?_
      · simp only [sel, ↓reduceIte, Nat.reduceEqDiff]
        refine wpEarly_cons ?_
        go_wp2_with fail
        have b2 := Box.new wA 30 [.int .i64 0, .int .i64 0, .int .i64 0, .bool false, .slice none 0 0, .int .i64 0, .slice none 0 0, .slice none 0 0, .slice none 0 0, .slice none 0 0]
        obtain ⟨wB, hwB⟩ : ∃ wB, wB = wA.alloc (.cells #[.int .i64 0, .int .i64 0, .int .i64 0, .bool false, .slice none 0 0, .int .i64 0, .slice none 0 0, .slice none 0 0, .slice none 0 0, .slice none 0 0] 30) := ⟨_, rfl⟩
        have hbB : Below wA.heap.size wA wB := by rw [hwB]; exact below_alloc _ _
        rw [← hwB] at b2 ⊢
        obtain ⟨lb, hlb⟩ : ∃ lb, wA.heap.size = lb := ⟨_, rfl⟩
        have HLB : Hid (wd.heap.size ≤ lb) := by rw [← hlb]; exact HB9A.out.size
        have HB9B : Hid (Below wd.heap.size wd wB) := Below.far HB9A.out hbB
        rw [hlb] at b2
        try rw [hlb]
        have B9B : Hid (Box wB lb 30 [.int .i64 0, .int .i64 0, .int .i64 0, .bool false, .slice none 0 0, .int .i64 0, .slice none 0 0, .slice none 0 0, .slice none 0 0, .slice none 0 0]) := b2
        clear hwB hbB b2 hlb
        refine wpEarly_next HB9B.out fun m2 => ?_
        refine wpEarly_nil ?_
        obtain ⟨wC, hwC⟩ : ∃ wC, wC = (wB.drewN m2) := ⟨_, rfl⟩
        have HB9C : Hid (Below wd.heap.size wd wC) := by rw [hwC]; exact (below_drewN _ (HB9B.out))
        have hbC : Below wB.heap.size wB wC := by rw [hwC]; exact (below_drewN _ (Below.refl _ _))
        rw [← hwC]
        clear hwC
        have B9C : Hid (Box wC lb 30 [.int .i64 0, .int .i64 0, .int .i64 0, .bool false, .slice none 0 0, .int .i64 0, .slice none 0 0, .slice none 0 0, .slice none 0 0, .slice none 0 0]) := B9B.out.below hbC B9B.out.lt
        refine wpPlan_line ?_
        simp only [sel, ↓reduceIte, Nat.reduceEqDiff]
        refine wpEarly_cons ?_
        go_wp2_with fail
        refine (hearGo_any R1 M2 _ _ wC (HRA2.out _ HB9C.out) HFR2.out (HMA2.out _ HB9C.out) HTM2.out).mono ?_
        rintro e wD ⟨v4, vs4, rfl, hr4, hm4, hb4⟩
        rw [HEE2.out]
        rw [HRR2.out] at hr4
        rw [HLL2.out] at hm4
        obtain ⟨alq, clq, ahq, chq, awq, cwq, agq, cgq, anq, cnq, rfl⟩ := hr4.form
        obtain ⟨asl, csl, rfl⟩ := hm4.form
        have HB9D : Hid (Below wd.heap.size wd wD) := Below.far HB9C.out hb4
        have HR9D : Hid (ReplNew wD wd.heap.size (.agg #[.int .i64 R3.me, .int .i64 R3.kept.view, .int .i64 R3.kept.normal, .bool R3.kept.calm, .slice alq R3.kept.log.length clq, .int .i64 R3.kept.commit, .slice ahq R3.hav.length chq, .slice awq R3.wants.length cwq, .slice agq R3.gives.length cgq, .slice anq R3.given.length cnq]) R3) := hr4.base HB9C.out.size
        have HM9D : Hid (MsgsNew wD wd.heap.size (.slice asl LG.length csl) LG) := hm4.base HB9C.out.size
        have B9D : Hid (Box wD lb 30 [.int .i64 0, .int .i64 0, .int .i64 0, .bool false, .slice none 0 0, .int .i64 0, .slice none 0 0, .slice none 0 0, .slice none 0 0, .slice none 0 0]) := B9C.out.below hb4 B9C.out.lt
        clear hr4 hm4 hb4
        go_wp2_with fail
        refine wpEarly_next HB9D.out fun m4 => ?_
        refine wpEarly_nil ?_
        refine wpPlan_free (by kernel_rfl) ?_
        apply Exists.intro
        refine ⟨?_, ?_⟩
        · intro V hV
          simp only [sel, ↓reduceIte, Nat.reduceEqDiff]
          repeat (go_big_quiet_step (fail))
          refine wpQuiet_nil ?_
          rfl
        intro n6
        obtain ⟨wE, hwE⟩ : ∃ wE, wE = ((wD.drewN m4).drewN n6) := ⟨_, rfl⟩
        have HB9E : Hid (Below wd.heap.size wd wE) := by rw [hwE]; exact (below_drewN _ (below_drewN _ (HB9D.out)))
        have hbE : Below wD.heap.size wD wE := by rw [hwE]; exact (below_drewN _ (below_drewN _ (Below.refl _ _)))
        rw [← hwE]
        clear hwE
        have B9E : Hid (Box wE lb 30 [.int .i64 0, .int .i64 0, .int .i64 0, .bool false, .slice none 0 0, .int .i64 0, .slice none 0 0, .slice none 0 0, .slice none 0 0, .slice none 0 0]) := B9D.out.below hbE B9D.out.lt
        have HR9E : Hid (ReplNew wE wd.heap.size (.agg #[.int .i64 R3.me, .int .i64 R3.kept.view, .int .i64 R3.kept.normal, .bool R3.kept.calm, .slice alq R3.kept.log.length clq, .int .i64 R3.kept.commit, .slice ahq R3.hav.length chq, .slice awq R3.wants.length cwq, .slice agq R3.gives.length cgq, .slice anq R3.given.length cnq]) R3) := HR9D.out.below hbE
        have HM9E : Hid (MsgsNew wE wd.heap.size (.slice asl LG.length csl) LG) := msgs_below HM9D.out hbE
        refine wpPlan_line ?_
        simp only [sel, ↓reduceIte, Nat.reduceEqDiff]
        refine wpEarly_cons ?_
        have h6 := B9E.out
        have y0 := h6.cell 0 _ rfl
        have y1 := h6.cell 1 _ rfl
        have y2 := h6.cell 2 _ rfl
        have y3 := h6.cell 3 _ rfl
        have y4 := h6.cell 4 _ rfl
        have y5 := h6.cell 5 _ rfl
        have y6 := h6.cell 6 _ rfl
        have y7 := h6.cell 7 _ rfl
        have y8 := h6.cell 8 _ rfl
        have y9 := h6.cell 9 _ rfl
        have f0 := h6.frozen 0
        have f1 := h6.frozen 1
        have f2 := h6.frozen 2
        have f3 := h6.frozen 3
        have f4 := h6.frozen 4
        have f5 := h6.frozen 5
        have f6 := h6.frozen 6
        have f7 := h6.frozen 7
        have f8 := h6.frozen 8
        have f9 := h6.frozen 9
        have HH : Hid (HeardAt wd R3 LG 0 (.pointer (some ⟨lb, 0, none⟩)) (.slice asl LG.length csl) (.int .i64 0) (setAll wE lb 0 [.int .i64 R3.me, .int .i64 R3.kept.view, .int .i64 R3.kept.normal, .bool R3.kept.calm, .slice alq R3.kept.log.length clq, .int .i64 R3.kept.commit, .slice ahq R3.hav.length chq, .slice awq R3.wants.length cwq, .slice agq R3.gives.length cgq, .slice anq R3.given.length cnq])) := heard_set B9E.out rfl HR9E.out HM9E.out HB9E.out HLB.out
        obtain ⟨wF, hwF⟩ : ∃ wF, wF = setAll wE lb 0 [.int .i64 R3.me, .int .i64 R3.kept.view, .int .i64 R3.kept.normal, .bool R3.kept.calm, .slice alq R3.kept.log.length clq, .int .i64 R3.kept.commit, .slice ahq R3.hav.length chq, .slice awq R3.wants.length cwq, .slice agq R3.gives.length cgq, .slice anq R3.given.length cnq] := ⟨_, rfl⟩
        rw [← hwF] at HH
        have HB9F : Hid (Below wd.heap.size wd wF) := by obtain ⟨_, _, _, _, _, _, _, _, _, q⟩ := HH.out; exact q
        simp only [setAll] at hwF
        go_wp2_with fail
        rw [← hwF]
        clear hwF y0 y1 y2 y3 y4 y5 y6 y7 y8 y9 f0 f1 f2 f3 f4 f5 f6 f7 f8 f9 h6
        refine wpEarly_next HB9F.out fun m7 => ?_
        refine wpEarly_cons ?_
        go_wp2_with fail
        refine wpEarly_next (below_drewN _ HB9F.out) fun m8 => ?_
        refine wpEarly_nil ?_
        refine wpPlan_done ?_
        simp only [sel, ↓reduceIte, Nat.reduceEqDiff]
        obtain ⟨wG, hwG⟩ : ∃ wG, wG = ((wF.drewN m7).drewN m8) := ⟨_, rfl⟩
        have HB9G : Hid (Below wd.heap.size wd wG) := by rw [hwG]; exact (below_drewN _ (below_drewN _ (HB9F.out)))
        have hbG : Below wF.heap.size wF wG := by rw [hwG]; exact (below_drewN _ (below_drewN _ (Below.refl _ _)))
        rw [← hwG]
        clear hwG
        go_wp2_with fail
        go_meet
        exact HH.out.below hbG
      · simp only [sel, ↓reduceIte, Nat.reduceEqDiff]
        refine wpEarly_cons ?_
        go_wp2_with fail
        refine (hearGo_any R1 M2 _ _ wA (HRA2.out _ HB9A.out) HFR2.out (HMA2.out _ HB9A.out) HTM2.out).mono ?_
        rintro e wD ⟨v4, vs4, rfl, hr4, hm4, hb4⟩
        rw [HEE2.out]
        rw [HRR2.out] at hr4
        rw [HLL2.out] at hm4
        obtain ⟨alq, clq, ahq, chq, awq, cwq, agq, cgq, anq, cnq, rfl⟩ := hr4.form
        obtain ⟨asl, csl, rfl⟩ := hm4.form
        have HB9D : Hid (Below wd.heap.size wd wD) := Below.far HB9A.out hb4
        have HR9D : Hid (ReplNew wD wd.heap.size (.agg #[.int .i64 R3.me, .int .i64 R3.kept.view, .int .i64 R3.kept.normal, .bool R3.kept.calm, .slice alq R3.kept.log.length clq, .int .i64 R3.kept.commit, .slice ahq R3.hav.length chq, .slice awq R3.wants.length cwq, .slice agq R3.gives.length cgq, .slice anq R3.given.length cnq]) R3) := hr4.base HB9A.out.size
        have HM9D : Hid (MsgsNew wD wd.heap.size (.slice asl LG.length csl) LG) := hm4.base HB9A.out.size
        clear hr4 hm4 hb4
        go_wp2_with fail
        refine wpEarly_next HB9D.out fun m4 => ?_
        refine wpEarly_nil ?_
        refine wpPlan_free (by kernel_rfl) ?_
        apply Exists.intro
        refine ⟨?_, ?_⟩
        · intro V hV
          simp only [sel, ↓reduceIte, Nat.reduceEqDiff]
          repeat (go_big_quiet_step (fail))
          refine wpQuiet_nil ?_
          rfl
        intro n6
        obtain ⟨wH, hwH⟩ : ∃ wH, wH = ((wD.drewN m4).drewN n6) := ⟨_, rfl⟩
        have HB9H : Hid (Below wd.heap.size wd wH) := by rw [hwH]; exact (below_drewN _ (below_drewN _ (HB9D.out)))
        have hbH : Below wD.heap.size wD wH := by rw [hwH]; exact (below_drewN _ (below_drewN _ (Below.refl _ _)))
        rw [← hwH]
        clear hwH
        refine wpPlan_line ?_
        simp only [sel, ↓reduceIte, Nat.reduceEqDiff]
        refine wpEarly_cons ?_
        go_wp2_with fail
        have b2 := Box.new wH 30 [.int .i64 0, .int .i64 0, .int .i64 0, .bool false, .slice none 0 0, .int .i64 0, .slice none 0 0, .slice none 0 0, .slice none 0 0, .slice none 0 0]
        obtain ⟨wB, hwB⟩ : ∃ wB, wB = wH.alloc (.cells #[.int .i64 0, .int .i64 0, .int .i64 0, .bool false, .slice none 0 0, .int .i64 0, .slice none 0 0, .slice none 0 0, .slice none 0 0, .slice none 0 0] 30) := ⟨_, rfl⟩
        have hbB : Below wH.heap.size wH wB := by rw [hwB]; exact below_alloc _ _
        rw [← hwB] at b2 ⊢
        obtain ⟨lb, hlb⟩ : ∃ lb, wH.heap.size = lb := ⟨_, rfl⟩
        have HLB : Hid (wd.heap.size ≤ lb) := by rw [← hlb]; exact HB9H.out.size
        have HB9B : Hid (Below wd.heap.size wd wB) := Below.far HB9H.out hbB
        rw [hlb] at b2
        try rw [hlb]
        have B9B : Hid (Box wB lb 30 [.int .i64 0, .int .i64 0, .int .i64 0, .bool false, .slice none 0 0, .int .i64 0, .slice none 0 0, .slice none 0 0, .slice none 0 0, .slice none 0 0]) := b2
        have HR9B : Hid (ReplNew wB wd.heap.size (.agg #[.int .i64 R3.me, .int .i64 R3.kept.view, .int .i64 R3.kept.normal, .bool R3.kept.calm, .slice alq R3.kept.log.length clq, .int .i64 R3.kept.commit, .slice ahq R3.hav.length chq, .slice awq R3.wants.length cwq, .slice agq R3.gives.length cgq, .slice anq R3.given.length cnq]) R3) := (HR9D.out.below hbH).below hbB
        have HM9B : Hid (MsgsNew wB wd.heap.size (.slice asl LG.length csl) LG) := msgs_below (msgs_below HM9D.out hbH) hbB
        clear hwB hbB b2 hlb
        refine wpEarly_next HB9B.out fun m2 => ?_
        refine wpEarly_nil ?_
        obtain ⟨wE, hwE⟩ : ∃ wE, wE = (wB.drewN m2) := ⟨_, rfl⟩
        have HB9E : Hid (Below wd.heap.size wd wE) := by rw [hwE]; exact (below_drewN _ (HB9B.out))
        have hbE : Below wB.heap.size wB wE := by rw [hwE]; exact (below_drewN _ (Below.refl _ _))
        rw [← hwE]
        clear hwE
        have B9E : Hid (Box wE lb 30 [.int .i64 0, .int .i64 0, .int .i64 0, .bool false, .slice none 0 0, .int .i64 0, .slice none 0 0, .slice none 0 0, .slice none 0 0, .slice none 0 0]) := B9B.out.below hbE B9B.out.lt
        have HR9E : Hid (ReplNew wE wd.heap.size (.agg #[.int .i64 R3.me, .int .i64 R3.kept.view, .int .i64 R3.kept.normal, .bool R3.kept.calm, .slice alq R3.kept.log.length clq, .int .i64 R3.kept.commit, .slice ahq R3.hav.length chq, .slice awq R3.wants.length cwq, .slice agq R3.gives.length cgq, .slice anq R3.given.length cnq]) R3) := HR9B.out.below hbE
        have HM9E : Hid (MsgsNew wE wd.heap.size (.slice asl LG.length csl) LG) := msgs_below HM9B.out hbE
        refine wpPlan_line ?_
        simp only [sel, ↓reduceIte, Nat.reduceEqDiff]
        refine wpEarly_cons ?_
        have h6 := B9E.out
        have y0 := h6.cell 0 _ rfl
        have y1 := h6.cell 1 _ rfl
        have y2 := h6.cell 2 _ rfl
        have y3 := h6.cell 3 _ rfl
        have y4 := h6.cell 4 _ rfl
        have y5 := h6.cell 5 _ rfl
        have y6 := h6.cell 6 _ rfl
        have y7 := h6.cell 7 _ rfl
        have y8 := h6.cell 8 _ rfl
        have y9 := h6.cell 9 _ rfl
        have f0 := h6.frozen 0
        have f1 := h6.frozen 1
        have f2 := h6.frozen 2
        have f3 := h6.frozen 3
        have f4 := h6.frozen 4
        have f5 := h6.frozen 5
        have f6 := h6.frozen 6
        have f7 := h6.frozen 7
        have f8 := h6.frozen 8
        have f9 := h6.frozen 9
        have HH : Hid (HeardAt wd R3 LG 0 (.pointer (some ⟨lb, 0, none⟩)) (.slice asl LG.length csl) (.int .i64 0) (setAll wE lb 0 [.int .i64 R3.me, .int .i64 R3.kept.view, .int .i64 R3.kept.normal, .bool R3.kept.calm, .slice alq R3.kept.log.length clq, .int .i64 R3.kept.commit, .slice ahq R3.hav.length chq, .slice awq R3.wants.length cwq, .slice agq R3.gives.length cgq, .slice anq R3.given.length cnq])) := heard_set B9E.out rfl HR9E.out HM9E.out HB9E.out HLB.out
        obtain ⟨wF, hwF⟩ : ∃ wF, wF = setAll wE lb 0 [.int .i64 R3.me, .int .i64 R3.kept.view, .int .i64 R3.kept.normal, .bool R3.kept.calm, .slice alq R3.kept.log.length clq, .int .i64 R3.kept.commit, .slice ahq R3.hav.length chq, .slice awq R3.wants.length cwq, .slice agq R3.gives.length cgq, .slice anq R3.given.length cnq] := ⟨_, rfl⟩
        rw [← hwF] at HH
        have HB9F : Hid (Below wd.heap.size wd wF) := by obtain ⟨_, _, _, _, _, _, _, _, _, q⟩ := HH.out; exact q
        simp only [setAll] at hwF
        go_wp2_with fail
        rw [← hwF]
        clear hwF y0 y1 y2 y3 y4 y5 y6 y7 y8 y9 f0 f1 f2 f3 f4 f5 f6 f7 f8 f9 h6
        refine wpEarly_next HB9F.out fun m7 => ?_
        refine wpEarly_cons ?_
        go_wp2_with fail
        refine wpEarly_next (below_drewN _ HB9F.out) fun m8 => ?_
        refine wpEarly_nil ?_
        refine wpPlan_done ?_
        simp only [sel, ↓reduceIte, Nat.reduceEqDiff]
        obtain ⟨wG, hwG⟩ : ∃ wG, wG = ((wF.drewN m7).drewN m8) := ⟨_, rfl⟩
        have HB9G : Hid (Below wd.heap.size wd wG) := by rw [hwG]; exact (below_drewN _ (below_drewN _ (HB9F.out)))
        have hbG : Below wF.heap.size wF wG := by rw [hwG]; exact (below_drewN _ (below_drewN _ (Below.refl _ _)))
        rw [← hwG]
        clear hwG
        go_wp2_with fail
        go_meet
        exact HH.out.below hbG
    case rest =>
      obtain ⟨yb, na, ncp, rfl, rfl, rfl, hyb, hbox, hms, hbw⟩ := hcut
      rw [HLG.out.2] at hms ⊢
      have HVe : Hid (VInv w E ab bb (.slice ea E.length ec) R2 R1 wc) := HVd.out.below hbw
      have HMe : Hid (MsgsNew wc wd.heap.size (.slice na 1 ncp) LG) := hms
      clear hyb hbox hms hbw
      obtain ⟨wp, hwp⟩ : ∃ wp, wp = wc := ⟨_, rfl⟩
      subst hwp
      obtain ⟨M3, hM3⟩ : ∃ M3, giveM E = M3 := ⟨_, rfl⟩
      have hMt : TextsIn M3.log := by rw [← hM3]; exact HE.out.2
      have hMk : M3.kind = 4 := by rw [← hM3]; rfl
      obtain ⟨gd, am3, cm3, rfl, hn2, hmc, hma⟩ := msg_read HMe.out 0 (by rw [HLG.out.2]; omega) M3 (by rw [← HLG.out.1, ← hM3]; rfl) hMt
      have hh3 := v_hear3 HE.out.1 k HKE.out
      rw [HR2.out, hM3] at hh3
      obtain ⟨R4, hR4⟩ : ∃ R4, vC E = R4 := ⟨_, rfl⟩
      rw [hR4] at hh3 HMB1
      obtain ⟨LD, hLD⟩ : ∃ LD, hearL R2 M3 = LD := ⟨_, rfl⟩
      rw [hLD] at hh3
      have HR4 : Hid (vC E = R4) := hR4
      have HLD : Hid (LD.length = 2) := by obtain ⟨_, _, m1, m2, e⟩ := hh3; show LD.length = 2; rw [e]; rfl
      have HMA3 : Hid (∀ W, Below wp.heap.size wp W → MsgAt W (.agg #[.int .i64 M3.kind, .int .i64 M3.frm, .int .i64 M3.dst, .int .i64 M3.view, .int .i64 M3.normal, .int .i64 M3.commit, .int .i64 M3.n, .slice am3 M3.log.length cm3]) M3) := hma
      have HMC3 : Hid (∀ W, Below wp.heap.size wp W → ∀ j u, [.int .i64 M3.kind, .int .i64 M3.frm, .int .i64 M3.dst, .int .i64 M3.view, .int .i64 M3.normal, .int .i64 M3.commit, .int .i64 M3.n, .slice am3 M3.log.length cm3][j]? = some u → W.cell? ⟨gd, 0 * 8 + j, none⟩ = some u) := fun W hW j u hj => keep_cell9 hW (hmc j u hj)
      have HTM3 : Hid (TextsIn M3.log) := hMt
      have HFR3 : Hid (ReplFits R2) := may_fits _ HMB1.out.2.1
      have HEE3 : Hid (hearE R2 M3 = 0) := hh3.1
      have HRR3 : Hid (hearR R2 M3 = R4) := hh3.2.1
      have HLL3 : Hid (hearL R2 M3 = LD) := hLD
      have t0 := HMC3.out wp (Below.refl _ _) 0 _ rfl
      rw [hMk] at t0
      simp only [Nat.zero_mul, Nat.add_zero] at t0
      obtain ⟨ala3, cla3, aha3, cha3, awa3, cwa3, aga3, cga3, ana3, cna3, bx2, hr2⟩ := HVe.out.1
      have BXA3 : Hid (Box wp ab 30 [.int .i64 R2.me, .int .i64 R2.kept.view, .int .i64 R2.kept.normal, .bool R2.kept.calm, .slice ala3 R2.kept.log.length cla3, .int .i64 R2.kept.commit, .slice aha3 R2.hav.length cha3, .slice awa3 R2.wants.length cwa3, .slice aga3 R2.gives.length cga3, .slice ana3 R2.given.length cna3]) := bx2
      have HRA3 : Hid (∀ W, Below wp.heap.size wp W → ReplAt W (.agg #[.int .i64 R2.me, .int .i64 R2.kept.view, .int .i64 R2.kept.normal, .bool R2.kept.calm, .slice ala3 R2.kept.log.length cla3, .int .i64 R2.kept.commit, .slice aha3 R2.hav.length cha3, .slice awa3 R2.wants.length cwa3, .slice aga3 R2.gives.length cga3, .slice ana3 R2.given.length cna3]) R2) := fun W hW => (hr2.at HFR3.out).below hW
      clear hM3 hMt hMk hn2 hmc hma hh3 hR4 hLD bx2 hr2
      go_upto_region 17 with fail
      clear t0
      go_upto_region 17 with fail
      go_cut [19, 20, 21] (fun xp xo xe wx => HeardAt wp R4 LD 0 xp xo xe wx)
      case first =>
        refine wp_region_plan [0, 0, 0, 0, 1, 2, 2, 2, 2, 3, 4, 4, 5] (.free 0 (.fork 3 1 (.line 1 (.free 2 (.line 4 (.done 5)))) (.free 2 (.line 3 (.line 4 (.done 5)))))) (by kernel_rfl) (by kernel_rfl) (fun h => h) (Below wp.heap.size wp) (Below.refl _ _) (fun V n hV => below_drewN n hV) fun n0 => ?_
        refine wpPlan_free (by kernel_rfl) ?_
        apply Exists.intro
        refine ⟨?_, ?_⟩
        · intro V hV
          have bx := BXA3.out.below hV BXA3.out.lt
          have x0 := bx.cell 0 _ rfl
          have x1 := bx.cell 1 _ rfl
          have x2 := bx.cell 2 _ rfl
          have x3 := bx.cell 3 _ rfl
          have x4 := bx.cell 4 _ rfl
          have x5 := bx.cell 5 _ rfl
          have x6 := bx.cell 6 _ rfl
          have x7 := bx.cell 7 _ rfl
          have x8 := bx.cell 8 _ rfl
          have x9 := bx.cell 9 _ rfl
          have t0 := HMC3.out V hV 0 _ rfl
          have t1 := HMC3.out V hV 1 _ rfl
          have t2 := HMC3.out V hV 2 _ rfl
          have t3 := HMC3.out V hV 3 _ rfl
          have t4 := HMC3.out V hV 4 _ rfl
          have t5 := HMC3.out V hV 5 _ rfl
          have t6 := HMC3.out V hV 6 _ rfl
          have t7 := HMC3.out V hV 7 _ rfl
          simp only [Nat.zero_mul, Nat.zero_add, Nat.reduceAdd, Nat.add_zero] at t0 t1 t2 t3 t4 t5 t6 t7
          simp only [sel, ↓reduceIte, Nat.reduceEqDiff]
          repeat (go_big_quiet_step (fail))
          refine wpQuiet_nil ?_
          rfl
        intro n1
        obtain ⟨wA, hwA⟩ : ∃ wA, wA = ((wp.drewN n0).drewN n1) := ⟨_, rfl⟩
        have HB9A : Hid (Below wp.heap.size wp wA) := by rw [hwA]; exact (below_drewN _ (below_drewN _ (Below.refl _ _)))
        have hbA : Below wp.heap.size wp wA := by rw [hwA]; exact (below_drewN _ (below_drewN _ (Below.refl _ _)))
        rw [← hwA]
        clear hwA
        refine wpPlan_fork ?_ ?_
        · simp only [sel, ↓reduceIte, Nat.reduceEqDiff]
          refine wpEarly_cons ?_
          go_wp2_with fail
          have b2 := Box.new wA 30 [.int .i64 0, .int .i64 0, .int .i64 0, .bool false, .slice none 0 0, .int .i64 0, .slice none 0 0, .slice none 0 0, .slice none 0 0, .slice none 0 0]
          obtain ⟨wB, hwB⟩ : ∃ wB, wB = wA.alloc (.cells #[.int .i64 0, .int .i64 0, .int .i64 0, .bool false, .slice none 0 0, .int .i64 0, .slice none 0 0, .slice none 0 0, .slice none 0 0, .slice none 0 0] 30) := ⟨_, rfl⟩
          have hbB : Below wA.heap.size wA wB := by rw [hwB]; exact below_alloc _ _
          rw [← hwB] at b2 ⊢
          obtain ⟨lb, hlb⟩ : ∃ lb, wA.heap.size = lb := ⟨_, rfl⟩
          have HLB : Hid (wp.heap.size ≤ lb) := by rw [← hlb]; exact HB9A.out.size
          have HB9B : Hid (Below wp.heap.size wp wB) := Below.far HB9A.out hbB
          rw [hlb] at b2
          try rw [hlb]
          have B9B : Hid (Box wB lb 30 [.int .i64 0, .int .i64 0, .int .i64 0, .bool false, .slice none 0 0, .int .i64 0, .slice none 0 0, .slice none 0 0, .slice none 0 0, .slice none 0 0]) := b2
          clear hwB hbB b2 hlb
          refine wpEarly_next HB9B.out fun m2 => ?_
          refine wpEarly_nil ?_
          obtain ⟨wC, hwC⟩ : ∃ wC, wC = (wB.drewN m2) := ⟨_, rfl⟩
          have HB9C : Hid (Below wp.heap.size wp wC) := by rw [hwC]; exact (below_drewN _ (HB9B.out))
          have hbC : Below wB.heap.size wB wC := by rw [hwC]; exact (below_drewN _ (Below.refl _ _))
          rw [← hwC]
          clear hwC
          have B9C : Hid (Box wC lb 30 [.int .i64 0, .int .i64 0, .int .i64 0, .bool false, .slice none 0 0, .int .i64 0, .slice none 0 0, .slice none 0 0, .slice none 0 0, .slice none 0 0]) := B9B.out.below hbC B9B.out.lt
          refine wpPlan_line ?_
          simp only [sel, ↓reduceIte, Nat.reduceEqDiff]
          refine wpEarly_cons ?_
          go_wp2_with fail
          refine (hearGo_any R2 M3 _ _ wC (HRA3.out _ HB9C.out) HFR3.out (HMA3.out _ HB9C.out) HTM3.out).mono ?_
          rintro e wD ⟨v4, vs4, rfl, hr4, hm4, hb4⟩
          rw [HEE3.out]
          rw [HRR3.out] at hr4
          rw [HLL3.out] at hm4
          obtain ⟨alq, clq, ahq, chq, awq, cwq, agq, cgq, anq, cnq, rfl⟩ := hr4.form
          obtain ⟨asl, csl, rfl⟩ := hm4.form
          have HB9D : Hid (Below wp.heap.size wp wD) := Below.far HB9C.out hb4
          have HR9D : Hid (ReplNew wD wp.heap.size (.agg #[.int .i64 R4.me, .int .i64 R4.kept.view, .int .i64 R4.kept.normal, .bool R4.kept.calm, .slice alq R4.kept.log.length clq, .int .i64 R4.kept.commit, .slice ahq R4.hav.length chq, .slice awq R4.wants.length cwq, .slice agq R4.gives.length cgq, .slice anq R4.given.length cnq]) R4) := hr4.base HB9C.out.size
          have HM9D : Hid (MsgsNew wD wp.heap.size (.slice asl LD.length csl) LD) := hm4.base HB9C.out.size
          have B9D : Hid (Box wD lb 30 [.int .i64 0, .int .i64 0, .int .i64 0, .bool false, .slice none 0 0, .int .i64 0, .slice none 0 0, .slice none 0 0, .slice none 0 0, .slice none 0 0]) := B9C.out.below hb4 B9C.out.lt
          clear hr4 hm4 hb4
          go_wp2_with fail
          refine wpEarly_next HB9D.out fun m4 => ?_
          refine wpEarly_nil ?_
          refine wpPlan_free (by kernel_rfl) ?_
          apply Exists.intro
          refine ⟨?_, ?_⟩
          · intro V hV
            simp only [sel, ↓reduceIte, Nat.reduceEqDiff]
            repeat (go_big_quiet_step (fail))
            refine wpQuiet_nil ?_
            rfl
          intro n6
          obtain ⟨wE, hwE⟩ : ∃ wE, wE = ((wD.drewN m4).drewN n6) := ⟨_, rfl⟩
          have HB9E : Hid (Below wp.heap.size wp wE) := by rw [hwE]; exact (below_drewN _ (below_drewN _ (HB9D.out)))
          have hbE : Below wD.heap.size wD wE := by rw [hwE]; exact (below_drewN _ (below_drewN _ (Below.refl _ _)))
          rw [← hwE]
          clear hwE
          have B9E : Hid (Box wE lb 30 [.int .i64 0, .int .i64 0, .int .i64 0, .bool false, .slice none 0 0, .int .i64 0, .slice none 0 0, .slice none 0 0, .slice none 0 0, .slice none 0 0]) := B9D.out.below hbE B9D.out.lt
          have HR9E : Hid (ReplNew wE wp.heap.size (.agg #[.int .i64 R4.me, .int .i64 R4.kept.view, .int .i64 R4.kept.normal, .bool R4.kept.calm, .slice alq R4.kept.log.length clq, .int .i64 R4.kept.commit, .slice ahq R4.hav.length chq, .slice awq R4.wants.length cwq, .slice agq R4.gives.length cgq, .slice anq R4.given.length cnq]) R4) := HR9D.out.below hbE
          have HM9E : Hid (MsgsNew wE wp.heap.size (.slice asl LD.length csl) LD) := msgs_below HM9D.out hbE
          refine wpPlan_line ?_
          simp only [sel, ↓reduceIte, Nat.reduceEqDiff]
          refine wpEarly_cons ?_
          have h6 := B9E.out
          have y0 := h6.cell 0 _ rfl
          have y1 := h6.cell 1 _ rfl
          have y2 := h6.cell 2 _ rfl
          have y3 := h6.cell 3 _ rfl
          have y4 := h6.cell 4 _ rfl
          have y5 := h6.cell 5 _ rfl
          have y6 := h6.cell 6 _ rfl
          have y7 := h6.cell 7 _ rfl
          have y8 := h6.cell 8 _ rfl
          have y9 := h6.cell 9 _ rfl
          have f0 := h6.frozen 0
          have f1 := h6.frozen 1
          have f2 := h6.frozen 2
          have f3 := h6.frozen 3
          have f4 := h6.frozen 4
          have f5 := h6.frozen 5
          have f6 := h6.frozen 6
          have f7 := h6.frozen 7
          have f8 := h6.frozen 8
          have f9 := h6.frozen 9
          have HH : Hid (HeardAt wp R4 LD 0 (.pointer (some ⟨lb, 0, none⟩)) (.slice asl LD.length csl) (.int .i64 0) (setAll wE lb 0 [.int .i64 R4.me, .int .i64 R4.kept.view, .int .i64 R4.kept.normal, .bool R4.kept.calm, .slice alq R4.kept.log.length clq, .int .i64 R4.kept.commit, .slice ahq R4.hav.length chq, .slice awq R4.wants.length cwq, .slice agq R4.gives.length cgq, .slice anq R4.given.length cnq])) := heard_set B9E.out rfl HR9E.out HM9E.out HB9E.out HLB.out
          obtain ⟨wF, hwF⟩ : ∃ wF, wF = setAll wE lb 0 [.int .i64 R4.me, .int .i64 R4.kept.view, .int .i64 R4.kept.normal, .bool R4.kept.calm, .slice alq R4.kept.log.length clq, .int .i64 R4.kept.commit, .slice ahq R4.hav.length chq, .slice awq R4.wants.length cwq, .slice agq R4.gives.length cgq, .slice anq R4.given.length cnq] := ⟨_, rfl⟩
          rw [← hwF] at HH
          have HB9F : Hid (Below wp.heap.size wp wF) := by obtain ⟨_, _, _, _, _, _, _, _, _, q⟩ := HH.out; exact q
          simp only [setAll] at hwF
          go_wp2_with fail
          rw [← hwF]
          clear hwF y0 y1 y2 y3 y4 y5 y6 y7 y8 y9 f0 f1 f2 f3 f4 f5 f6 f7 f8 f9 h6
          refine wpEarly_next HB9F.out fun m7 => ?_
          refine wpEarly_cons ?_
          go_wp2_with fail
          refine wpEarly_next (below_drewN _ HB9F.out) fun m8 => ?_
          refine wpEarly_nil ?_
          refine wpPlan_done ?_
          simp only [sel, ↓reduceIte, Nat.reduceEqDiff]
          obtain ⟨wG, hwG⟩ : ∃ wG, wG = ((wF.drewN m7).drewN m8) := ⟨_, rfl⟩
          have HB9G : Hid (Below wp.heap.size wp wG) := by rw [hwG]; exact (below_drewN _ (below_drewN _ (HB9F.out)))
          have hbG : Below wF.heap.size wF wG := by rw [hwG]; exact (below_drewN _ (below_drewN _ (Below.refl _ _)))
          rw [← hwG]
          clear hwG
          go_wp2_with fail
          go_meet
          exact HH.out.below hbG
        · simp only [sel, ↓reduceIte, Nat.reduceEqDiff]
          refine wpEarly_cons ?_
          go_wp2_with fail
          refine (hearGo_any R2 M3 _ _ wA (HRA3.out _ HB9A.out) HFR3.out (HMA3.out _ HB9A.out) HTM3.out).mono ?_
          rintro e wD ⟨v4, vs4, rfl, hr4, hm4, hb4⟩
          rw [HEE3.out]
          rw [HRR3.out] at hr4
          rw [HLL3.out] at hm4
          obtain ⟨alq, clq, ahq, chq, awq, cwq, agq, cgq, anq, cnq, rfl⟩ := hr4.form
          obtain ⟨asl, csl, rfl⟩ := hm4.form
          have HB9D : Hid (Below wp.heap.size wp wD) := Below.far HB9A.out hb4
          have HR9D : Hid (ReplNew wD wp.heap.size (.agg #[.int .i64 R4.me, .int .i64 R4.kept.view, .int .i64 R4.kept.normal, .bool R4.kept.calm, .slice alq R4.kept.log.length clq, .int .i64 R4.kept.commit, .slice ahq R4.hav.length chq, .slice awq R4.wants.length cwq, .slice agq R4.gives.length cgq, .slice anq R4.given.length cnq]) R4) := hr4.base HB9A.out.size
          have HM9D : Hid (MsgsNew wD wp.heap.size (.slice asl LD.length csl) LD) := hm4.base HB9A.out.size
          clear hr4 hm4 hb4
          go_wp2_with fail
          refine wpEarly_next HB9D.out fun m4 => ?_
          refine wpEarly_nil ?_
          refine wpPlan_free (by kernel_rfl) ?_
          apply Exists.intro
          refine ⟨?_, ?_⟩
          · intro V hV
            simp only [sel, ↓reduceIte, Nat.reduceEqDiff]
            repeat (go_big_quiet_step (fail))
            refine wpQuiet_nil ?_
            rfl
          intro n6
          obtain ⟨wH, hwH⟩ : ∃ wH, wH = ((wD.drewN m4).drewN n6) := ⟨_, rfl⟩
          have HB9H : Hid (Below wp.heap.size wp wH) := by rw [hwH]; exact (below_drewN _ (below_drewN _ (HB9D.out)))
          have hbH : Below wD.heap.size wD wH := by rw [hwH]; exact (below_drewN _ (below_drewN _ (Below.refl _ _)))
          rw [← hwH]
          clear hwH
          refine wpPlan_line ?_
          simp only [sel, ↓reduceIte, Nat.reduceEqDiff]
          refine wpEarly_cons ?_
          go_wp2_with fail
          have b2 := Box.new wH 30 [.int .i64 0, .int .i64 0, .int .i64 0, .bool false, .slice none 0 0, .int .i64 0, .slice none 0 0, .slice none 0 0, .slice none 0 0, .slice none 0 0]
          obtain ⟨wB, hwB⟩ : ∃ wB, wB = wH.alloc (.cells #[.int .i64 0, .int .i64 0, .int .i64 0, .bool false, .slice none 0 0, .int .i64 0, .slice none 0 0, .slice none 0 0, .slice none 0 0, .slice none 0 0] 30) := ⟨_, rfl⟩
          have hbB : Below wH.heap.size wH wB := by rw [hwB]; exact below_alloc _ _
          rw [← hwB] at b2 ⊢
          obtain ⟨lb, hlb⟩ : ∃ lb, wH.heap.size = lb := ⟨_, rfl⟩
          have HLB : Hid (wp.heap.size ≤ lb) := by rw [← hlb]; exact HB9H.out.size
          have HB9B : Hid (Below wp.heap.size wp wB) := Below.far HB9H.out hbB
          rw [hlb] at b2
          try rw [hlb]
          have B9B : Hid (Box wB lb 30 [.int .i64 0, .int .i64 0, .int .i64 0, .bool false, .slice none 0 0, .int .i64 0, .slice none 0 0, .slice none 0 0, .slice none 0 0, .slice none 0 0]) := b2
          have HR9B : Hid (ReplNew wB wp.heap.size (.agg #[.int .i64 R4.me, .int .i64 R4.kept.view, .int .i64 R4.kept.normal, .bool R4.kept.calm, .slice alq R4.kept.log.length clq, .int .i64 R4.kept.commit, .slice ahq R4.hav.length chq, .slice awq R4.wants.length cwq, .slice agq R4.gives.length cgq, .slice anq R4.given.length cnq]) R4) := (HR9D.out.below hbH).below hbB
          have HM9B : Hid (MsgsNew wB wp.heap.size (.slice asl LD.length csl) LD) := msgs_below (msgs_below HM9D.out hbH) hbB
          clear hwB hbB b2 hlb
          refine wpEarly_next HB9B.out fun m2 => ?_
          refine wpEarly_nil ?_
          obtain ⟨wE, hwE⟩ : ∃ wE, wE = (wB.drewN m2) := ⟨_, rfl⟩
          have HB9E : Hid (Below wp.heap.size wp wE) := by rw [hwE]; exact (below_drewN _ (HB9B.out))
          have hbE : Below wB.heap.size wB wE := by rw [hwE]; exact (below_drewN _ (Below.refl _ _))
          rw [← hwE]
          clear hwE
          have B9E : Hid (Box wE lb 30 [.int .i64 0, .int .i64 0, .int .i64 0, .bool false, .slice none 0 0, .int .i64 0, .slice none 0 0, .slice none 0 0, .slice none 0 0, .slice none 0 0]) := B9B.out.below hbE B9B.out.lt
          have HR9E : Hid (ReplNew wE wp.heap.size (.agg #[.int .i64 R4.me, .int .i64 R4.kept.view, .int .i64 R4.kept.normal, .bool R4.kept.calm, .slice alq R4.kept.log.length clq, .int .i64 R4.kept.commit, .slice ahq R4.hav.length chq, .slice awq R4.wants.length cwq, .slice agq R4.gives.length cgq, .slice anq R4.given.length cnq]) R4) := HR9B.out.below hbE
          have HM9E : Hid (MsgsNew wE wp.heap.size (.slice asl LD.length csl) LD) := msgs_below HM9B.out hbE
          refine wpPlan_line ?_
          simp only [sel, ↓reduceIte, Nat.reduceEqDiff]
          refine wpEarly_cons ?_
          have h6 := B9E.out
          have y0 := h6.cell 0 _ rfl
          have y1 := h6.cell 1 _ rfl
          have y2 := h6.cell 2 _ rfl
          have y3 := h6.cell 3 _ rfl
          have y4 := h6.cell 4 _ rfl
          have y5 := h6.cell 5 _ rfl
          have y6 := h6.cell 6 _ rfl
          have y7 := h6.cell 7 _ rfl
          have y8 := h6.cell 8 _ rfl
          have y9 := h6.cell 9 _ rfl
          have f0 := h6.frozen 0
          have f1 := h6.frozen 1
          have f2 := h6.frozen 2
          have f3 := h6.frozen 3
          have f4 := h6.frozen 4
          have f5 := h6.frozen 5
          have f6 := h6.frozen 6
          have f7 := h6.frozen 7
          have f8 := h6.frozen 8
          have f9 := h6.frozen 9
          have HH : Hid (HeardAt wp R4 LD 0 (.pointer (some ⟨lb, 0, none⟩)) (.slice asl LD.length csl) (.int .i64 0) (setAll wE lb 0 [.int .i64 R4.me, .int .i64 R4.kept.view, .int .i64 R4.kept.normal, .bool R4.kept.calm, .slice alq R4.kept.log.length clq, .int .i64 R4.kept.commit, .slice ahq R4.hav.length chq, .slice awq R4.wants.length cwq, .slice agq R4.gives.length cgq, .slice anq R4.given.length cnq])) := heard_set B9E.out rfl HR9E.out HM9E.out HB9E.out HLB.out
          obtain ⟨wF, hwF⟩ : ∃ wF, wF = setAll wE lb 0 [.int .i64 R4.me, .int .i64 R4.kept.view, .int .i64 R4.kept.normal, .bool R4.kept.calm, .slice alq R4.kept.log.length clq, .int .i64 R4.kept.commit, .slice ahq R4.hav.length chq, .slice awq R4.wants.length cwq, .slice agq R4.gives.length cgq, .slice anq R4.given.length cnq] := ⟨_, rfl⟩
          rw [← hwF] at HH
          have HB9F : Hid (Below wp.heap.size wp wF) := by obtain ⟨_, _, _, _, _, _, _, _, _, q⟩ := HH.out; exact q
          simp only [setAll] at hwF
          go_wp2_with fail
          rw [← hwF]
          clear hwF y0 y1 y2 y3 y4 y5 y6 y7 y8 y9 f0 f1 f2 f3 f4 f5 f6 f7 f8 f9 h6
          refine wpEarly_next HB9F.out fun m7 => ?_
          refine wpEarly_cons ?_
          go_wp2_with fail
          refine wpEarly_next (below_drewN _ HB9F.out) fun m8 => ?_
          refine wpEarly_nil ?_
          refine wpPlan_done ?_
          simp only [sel, ↓reduceIte, Nat.reduceEqDiff]
          obtain ⟨wG, hwG⟩ : ∃ wG, wG = ((wF.drewN m7).drewN m8) := ⟨_, rfl⟩
          have HB9G : Hid (Below wp.heap.size wp wG) := by rw [hwG]; exact (below_drewN _ (below_drewN _ (HB9F.out)))
          have hbG : Below wF.heap.size wF wG := by rw [hwG]; exact (below_drewN _ (below_drewN _ (Below.refl _ _)))
          rw [← hwG]
          clear hwG
          go_wp2_with fail
          go_meet
          exact HH.out.below hbG
      case rest =>
        obtain ⟨zb, pa, pcp, rfl, rfl, rfl, hzb, hbox, hms, hbw⟩ := hcut
        rw [HLD.out]
        have HVf : Hid (VInv w E ab bb (.slice ea E.length ec) R2 R1 wc) := HVe.out.below hbw
        clear hzb hms hbw
        obtain ⟨alz, clz, ahz, chz, awz, cwz, agz, cgz, anz, cnz, bz, hrz⟩ := hbox
        have BZ : Hid (Box wc zb 30 [.int .i64 R4.me, .int .i64 R4.kept.view, .int .i64 R4.kept.normal, .bool R4.kept.calm, .slice alz R4.kept.log.length clz, .int .i64 R4.kept.commit, .slice ahz R4.hav.length chz, .slice awz R4.wants.length cwz, .slice agz R4.gives.length cgz, .slice anz R4.given.length cnz]) := bz
        have HRZ : Hid (ReplAt wc (.agg #[.int .i64 R4.me, .int .i64 R4.kept.view, .int .i64 R4.kept.normal, .bool R4.kept.calm, .slice alz R4.kept.log.length clz, .int .i64 R4.kept.commit, .slice ahz R4.hav.length chz, .slice awz R4.wants.length cwz, .slice agz R4.gives.length cgz, .slice anz R4.given.length cnz]) R4) := hrz.at (may_fits _ HMB1.out.2.2)
        have HZL : Hid (∀ W, Below wc.heap.size wc W → Strs W (.slice alz R4.kept.log.length clz) E) := fun W hW => by
          obtain ⟨vl, _, _, _, _, e, h1, _⟩ := HRZ.out.below hW
          simp only [replCells, Value.agg.injEq, Array.mk.injEq, List.cons.injEq] at e
          obtain ⟨_, _, _, _, rfl, _⟩ := e
          have : R4.kept.log = E := by rw [← HR4.out]; rfl
          rw [this] at h1 ⊢
          exact h1
        have HEL : Hid (∀ W, Below wc.heap.size wc W → Strs W (.slice ea E.length ec) E) := fun W hW => Strs.of_own (own_below HVf.out.2.2.1 hW (own_lt HVf.out.2.2.1)) (by have := HE.out.2.1; omega) HE.out.2.2
        have hld : leads R4 = true := by rw [← HR4.out]; rfl
        have HVW : Hid (R4.kept.view = 1) := by rw [← HR4.out]; rfl
        have x0 := bz.cell 0 _ rfl
        have x1 := bz.cell 1 _ rfl
        have x2 := bz.cell 2 _ rfl
        have x3 := bz.cell 3 _ rfl
        have x4 := bz.cell 4 _ rfl
        have x5 := bz.cell 5 _ rfl
        have x6 := bz.cell 6 _ rfl
        have x7 := bz.cell 7 _ rfl
        have x8 := bz.cell 8 _ rfl
        have x9 := bz.cell 9 _ rfl
        clear bz hrz
        go_wp2_with fail
        refine (leads_any R4 _ wc HRZ.out).mono ?_
        rw [hld]
        rintro e wf ⟨rfl, hbf⟩
        have HBF : Hid (Below wc.heap.size wc wf) := hbf
        have BZf : Hid (Box wf zb 30 [.int .i64 R4.me, .int .i64 R4.kept.view, .int .i64 R4.kept.normal, .bool R4.kept.calm, .slice alz R4.kept.log.length clz, .int .i64 R4.kept.commit, .slice ahz R4.hav.length chz, .slice awz R4.wants.length cwz, .slice agz R4.gives.length cgz, .slice anz R4.given.length cnz]) := BZ.out.below hbf BZ.out.lt
        clear hbf hld x0 x1 x2 x3 x4 x5 x6 x7 x8 x9
        have h5 := BZf.out
        have x0 := h5.cell 0 _ rfl
        have x1 := h5.cell 1 _ rfl
        have x2 := h5.cell 2 _ rfl
        have x3 := h5.cell 3 _ rfl
        have x4 := h5.cell 4 _ rfl
        have x5 := h5.cell 5 _ rfl
        have x6 := h5.cell 6 _ rfl
        have x7 := h5.cell 7 _ rfl
        have x8 := h5.cell 8 _ rfl
        have x9 := h5.cell 9 _ rfl
        clear h5
        rw [HVW.out] at x1
        go_wp2_with fail
        refine (equalStrs_any E E _ _ wf (HZL.out wf HBF.out) (HEL.out wf HBF.out)).mono ?_
        rintro e wg ⟨rfl, hbg⟩
        have HBG : Hid (Below wc.heap.size wc wg) := Below.far HBF.out hbg
        clear hbg x0 x1 x2 x3 x4 x5 x6 x7 x8 x9
        rw [show decide (E = E) = true from decide_eq_true rfl]
        go_wp2_with fail
        refine (leader_any 1 wg).mono ?_
        rintro e wh ⟨rfl, eh⟩
        subst eh
        rw [show (1 : Int).tmod 3 = 1 from rfl]
        go_wp2_with fail
        go_ret
        exact ⟨rfl, Below.far HVf.out.2.2.2 HBG.out⟩

end Go.Proofs.YtmdgkjbiicaljagDoor
