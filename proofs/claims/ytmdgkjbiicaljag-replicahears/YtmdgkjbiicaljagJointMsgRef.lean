/- The document's heard, at a Give. -/
import Derived.Test.YtmdgkjbiicaljagHeardGiveA
import Derived.Test.YtmdgkjbiicaljagHeardGiveB
import Derived.Test.YtmdgkjbiicaljagJointHearChk
import Derived.Test.YtmdgkjbiicaljagJointKeptRef
import Derived.Deep.DeepCutAuto
namespace Go.Proofs.Ytmdgkjbiicaljag
open Go.RowKit
set_option linter.unusedVariables false

theorem heardGive_any (b B : Nat) (R : ReplM) (M : MsgM) (u : Value) (w : World) (h : HeldAt w b B R) (hm : MsgAt w u M) (hk : M.kind = 4) (hf : ReplFits R) (hmf : TextsIn M.log) (hws : R.wants.length = 3) (hgs : R.gives.length = 3) (hgn : R.given.length = 3) (hme : 0 ≤ R.me) (hme' : R.me < 3) (hf0 : 0 ≤ M.frm) (hf1 : M.frm ≤ 2) (hB : B ≤ w.heap.size) (hst : ∀ W, Beside B b w W → MsgAt W u M) :
    Calls Try.prog 27 #[.pointer (some ⟨b, 0, none⟩), u] w (GoesTo b B (giveR (wishR R M) M) (wishL R M ++ giveL (wishR R M) M) w) := by
  by_cases hv : R.kept.view < M.view
  · have hw : wishes R M = true := by unfold wishes; rw [hk, decide_eq_true hv]; rfl
    unfold wishR wishL
    rw [if_pos hw, if_pos hw]
    exact heardGiveA_any b B R M u w h hm hk hf hmf hws hgs hgn hme hme' hf0 hf1 hB hst hv
  · have hw : ¬ wishes R M = true := by unfold wishes; rw [decide_eq_false hv, Bool.and_false]; simp
    unfold wishR wishL
    rw [if_neg hw, if_neg hw]
    exact heardGiveB_any b B R M u w h hm hk hf hmf hws hgs hgn hme hme' hf0 hf1 hB hst hv

end Go.Proofs.Ytmdgkjbiicaljag

/- The document's answer MessageFault. -/
namespace Go.Proofs.Ytmdgkjbiicaljag
open Go.RowKit
set_option linter.unusedVariables false
set_option linter.unusedSimpArgs false

set_option maxRecDepth 4000 in
set_option maxHeartbeats 8000000 in
theorem msgFaultOf_any (M : MsgM) (v : Value) (w : World) (h : MsgAt w v M) :
    Calls Try.prog 26 #[v] w fun e w' => e = .returned (.int .i64 (msgFault M)) ∧ Below w.heap.size w w' := by
  have HF : Hid (msgFault M = if 1 ≤ M.kind ∧ M.kind ≤ 4 then (if msgRange M = true then (if msgForm M = true then keptFault (msgKept M) else 4) else 2) else 3) := rfl
  have HRG : Hid (msgRange M = (((decide (0 ≤ M.frm) && decide (M.frm ≤ 2)) && (decide (0 ≤ M.dst) && decide (M.dst ≤ 2))) && (decide (M.frm ≠ M.dst) && ((decide (0 ≤ M.view) && decide (M.view ≤ 1048576)) && (decide (0 ≤ M.n) && decide (M.n ≤ 60)))))) := rfl
  obtain ⟨T1, H1⟩ : ∃ T1, Hid (T1 = ((decide (M.kind ≠ 4) && decide (M.normal ≠ 0)) || (decide (M.kind ≠ 2) && decide (M.n ≠ 0)))) := ⟨_, rfl⟩
  obtain ⟨T2, H2⟩ : ∃ T2, Hid (T2 = ((decide (M.kind = 2) || decide (M.kind = 3)) && (decide (M.commit ≠ 0) || decide (M.log.length ≠ 0)))) := ⟨_, rfl⟩
  obtain ⟨T3, H3⟩ : ∃ T3, Hid (T3 = ((decide (M.kind = 1) && decide (M.frm ≠ M.view.tmod 3)) || ((decide (M.kind = 2) || decide (M.kind = 4)) && decide (M.dst ≠ M.view.tmod 3)))) := ⟨_, rfl⟩
  have HFM : Hid (msgForm M = (!T1 && (!T2 && !T3))) := by unfold Hid; rw [H1.out, H2.out, H3.out]; rfl
  obtain ⟨vl, rfl, hs⟩ := h
  have HST : Hid (∀ W, Below w.heap.size w W → Calls _ _ _ W _) := fun W hW => keptFaultOf_any (msgKept M) _ W ⟨vl, rfl, hs.below hW⟩
  obtain ⟨a, c, rfl, hl, _⟩ := hs
  generalize msgFault M = X at *
  generalize msgRange M = RG at *
  generalize msgForm M = FM at *
  generalize keptFault (msgKept M) = Z at *
  obtain ⟨kd, fr, ds, vi, nm, ct, n, l⟩ := M
  simp only [msgCells] at *
  simp only [msgKept] at HST
  have b0 := Box.new w 31 [.int .i64 kd, .int .i64 fr, .int .i64 ds, .int .i64 vi, .int .i64 nm, .int .i64 ct, .int .i64 n, .slice a l.length c]
  have HB : Hid (Below w.heap.size w _) := below_alloc w (.cells #[.int .i64 kd, .int .i64 fr, .int .i64 ds, .int .i64 vi, .int .i64 nm, .int .i64 ct, .int .i64 n, .slice a l.length c] 31)
  obtain ⟨w0, hw0⟩ : ∃ w0, w0 = w.alloc (.cells #[.int .i64 kd, .int .i64 fr, .int .i64 ds, .int .i64 vi, .int .i64 nm, .int .i64 ct, .int .i64 n, .slice a l.length c] 31) := ⟨_, rfl⟩
  have I0 : Hid (∀ W, Calls _ _ _ W _) := fun W => in_any kd 1 4 W
  have I1 : Hid (∀ W, Calls _ _ _ W _) := fun W => in_any fr 0 2 W
  have I2 : Hid (∀ W, Calls _ _ _ W _) := fun W => in_any ds 0 2 W
  have I3 : Hid (∀ W, Calls _ _ _ W _) := fun W => in_any vi 0 1048576 W
  have I4 : Hid (∀ W, Calls _ _ _ W _) := fun W => in_any n 0 60 W
  by_cases hk : 1 ≤ kd ∧ kd ≤ 4
  case neg =>
    have HX : Hid (X = 3) := by unfold Hid; rw [HF.out, if_neg hk]
    have e0 : (decide (1 ≤ kd) && decide (kd ≤ 4)) = false := by simp; omega
    rw [e0] at I0
    clear HF HRG HFM H1 H2 H3 HST hk e0
    go_enter Try.func26, Try.ntmps26
    go_upto_region 1 with fail
    rw [← hw0] at b0 HB ⊢
    clear hw0
    have x0 := b0.cell 0 _ rfl
    have x1 := b0.cell 1 _ rfl
    have x2 := b0.cell 2 _ rfl
    have x3 := b0.cell 3 _ rfl
    have x4 := b0.cell 4 _ rfl
    have x5 := b0.cell 5 _ rfl
    have x6 := b0.cell 6 _ rfl
    have x7 := b0.cell 7 _ rfl
    have HB0 : Hid (Box _ _ _ _) := b0
    clear b0
    go_wp2_with fail
    refine (I0.out _).mono ?_
    rintro e w1 ⟨rfl, rfl⟩
    go_wp2_with fail
    go_ret
    exact ⟨by rw [HX.out]; rfl, HB.out⟩
  have HG : Hid (X = if RG = true then (if FM = true then Z else 4) else 2) := by unfold Hid; rw [HF.out, if_pos hk]
  have HKD : Hid (kd = 1 ∨ kd = 2 ∨ kd = 3 ∨ kd = 4) := kinds4 hk
  have e0 : (decide (1 ≤ kd) && decide (kd ≤ 4)) = true := by simp; omega
  rw [e0] at I0
  clear HF hk e0
  have bad : RG = false → Hid (X = 2) := fun e => by unfold Hid; rw [HG.out, e]; rfl
  by_cases cI1 : 0 ≤ fr ∧ fr ≤ 2
  case neg =>
    have HX := bad (by rw [HRG.out]; simp; omega)
    have e : (decide (0 ≤ fr) && decide (fr ≤ 2)) = false := by simp; omega
    rw [e] at I1
    clear HG HRG bad HFM H1 H2 H3 HST cI1 e
    go_enter Try.func26, Try.ntmps26
    go_upto_region 1 with fail
    rw [← hw0] at b0 HB ⊢
    clear hw0
    have x0 := b0.cell 0 _ rfl
    have x1 := b0.cell 1 _ rfl
    have x2 := b0.cell 2 _ rfl
    have x3 := b0.cell 3 _ rfl
    have x4 := b0.cell 4 _ rfl
    have x5 := b0.cell 5 _ rfl
    have x6 := b0.cell 6 _ rfl
    have x7 := b0.cell 7 _ rfl
    have HB0 : Hid (Box _ _ _ _) := b0
    clear b0
    go_wp2_with fail
    refine (I0.out _).mono ?_
    rintro e w1 ⟨rfl, rfl⟩
    go_wp2_with fail
    refine (I1.out _).mono ?_
    rintro e w1 ⟨rfl, rfl⟩
    go_wp2_with fail
    go_ret
    exact ⟨by rw [HX.out]; rfl, HB.out⟩
  have eI1 : (decide (0 ≤ fr) && decide (fr ≤ 2)) = true := by simp; omega
  rw [eI1] at I1
  by_cases cI2 : 0 ≤ ds ∧ ds ≤ 2
  case neg =>
    have HX := bad (by rw [HRG.out]; simp; omega)
    have e : (decide (0 ≤ ds) && decide (ds ≤ 2)) = false := by simp; omega
    rw [e] at I2
    clear HG HRG bad HFM H1 H2 H3 HST cI2 e
    go_enter Try.func26, Try.ntmps26
    go_upto_region 1 with fail
    rw [← hw0] at b0 HB ⊢
    clear hw0
    have x0 := b0.cell 0 _ rfl
    have x1 := b0.cell 1 _ rfl
    have x2 := b0.cell 2 _ rfl
    have x3 := b0.cell 3 _ rfl
    have x4 := b0.cell 4 _ rfl
    have x5 := b0.cell 5 _ rfl
    have x6 := b0.cell 6 _ rfl
    have x7 := b0.cell 7 _ rfl
    have HB0 : Hid (Box _ _ _ _) := b0
    clear b0
    go_wp2_with fail
    refine (I0.out _).mono ?_
    rintro e w1 ⟨rfl, rfl⟩
    go_wp2_with fail
    refine (I1.out _).mono ?_
    rintro e w1 ⟨rfl, rfl⟩
    go_wp2_with fail
    refine (I2.out _).mono ?_
    rintro e w1 ⟨rfl, rfl⟩
    go_wp2_with fail
    go_ret
    exact ⟨by rw [HX.out]; rfl, HB.out⟩
  have eI2 : (decide (0 ≤ ds) && decide (ds ≤ 2)) = true := by simp; omega
  rw [eI2] at I2
  rcases eq_facts fr ds with ⟨c3, e3, e4⟩ | ⟨c3, e3, e4⟩
  · have HX := bad (by rw [HRG.out]; simp; omega)
    clear HG HRG bad HFM H1 H2 H3 HST c3 cI1 cI2 eI1 eI2
    go_enter Try.func26, Try.ntmps26
    go_upto_region 1 with fail
    rw [← hw0] at b0 HB ⊢
    clear hw0
    have x0 := b0.cell 0 _ rfl
    have x1 := b0.cell 1 _ rfl
    have x2 := b0.cell 2 _ rfl
    have x3 := b0.cell 3 _ rfl
    have x4 := b0.cell 4 _ rfl
    have x5 := b0.cell 5 _ rfl
    have x6 := b0.cell 6 _ rfl
    have x7 := b0.cell 7 _ rfl
    have HB0 : Hid (Box _ _ _ _) := b0
    clear b0
    go_wp2_with fail
    refine (I0.out _).mono ?_
    rintro e w1 ⟨rfl, rfl⟩
    go_wp2_with fail
    refine (I1.out _).mono ?_
    rintro e w1 ⟨rfl, rfl⟩
    go_wp2_with fail
    refine (I2.out _).mono ?_
    rintro e w1 ⟨rfl, rfl⟩
    go_wp2_with fail
    go_ret
    exact ⟨by rw [HX.out]; rfl, HB.out⟩
  by_cases cI3 : 0 ≤ vi ∧ vi ≤ 1048576
  case neg =>
    have HX := bad (by rw [HRG.out]; simp; omega)
    have e : (decide (0 ≤ vi) && decide (vi ≤ 1048576)) = false := by simp; omega
    rw [e] at I3
    clear HG HRG bad HFM H1 H2 H3 HST cI3 e cI1 cI2 eI1 eI2 c3
    go_enter Try.func26, Try.ntmps26
    go_upto_region 1 with fail
    rw [← hw0] at b0 HB ⊢
    clear hw0
    have x0 := b0.cell 0 _ rfl
    have x1 := b0.cell 1 _ rfl
    have x2 := b0.cell 2 _ rfl
    have x3 := b0.cell 3 _ rfl
    have x4 := b0.cell 4 _ rfl
    have x5 := b0.cell 5 _ rfl
    have x6 := b0.cell 6 _ rfl
    have x7 := b0.cell 7 _ rfl
    have HB0 : Hid (Box _ _ _ _) := b0
    clear b0
    go_wp2_with fail
    refine (I0.out _).mono ?_
    rintro e w1 ⟨rfl, rfl⟩
    go_wp2_with fail
    refine (I1.out _).mono ?_
    rintro e w1 ⟨rfl, rfl⟩
    go_wp2_with fail
    refine (I2.out _).mono ?_
    rintro e w1 ⟨rfl, rfl⟩
    go_wp2_with fail
    refine (I3.out _).mono ?_
    rintro e w1 ⟨rfl, rfl⟩
    go_wp2_with fail
    go_ret
    exact ⟨by rw [HX.out]; rfl, HB.out⟩
  have eI3 : (decide (0 ≤ vi) && decide (vi ≤ 1048576)) = true := by simp; omega
  rw [eI3] at I3
  by_cases cI4 : 0 ≤ n ∧ n ≤ 60
  case neg =>
    have HX := bad (by rw [HRG.out]; simp; omega)
    have e : (decide (0 ≤ n) && decide (n ≤ 60)) = false := by simp; omega
    rw [e] at I4
    clear HG HRG bad HFM H1 H2 H3 HST cI4 e cI1 cI2 eI1 eI2 c3
    go_enter Try.func26, Try.ntmps26
    go_upto_region 1 with fail
    rw [← hw0] at b0 HB ⊢
    clear hw0
    have x0 := b0.cell 0 _ rfl
    have x1 := b0.cell 1 _ rfl
    have x2 := b0.cell 2 _ rfl
    have x3 := b0.cell 3 _ rfl
    have x4 := b0.cell 4 _ rfl
    have x5 := b0.cell 5 _ rfl
    have x6 := b0.cell 6 _ rfl
    have x7 := b0.cell 7 _ rfl
    have HB0 : Hid (Box _ _ _ _) := b0
    clear b0
    go_wp2_with fail
    refine (I0.out _).mono ?_
    rintro e w1 ⟨rfl, rfl⟩
    go_wp2_with fail
    refine (I1.out _).mono ?_
    rintro e w1 ⟨rfl, rfl⟩
    go_wp2_with fail
    refine (I2.out _).mono ?_
    rintro e w1 ⟨rfl, rfl⟩
    go_wp2_with fail
    refine (I3.out _).mono ?_
    rintro e w1 ⟨rfl, rfl⟩
    go_wp2_with fail
    refine (I4.out _).mono ?_
    rintro e w1 ⟨rfl, rfl⟩
    go_wp2_with fail
    go_ret
    exact ⟨by rw [HX.out]; rfl, HB.out⟩
  have eI4 : (decide (0 ≤ n) && decide (n ≤ 60)) = true := by simp; omega
  rw [eI4] at I4
  have HX : Hid (X = if (!T1 && (!T2 && !T3)) = true then Z else 4) := by
    have : RG = true := by rw [HRG.out]; simp; omega
    unfold Hid
    rw [HG.out, this, HFM.out]
    rfl
  clear HG HRG bad HFM cI1 cI2 eI1 eI2 c3 eI3 cI3 eI4 cI4
  go_enter Try.func26, Try.ntmps26
  go_upto_region 1 with fail
  rw [← hw0] at b0 HB ⊢
  clear hw0
  have x0 := b0.cell 0 _ rfl
  have x1 := b0.cell 1 _ rfl
  have x2 := b0.cell 2 _ rfl
  have x3 := b0.cell 3 _ rfl
  have x4 := b0.cell 4 _ rfl
  have x5 := b0.cell 5 _ rfl
  have x6 := b0.cell 6 _ rfl
  have x7 := b0.cell 7 _ rfl
  have HB0 : Hid (Box _ _ _ _) := b0
  clear b0
  go_wp2_with fail
  refine (I0.out _).mono ?_
  rintro e w1 ⟨rfl, rfl⟩
  go_wp2_with fail
  refine (I1.out _).mono ?_
  rintro e w1 ⟨rfl, rfl⟩
  go_wp2_with fail
  refine (I2.out _).mono ?_
  rintro e w1 ⟨rfl, rfl⟩
  go_wp2_with fail
  refine (I3.out _).mono ?_
  rintro e w1 ⟨rfl, rfl⟩
  go_wp2_with fail
  refine (I4.out _).mono ?_
  rintro e w1 ⟨rfl, rfl⟩
  go_upto_region 5 with fail
  go_cut [53] (fun s wx => s = .bool T1 ∧ w1 = wx)
  case first =>
    clear HX HST H2 H3 I0 I1 I2 I3 I4
    rcases HKD.out with rfl | rfl | rfl | rfl
    all_goals rcases eq_facts nm 0 with ⟨rfl, p1, p2⟩ | ⟨q1, p1, p2⟩
    all_goals rcases eq_facts n 0 with ⟨rfl, p3, p4⟩ | ⟨q3, p3, p4⟩
    all_goals
      go_wp2_with fail
      go_meet
      refine ⟨?_, rfl⟩
      rw [H1.out]
      clear HB HB0
      simp [*]
  case rest =>
    obtain ⟨rfl, rfl⟩ := hcut
    cases T1
    case true =>
      go_wp2_with fail
      go_ret
      exact ⟨by rw [HX.out]; rfl, HB.out⟩
    go_upto_region 7 with fail
    go_cut [72] (fun s wx => s = .bool T2 ∧ w1 = wx)
    case first =>
      clear HX HST H1 H3 I0 I1 I2 I3 I4
      rcases HKD.out with rfl | rfl | rfl | rfl
      all_goals rcases eq_facts ct 0 with ⟨rfl, p1, p2⟩ | ⟨q1, p1, p2⟩
      all_goals
        go_wp2_with fail
        go_meet
        refine ⟨?_, rfl⟩
        rw [H2.out]
        clear HB HB0
        try simp [*]
        try (cases l <;> simp)
        try omega
    case rest =>
      obtain ⟨rfl, rfl⟩ := hcut
      cases T2
      case true =>
        go_wp2_with fail
        go_ret
        exact ⟨by rw [HX.out]; rfl, HB.out⟩
      go_upto_region 9 with fail
      go_cut [101] (fun s wx => s = .bool T3 ∧ w1 = wx)
      case first =>
        clear HX HST H1 H2 I0 I1 I2 I3 I4
        rcases HKD.out with rfl | rfl | rfl | rfl
        all_goals rcases eq_facts fr (vi.tmod 3) with ⟨q1, p1, p2⟩ | ⟨q1, p1, p2⟩
        all_goals rcases eq_facts ds (vi.tmod 3) with ⟨q3, p3, p4⟩ | ⟨q3, p3, p4⟩
        all_goals
          clear q1 q3
          go_wp2_with fail
          go_meet
          refine ⟨?_, rfl⟩
          rw [H3.out]
          clear HB HB0
          simp_all
      case rest =>
        obtain ⟨rfl, rfl⟩ := hcut
        cases T3
        case true =>
          go_wp2_with fail
          go_ret
          exact ⟨by rw [HX.out]; rfl, HB.out⟩
        go_wp2_with fail
        refine (HST.out _ HB.out).mono ?_
        rintro e w5 ⟨rfl, hb5⟩
        have HB5 : Hid (Below w.heap.size w w5) := Below.far HB.out hb5
        clear hb5 x0 x1 x2 x3 x4 x5 x6 x7
        go_wp2_with fail
        go_ret
        exact ⟨by rw [HX.out]; rfl, HB5.out⟩

end Go.Proofs.Ytmdgkjbiicaljag
