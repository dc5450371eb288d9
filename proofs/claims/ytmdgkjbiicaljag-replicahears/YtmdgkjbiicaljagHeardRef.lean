/- The document's heard, whatever it hears; HeardOf. -/
import Derived.Test.YtmdgkjbiicaljagJointWantFar
import Derived.Test.YtmdgkjbiicaljagHeardWant
import Derived.Test.YtmdgkjbiicaljagJointMsgRef
import Derived.Test.YtmdgkjbiicaljagHearGo
namespace Go.Proofs.Ytmdgkjbiicaljag
open Go.RowKit
set_option linter.unusedVariables false
set_option linter.unusedSimpArgs false

theorem heard_any (b B : Nat) (R : ReplM) (M : MsgM) (u : Value) (w : World) (h : HeldAt w b B R) (hm : MsgAt w u M) (hst : ∀ W, Beside B b w W → MsgAt W u M) (hf : ReplFits R) (hmf : TextsIn M.log) (hr : ReplMay R) (hM : MsgMay M) (hB : B ≤ w.heap.size) :
    Calls Try.prog 27 #[.pointer (some ⟨b, 0, none⟩), u] w (GoesTo b B (hearR' R M) (hearL' R M) w) := by
  have hme0 := hr.me0
  have hme1 := hr.me1
  have hf0 := hM.frm
  unfold hearR' hearL'
  by_cases k1 : M.kind = 1
  · rw [if_pos k1, if_pos k1]
    exact heardLead_any b B R M u w h hm k1 hf hmf hB
  by_cases k2 : M.kind = 2
  · rw [if_neg k1, if_neg k1, if_pos k2, if_pos k2]
    exact heardHas_any b B R M u w h hm k2 hf hr.hl hf0.1 hf0.2 hB
  by_cases k3 : M.kind = 3
  · rw [if_neg k1, if_neg k1, if_neg k2, if_neg k2, if_pos k3, if_pos k3]
    exact heardWant_any b B R M u w h hm k3 hf hmf hr.wl hr.gl hr.nl hme0 (by omega) hf0.1 hf0.2 hB
  · have k4 : M.kind = 4 := by have := hM.kind; omega
    rw [if_neg k1, if_neg k1, if_neg k2, if_neg k2, if_neg k3, if_neg k3]
    exact heardGive_any b B R M u w h hm k4 hf hmf hr.wl hr.gl hr.nl hme0 (by omega) hf0.1 hf0.2 hB hst

set_option maxRecDepth 4000 in
set_option maxHeartbeats 16000000 in
theorem heardOf_any (R : ReplM) (M : MsgM) (v u : Value) (w : World) (h : ReplAt w v R) (hf : ReplFits R) (hm : MsgAt w u M) (hzM : TextsIn M.log) :
    Calls Try.prog 9 #[v, u] w fun e w' => Answers w e w' (hearR R M) (hearL R M) (hearE R M) := by
  have HC : Hid (∀ W, Below w.heap.size w W → Calls _ _ _ W _) := fun W hW => replFaultOf_any R _ W (h.below hW)
  have HCM : Hid (∀ W, Below w.heap.size w W → Calls _ _ _ W _) := fun W hW => msgFaultOf_any M _ W (hm.below hW)
  have HD : Hid (∀ W, Below w.heap.size w W → Calls _ _ _ W _) := fun W hW => replicaCopyOf_any R _ W (h.below hW) hf
  have HMA : Hid (∀ W, Below w.heap.size w W → MsgAt W u M) := fun W hW => hm.below hW
  have HZM : Hid (TextsIn M.log) := hzM
  have NZ : Hid (¬ hearE R M = 0 → hearR R M = zeroRepl ∧ hearL R M = []) := fun hE => ⟨by unfold hearR; rw [if_neg hE], by unfold hearL; rw [if_neg hE]⟩
  have NY : Hid (hearE R M = 0 → hearR R M = hearR' R M ∧ hearL R M = hearL' R M ∧ ReplMay R ∧ MsgMay M) := fun hE => by
    obtain ⟨h1, h2, _⟩ := hearE_of R M hE
    exact ⟨by unfold hearR; rw [if_pos hE], by unfold hearL; rw [if_pos hE], h1, h2⟩
  have NE : Hid (hearE R M = if replFault R ≠ 0 then replFault R else if msgFault M ≠ 0 then msgFault M else if M.dst ≠ R.me then 6 else if M.view < R.kept.view then 9 else 0) := rfl
  generalize hearE R M = EE at *
  generalize hearR R M = RR at *
  generalize hearL R M = LL at *
  obtain ⟨vl, vh, vw, vg, vn, rfl, hl, hh, hw, hg, hn⟩ := h
  obtain ⟨al, cl, rfl, _, _⟩ := hl
  obtain ⟨ah, ch, rfl, _, _⟩ := hh
  obtain ⟨aw, cw, rfl, _, _⟩ := hw
  obtain ⟨ag, cg, rfl, _, _⟩ := hg
  obtain ⟨an, cn, rfl, _, _⟩ := hn
  obtain ⟨vm, rfl, hs⟩ := hm
  obtain ⟨am, cm, rfl, _, _⟩ := hs
  simp only [replCells, msgCells] at *
  obtain ⟨b0, b1, b2, hb⟩ := boxes3 w 29 31 29 [.int .i64 R.me, .int .i64 R.kept.view, .int .i64 R.kept.normal, .bool R.kept.calm, .slice al R.kept.log.length cl, .int .i64 R.kept.commit, .slice ah R.hav.length ch, .slice aw R.wants.length cw, .slice ag R.gives.length cg, .slice an R.given.length cn] [.int .i64 M.kind, .int .i64 M.frm, .int .i64 M.dst, .int .i64 M.view, .int .i64 M.normal, .int .i64 M.commit, .int .i64 M.n, .slice am M.log.length cm] [.int .i64 0, .int .i64 0, .int .i64 0, .bool false, .slice none 0 0, .int .i64 0, .slice none 0 0, .slice none 0 0, .slice none 0 0, .slice none 0 0]
  obtain ⟨w0, hw0⟩ : ∃ w0, w0 = ((w.alloc (.cells #[.int .i64 R.me, .int .i64 R.kept.view, .int .i64 R.kept.normal, .bool R.kept.calm, .slice al R.kept.log.length cl, .int .i64 R.kept.commit, .slice ah R.hav.length ch, .slice aw R.wants.length cw, .slice ag R.gives.length cg, .slice an R.given.length cn] 29)).alloc (.cells #[.int .i64 M.kind, .int .i64 M.frm, .int .i64 M.dst, .int .i64 M.view, .int .i64 M.normal, .int .i64 M.commit, .int .i64 M.n, .slice am M.log.length cm] 31)).alloc (.cells #[.int .i64 0, .int .i64 0, .int .i64 0, .bool false, .slice none 0 0, .int .i64 0, .slice none 0 0, .slice none 0 0, .slice none 0 0, .slice none 0 0] 29) := ⟨_, rfl⟩
  have hsz : w0.heap.size = w.heap.size + 1 + 1 + 1 := by rw [hw0]; simp
  go_enter Try.func9, Try.ntmps9
  go_upto_region 1 with fail
  rw [← hw0] at b0 b1 b2 hb ⊢
  clear hw0
  have HB0 : Hid (Box w0 w.heap.size _ _) := b0
  have HB1 : Hid (Box w0 (w.heap.size + 1) _ _) := b1
  have HBR : Hid (Box w0 (w.heap.size + 2) _ _) := b2
  have HBW : Hid (Below w.heap.size w w0) := hb
  have HSZ : Hid (w0.heap.size = w.heap.size + 1 + 1 + 1) := hsz
  have x0 := b0.cell 0 _ rfl
  have x1 := b0.cell 1 _ rfl
  have x2 := b0.cell 2 _ rfl
  have x3 := b0.cell 3 _ rfl
  have x4 := b0.cell 4 _ rfl
  have x5 := b0.cell 5 _ rfl
  have x6 := b0.cell 6 _ rfl
  have x7 := b0.cell 7 _ rfl
  have x8 := b0.cell 8 _ rfl
  have x9 := b0.cell 9 _ rfl
  clear b0 b1 b2 hb hsz
  go_wp2_with fail
  refine (HC.out _ HBW.out).mono ?_
  rintro e w1 ⟨rfl, hb1⟩
  have HB2 : Hid (Below w0.heap.size w0 w1) := hb1
  have r0 := HB0.out.below hb1 HB0.out.lt
  have r1 := HB1.out.below hb1 HB1.out.lt
  have r2 := HBR.out.below hb1 HBR.out.lt
  clear hb1 x0 x1 x2 x3 x4 x5 x6 x7 x8 x9 HC
  have x0 := r0.cell 0 _ rfl
  have x1 := r0.cell 1 _ rfl
  have x2 := r0.cell 2 _ rfl
  have x3 := r0.cell 3 _ rfl
  have x4 := r0.cell 4 _ rfl
  have x5 := r0.cell 5 _ rfl
  have x6 := r0.cell 6 _ rfl
  have x7 := r0.cell 7 _ rfl
  have x8 := r0.cell 8 _ rfl
  have x9 := r0.cell 9 _ rfl
  have z0 := r1.cell 0 _ rfl
  have z1 := r1.cell 1 _ rfl
  have z2 := r1.cell 2 _ rfl
  have z3 := r1.cell 3 _ rfl
  have z4 := r1.cell 4 _ rfl
  have z5 := r1.cell 5 _ rfl
  have z6 := r1.cell 6 _ rfl
  have z7 := r1.cell 7 _ rfl
  have y0 := r2.cell 0 _ rfl
  have y1 := r2.cell 1 _ rfl
  have y2 := r2.cell 2 _ rfl
  have y3 := r2.cell 3 _ rfl
  have y4 := r2.cell 4 _ rfl
  have y5 := r2.cell 5 _ rfl
  have y6 := r2.cell 6 _ rfl
  have y7 := r2.cell 7 _ rfl
  have y8 := r2.cell 8 _ rfl
  have y9 := r2.cell 9 _ rfl
  have f0 := r2.frozen 0
  have f1 := r2.frozen 1
  have f2 := r2.frozen 2
  have f3 := r2.frozen 3
  have f4 := r2.frozen 4
  have f5 := r2.frozen 5
  have f6 := r2.frozen 6
  have f7 := r2.frozen 7
  have f8 := r2.frozen 8
  have f9 := r2.frozen 9
  have HR0 : Hid (Box w1 w.heap.size _ _) := r0
  have HRM : Hid (Box w1 (w.heap.size + 1) _ _) := r1
  have HR1 : Hid (Box w1 (w.heap.size + 2) _ _) := r2
  have HBE : Hid (Below w.heap.size w w1) := Below.far HBW.out HB2.out
  clear r0 r1 r2
  have HFT : Hid (ReplFits R) := hf
  clear hf hzM
  by_cases hE : replFault R = 0
  case neg =>
    have HEE : Hid (EE = replFault R) := by unfold Hid; rw [NE.out, if_pos hE]
    obtain ⟨e2, e3⟩ := NZ.out (by rw [HEE.out]; exact hE)
    subst e2 e3
    have hEE : ¬ EE = 0 := by rw [HEE.out]; exact hE
    rw [← HEE.out]
    clear NZ NY NE HD HCM HMA HZM hE HEE
    go_wp2_with fail
    have key : ∀ w4, w4 = setAll w1 (w.heap.size + 2) 0 [.int .i64 0, .int .i64 0, .int .i64 0, .bool false, .slice none 0 0, .int .i64 0, .slice none 0 0, .slice none 0 0, .slice none 0 0, .slice none 0 0] → Hid (Box w4 (w.heap.size + 2) 29 [.int .i64 0, .int .i64 0, .int .i64 0, .bool false, .slice none 0 0, .int .i64 0, .slice none 0 0, .slice none 0 0, .slice none 0 0, .slice none 0 0] ∧ Below w.heap.size w w4) := by
      intro w4 e4
      subst e4
      exact ⟨setAll_box HR1.out _ rfl, (setAll_beside _ _ _ _ (Beside.of HBE.out)).below (Nat.le_refl _) (by omega)⟩
    have key := key _ rfl
    simp only [setAll] at key
    generalize ((((((((((w1.setCell ⟨w.heap.size + 2, 0, none⟩ (.int .i64 0)).setCell ⟨w.heap.size + 2, 1, none⟩ (.int .i64 0)).setCell ⟨w.heap.size + 2, 2, none⟩ (.int .i64 0)).setCell ⟨w.heap.size + 2, 3, none⟩ (.bool false)).setCell ⟨w.heap.size + 2, 4, none⟩ (.slice none 0 0)).setCell ⟨w.heap.size + 2, 5, none⟩ (.int .i64 0)).setCell ⟨w.heap.size + 2, 6, none⟩ (.slice none 0 0)).setCell ⟨w.heap.size + 2, 7, none⟩ (.slice none 0 0)).setCell ⟨w.heap.size + 2, 8, none⟩ (.slice none 0 0)).setCell ⟨w.heap.size + 2, 9, none⟩ (.slice none 0 0)) = w4 at key ⊢
    clear y0 y1 y2 y3 y4 y5 y6 y7 y8 y9 f0 f1 f2 f3 f4 f5 f6 f7 f8 f9
    have hR := key.out.1
    have y0 := hR.cell 0 _ rfl
    have y1 := hR.cell 1 _ rfl
    have y2 := hR.cell 2 _ rfl
    have y3 := hR.cell 3 _ rfl
    have y4 := hR.cell 4 _ rfl
    have y5 := hR.cell 5 _ rfl
    have y6 := hR.cell 6 _ rfl
    have y7 := hR.cell 7 _ rfl
    have y8 := hR.cell 8 _ rfl
    have y9 := hR.cell 9 _ rfl
    clear hR
    exact bodyPost_ret (v := .tuple #[.agg #[.int .i64 0, .int .i64 0, .int .i64 0, .bool false, .slice none 0 0, .int .i64 0, .slice none 0 0, .slice none 0 0, .slice none 0 0, .slice none 0 0], .slice none 0 0, .int .i64 EE]) (by clear key HR1 HBE; simp [results, Try.results9, go_sem, *]) rfl ⟨_, _, rfl, replNil _ _, msgsNil _ _, key.out.2⟩
  rw [hE]
  clear x0 x1 x2 x3 x4 x5 x6 x7 x8 x9 y0 y1 y2 y3 y4 y5 y6 y7 y8 y9 f0 f1 f2 f3 f4 f5 f6 f7 f8 f9
  go_wp2_with fail
  refine (HCM.out _ HBE.out).mono ?_
  rintro e w1b ⟨rfl, hb1⟩
  have HB2b : Hid (Below w1.heap.size w1 w1b) := hb1
  have r0 := HR0.out.below hb1 HR0.out.lt
  have r1 := HRM.out.below hb1 HRM.out.lt
  have r2 := HR1.out.below hb1 HR1.out.lt
  clear hb1 z0 z1 z2 z3 z4 z5 z6 z7 HCM
  have x0 := r0.cell 0 _ rfl
  have x1 := r0.cell 1 _ rfl
  have x2 := r0.cell 2 _ rfl
  have x3 := r0.cell 3 _ rfl
  have x4 := r0.cell 4 _ rfl
  have x5 := r0.cell 5 _ rfl
  have x6 := r0.cell 6 _ rfl
  have x7 := r0.cell 7 _ rfl
  have x8 := r0.cell 8 _ rfl
  have x9 := r0.cell 9 _ rfl
  have z0 := r1.cell 0 _ rfl
  have z1 := r1.cell 1 _ rfl
  have z2 := r1.cell 2 _ rfl
  have z3 := r1.cell 3 _ rfl
  have z4 := r1.cell 4 _ rfl
  have z5 := r1.cell 5 _ rfl
  have z6 := r1.cell 6 _ rfl
  have z7 := r1.cell 7 _ rfl
  have HR0b : Hid (Box w1b w.heap.size _ _) := r0
  have HRMb : Hid (Box w1b (w.heap.size + 1) _ _) := r1
  have HR1b : Hid (Box w1b (w.heap.size + 2) _ _) := r2
  have HBEb : Hid (Below w.heap.size w w1b) := Below.far HBE.out HB2b.out
  clear r0 r1 HR0 HRM HR1
  by_cases hbad : msgFault M ≠ 0 ∨ M.dst ≠ R.me ∨ M.view < R.kept.view
  · have HEN : Hid (¬ EE = 0 ∧ EE = (if msgFault M ≠ 0 then msgFault M else if M.dst ≠ R.me then 6 else 9)) := by
      have e : EE = (if msgFault M ≠ 0 then msgFault M else if M.dst ≠ R.me then 6 else if M.view < R.kept.view then 9 else 0) := by rw [NE.out, if_neg (by simpa using hE)]
      by_cases q1 : msgFault M ≠ 0
      · rw [if_pos q1] at e ⊢; exact ⟨by rw [e]; exact q1, e⟩
      · by_cases q2 : M.dst ≠ R.me
        · rw [if_neg q1, if_pos q2] at e ⊢; exact ⟨by rw [e]; decide, e⟩
        · have q3 : M.view < R.kept.view := by rcases hbad with h | h | h; exact absurd h q1; exact absurd h q2; exact h
          rw [if_neg q1, if_neg q2, if_pos q3] at e
          rw [if_neg q1, if_neg q2]; exact ⟨by rw [e]; decide, e⟩
    obtain ⟨e2, e3⟩ := NZ.out HEN.out.1
    subst e2 e3
    have y0 := r2.cell 0 _ rfl
    have y1 := r2.cell 1 _ rfl
    have y2 := r2.cell 2 _ rfl
    have y3 := r2.cell 3 _ rfl
    have y4 := r2.cell 4 _ rfl
    have y5 := r2.cell 5 _ rfl
    have y6 := r2.cell 6 _ rfl
    have y7 := r2.cell 7 _ rfl
    have y8 := r2.cell 8 _ rfl
    have y9 := r2.cell 9 _ rfl
    have f0 := r2.frozen 0
    have f1 := r2.frozen 1
    have f2 := r2.frozen 2
    have f3 := r2.frozen 3
    have f4 := r2.frozen 4
    have f5 := r2.frozen 5
    have f6 := r2.frozen 6
    have f7 := r2.frozen 7
    have f8 := r2.frozen 8
    have f9 := r2.frozen 9
    clear r2 NZ NY NE HD HMA HZM hE HR0b HRMb
    by_cases q1 : msgFault M = 0
    · by_cases q2 : M.dst = R.me
      · have q3 : M.view < R.kept.view := by rcases hbad with h | h | h; exact absurd q1 h; exact absurd q2 h; exact h
        have HEE : Hid (EE = 9) := by unfold Hid; rw [HEN.out.2, if_neg (by simpa using q1), if_neg (by simpa using q2)]
        rw [q1]
        have q4 : (M.dst != R.me) = false := by simpa using q2
        obtain rfl : EE = 9 := HEE.out
        clear HEE HEN hbad q1 q2
        go_wp2_with fail
        have key : ∀ w4, w4 = setAll w1b (w.heap.size + 2) 0 [.int .i64 0, .int .i64 0, .int .i64 0, .bool false, .slice none 0 0, .int .i64 0, .slice none 0 0, .slice none 0 0, .slice none 0 0, .slice none 0 0] → Hid (Box w4 (w.heap.size + 2) 29 [.int .i64 0, .int .i64 0, .int .i64 0, .bool false, .slice none 0 0, .int .i64 0, .slice none 0 0, .slice none 0 0, .slice none 0 0, .slice none 0 0] ∧ Below w.heap.size w w4) := by
          intro w4 e4
          subst e4
          exact ⟨setAll_box HR1b.out _ rfl, (setAll_beside _ _ _ _ (Beside.of HBEb.out)).below (Nat.le_refl _) (by omega)⟩
        have key := key _ rfl
        simp only [setAll] at key
        generalize ((((((((((w1b.setCell ⟨w.heap.size + 2, 0, none⟩ (.int .i64 0)).setCell ⟨w.heap.size + 2, 1, none⟩ (.int .i64 0)).setCell ⟨w.heap.size + 2, 2, none⟩ (.int .i64 0)).setCell ⟨w.heap.size + 2, 3, none⟩ (.bool false)).setCell ⟨w.heap.size + 2, 4, none⟩ (.slice none 0 0)).setCell ⟨w.heap.size + 2, 5, none⟩ (.int .i64 0)).setCell ⟨w.heap.size + 2, 6, none⟩ (.slice none 0 0)).setCell ⟨w.heap.size + 2, 7, none⟩ (.slice none 0 0)).setCell ⟨w.heap.size + 2, 8, none⟩ (.slice none 0 0)).setCell ⟨w.heap.size + 2, 9, none⟩ (.slice none 0 0)) = w4 at key ⊢
        clear y0 y1 y2 y3 y4 y5 y6 y7 y8 y9 f0 f1 f2 f3 f4 f5 f6 f7 f8 f9
        have hR := key.out.1
        have y0 := hR.cell 0 _ rfl
        have y1 := hR.cell 1 _ rfl
        have y2 := hR.cell 2 _ rfl
        have y3 := hR.cell 3 _ rfl
        have y4 := hR.cell 4 _ rfl
        have y5 := hR.cell 5 _ rfl
        have y6 := hR.cell 6 _ rfl
        have y7 := hR.cell 7 _ rfl
        have y8 := hR.cell 8 _ rfl
        have y9 := hR.cell 9 _ rfl
        clear hR
        exact bodyPost_ret (v := .tuple #[.agg #[.int .i64 0, .int .i64 0, .int .i64 0, .bool false, .slice none 0 0, .int .i64 0, .slice none 0 0, .slice none 0 0, .slice none 0 0, .slice none 0 0], .slice none 0 0, .int .i64 9]) (by clear key HR1b HBEb; simp [results, Try.results9, go_sem, *]) rfl ⟨_, _, rfl, replNil _ _, msgsNil _ _, key.out.2⟩
      · have HEE : Hid (EE = 6) := by unfold Hid; rw [HEN.out.2, if_neg (by simpa using q1), if_pos q2]
        rw [q1]
        have q4 : (M.dst != R.me) = true := by simpa using q2
        obtain rfl : EE = 6 := HEE.out
        clear HEE HEN hbad q1
        go_wp2_with fail
        have key : ∀ w4, w4 = setAll w1b (w.heap.size + 2) 0 [.int .i64 0, .int .i64 0, .int .i64 0, .bool false, .slice none 0 0, .int .i64 0, .slice none 0 0, .slice none 0 0, .slice none 0 0, .slice none 0 0] → Hid (Box w4 (w.heap.size + 2) 29 [.int .i64 0, .int .i64 0, .int .i64 0, .bool false, .slice none 0 0, .int .i64 0, .slice none 0 0, .slice none 0 0, .slice none 0 0, .slice none 0 0] ∧ Below w.heap.size w w4) := by
          intro w4 e4
          subst e4
          exact ⟨setAll_box HR1b.out _ rfl, (setAll_beside _ _ _ _ (Beside.of HBEb.out)).below (Nat.le_refl _) (by omega)⟩
        have key := key _ rfl
        simp only [setAll] at key
        generalize ((((((((((w1b.setCell ⟨w.heap.size + 2, 0, none⟩ (.int .i64 0)).setCell ⟨w.heap.size + 2, 1, none⟩ (.int .i64 0)).setCell ⟨w.heap.size + 2, 2, none⟩ (.int .i64 0)).setCell ⟨w.heap.size + 2, 3, none⟩ (.bool false)).setCell ⟨w.heap.size + 2, 4, none⟩ (.slice none 0 0)).setCell ⟨w.heap.size + 2, 5, none⟩ (.int .i64 0)).setCell ⟨w.heap.size + 2, 6, none⟩ (.slice none 0 0)).setCell ⟨w.heap.size + 2, 7, none⟩ (.slice none 0 0)).setCell ⟨w.heap.size + 2, 8, none⟩ (.slice none 0 0)).setCell ⟨w.heap.size + 2, 9, none⟩ (.slice none 0 0)) = w4 at key ⊢
        clear y0 y1 y2 y3 y4 y5 y6 y7 y8 y9 f0 f1 f2 f3 f4 f5 f6 f7 f8 f9
        have hR := key.out.1
        have y0 := hR.cell 0 _ rfl
        have y1 := hR.cell 1 _ rfl
        have y2 := hR.cell 2 _ rfl
        have y3 := hR.cell 3 _ rfl
        have y4 := hR.cell 4 _ rfl
        have y5 := hR.cell 5 _ rfl
        have y6 := hR.cell 6 _ rfl
        have y7 := hR.cell 7 _ rfl
        have y8 := hR.cell 8 _ rfl
        have y9 := hR.cell 9 _ rfl
        clear hR
        exact bodyPost_ret (v := .tuple #[.agg #[.int .i64 0, .int .i64 0, .int .i64 0, .bool false, .slice none 0 0, .int .i64 0, .slice none 0 0, .slice none 0 0, .slice none 0 0, .slice none 0 0], .slice none 0 0, .int .i64 6]) (by clear key HR1b HBEb; simp [results, Try.results9, go_sem, *]) rfl ⟨_, _, rfl, replNil _ _, msgsNil _ _, key.out.2⟩
    · have HEE : Hid (EE = msgFault M) := by unfold Hid; rw [HEN.out.2, if_pos q1]
      have hEE : ¬ EE = 0 := HEN.out.1
      rw [← HEE.out]
      clear HEE HEN hbad q1
      go_wp2_with fail
      have key : ∀ w4, w4 = setAll w1b (w.heap.size + 2) 0 [.int .i64 0, .int .i64 0, .int .i64 0, .bool false, .slice none 0 0, .int .i64 0, .slice none 0 0, .slice none 0 0, .slice none 0 0, .slice none 0 0] → Hid (Box w4 (w.heap.size + 2) 29 [.int .i64 0, .int .i64 0, .int .i64 0, .bool false, .slice none 0 0, .int .i64 0, .slice none 0 0, .slice none 0 0, .slice none 0 0, .slice none 0 0] ∧ Below w.heap.size w w4) := by
        intro w4 e4
        subst e4
        exact ⟨setAll_box HR1b.out _ rfl, (setAll_beside _ _ _ _ (Beside.of HBEb.out)).below (Nat.le_refl _) (by omega)⟩
      have key := key _ rfl
      simp only [setAll] at key
      generalize ((((((((((w1b.setCell ⟨w.heap.size + 2, 0, none⟩ (.int .i64 0)).setCell ⟨w.heap.size + 2, 1, none⟩ (.int .i64 0)).setCell ⟨w.heap.size + 2, 2, none⟩ (.int .i64 0)).setCell ⟨w.heap.size + 2, 3, none⟩ (.bool false)).setCell ⟨w.heap.size + 2, 4, none⟩ (.slice none 0 0)).setCell ⟨w.heap.size + 2, 5, none⟩ (.int .i64 0)).setCell ⟨w.heap.size + 2, 6, none⟩ (.slice none 0 0)).setCell ⟨w.heap.size + 2, 7, none⟩ (.slice none 0 0)).setCell ⟨w.heap.size + 2, 8, none⟩ (.slice none 0 0)).setCell ⟨w.heap.size + 2, 9, none⟩ (.slice none 0 0)) = w4 at key ⊢
      clear y0 y1 y2 y3 y4 y5 y6 y7 y8 y9 f0 f1 f2 f3 f4 f5 f6 f7 f8 f9
      have hR := key.out.1
      have y0 := hR.cell 0 _ rfl
      have y1 := hR.cell 1 _ rfl
      have y2 := hR.cell 2 _ rfl
      have y3 := hR.cell 3 _ rfl
      have y4 := hR.cell 4 _ rfl
      have y5 := hR.cell 5 _ rfl
      have y6 := hR.cell 6 _ rfl
      have y7 := hR.cell 7 _ rfl
      have y8 := hR.cell 8 _ rfl
      have y9 := hR.cell 9 _ rfl
      clear hR
      exact bodyPost_ret (v := .tuple #[.agg #[.int .i64 0, .int .i64 0, .int .i64 0, .bool false, .slice none 0 0, .int .i64 0, .slice none 0 0, .slice none 0 0, .slice none 0 0, .slice none 0 0], .slice none 0 0, .int .i64 EE]) (by clear key HR1b HBEb; simp [results, Try.results9, go_sem, *]) rfl ⟨_, _, rfl, replNil _ _, msgsNil _ _, key.out.2⟩
  · have q1 : msgFault M = 0 := Classical.byContradiction fun h => hbad (Or.inl h)
    have q2 : M.dst = R.me := Classical.byContradiction fun h => hbad (Or.inr (Or.inl h))
    have q3 : ¬ M.view < R.kept.view := fun h => hbad (Or.inr (Or.inr h))
    have HEE : Hid (EE = 0) := by unfold Hid; rw [NE.out, if_neg (by simpa using hE), if_neg (by simpa using q1), if_neg (by simpa using q2), if_neg q3]
    obtain ⟨e1, e2, hmr, hmm⟩ := NY.out HEE.out
    have HRL : Hid (RR = hearR' R M ∧ LL = hearL' R M) := ⟨e1, e2⟩
    have HMY : Hid (ReplMay R ∧ MsgMay M) := ⟨hmr, hmm⟩
    obtain rfl : EE = 0 := HEE.out
    rw [q1]
    have q4 : (M.dst != R.me) = false := by simpa using q2
    clear NZ NY NE HEE e1 e2 hmr hmm hbad q1 q2 hE r2
    go_wp2_with fail
    refine (HD.out _ HBEb.out).mono ?_
    rintro e w2 ⟨v2, rfl, ⟨vl2, vh2, vw2, vg2, vn2, ps2, rfl, ho2⟩, hb2⟩
    obtain ⟨al2, cl2, ah2, ch2, aw2, cw2, ag2, cg2, an2, cn2, rfl, rfl, rfl, rfl, rfl⟩ := ho2.forms
    simp only [replCells]
    have rm := HRMb.out.below hb2 HRMb.out.lt
    have r1 := HR1b.out.below hb2 HR1b.out.lt
    have hq := Box.new w2 29 [.int .i64 R.me, .int .i64 R.kept.view, .int .i64 R.kept.normal, .bool R.kept.calm, .slice al2 R.kept.log.length cl2, .int .i64 R.kept.commit, .slice ah2 R.hav.length ch2, .slice aw2 R.wants.length cw2, .slice ag2 R.gives.length cg2, .slice an2 R.given.length cn2]
    have hb3 := below_alloc w2 (.cells #[.int .i64 R.me, .int .i64 R.kept.view, .int .i64 R.kept.normal, .bool R.kept.calm, .slice al2 R.kept.log.length cl2, .int .i64 R.kept.commit, .slice ah2 R.hav.length ch2, .slice aw2 R.wants.length cw2, .slice ag2 R.gives.length cg2, .slice an2 R.given.length cn2] 29)
    obtain ⟨w3, hw3⟩ : ∃ w3, w3 = w2.alloc (.cells #[.int .i64 R.me, .int .i64 R.kept.view, .int .i64 R.kept.normal, .bool R.kept.calm, .slice al2 R.kept.log.length cl2, .int .i64 R.kept.commit, .slice ah2 R.hav.length ch2, .slice aw2 R.wants.length cw2, .slice ag2 R.gives.length cg2, .slice an2 R.given.length cn2] 29) := ⟨_, rfl⟩
    have hs3 : w3.heap.size = w2.heap.size + 1 := by rw [hw3]; simp
    have hs0 := HSZ.out
    have hs1 := HB2.out.size
    have hs1b := HB2b.out.size
    have hs2 := hb2.size
    clear x0 x1 x2 x3 x4 x5 x6 x7 x8 x9 z0 z1 z2 z3 z4 z5 z6 z7 HD q3 q4
    go_upto_region 11 with fail
    rw [← hw3] at hq hb3 ⊢
    clear hw3
    have hm3 := rm.below hb3 (by omega)
    have z0 := hm3.cell 0 _ rfl
    have z1 := hm3.cell 1 _ rfl
    have z2 := hm3.cell 2 _ rfl
    have z3 := hm3.cell 3 _ rfl
    have z4 := hm3.cell 4 _ rfl
    have z5 := hm3.cell 5 _ rfl
    have z6 := hm3.cell 6 _ rfl
    have z7 := hm3.cell 7 _ rfl
    have HT3 : Hid (HeldAt w3 w2.heap.size (w.heap.size + 3) R) := ⟨_, _, _, _, _, _, hq, (ho2.below hb3).base (by omega)⟩
    have HBB : Hid (Below w.heap.size w w3) := Below.far (Below.far HBEb.out hb2) hb3
    have HQ1 : Hid (Box w3 (w.heap.size + 2) _ _) := r1.below hb3 (by omega)
    have HS3 : Hid (w.heap.size + 3 ≤ w2.heap.size ∧ w3.heap.size = w2.heap.size + 1) := ⟨by omega, hs3⟩
    have HST : Hid (∀ W, Beside (w.heap.size + 3) w2.heap.size w3 W → MsgAt W _ M) := fun W hW => HMA.out W (HBB.out.trans (hW.below (by omega) (by omega)))
    clear hm3 rm r1 hq hb3 hb2 ho2 hs0 hs1 hs1b hs2 hs3
    go_wp2_with fail
    refine (heard_any _ _ R M _ w3 HT3.out (HMA.out w3 HBB.out) HST.out HFT.out HZM.out HMY.out.1 HMY.out.2 (by have := HS3.out; omega)).mono ?_
    rintro e w4 ⟨v4, rfl, ⟨vl4, vh4, vw4, vg4, vn4, ps4, hx4, ho4⟩, hm4, hb4⟩
    rw [← HRL.out.1] at hx4 ho4
    rw [← HRL.out.2] at hm4
    have hm4 := hm4.base (B' := w.heap.size + 3) (by have := HS3.out; omega)
    clear z0 z1 z2 z3 z4 z5 z6 z7 HST HMA HT3
    obtain ⟨al4, cl4, ah4, ch4, aw4, cw4, ag4, cg4, an4, cn4, rfl, rfl, rfl, rfl, rfl⟩ := ho4.forms
    obtain ⟨as4, cs4, rfl⟩ := hm4.form
    have r1 := HQ1.out.beside hb4 (by omega) (by have := HS3.out; omega)
    have HK5 : Hid _ := turn_out0 (w := w) ho4 hm4 r1 rfl (by omega) (by omega) (HBB.out.trans (hb4.below (by omega) (by have := HS3.out; omega))) _ rfl
    simp only [setAll] at HK5
    have ne4 : ¬ w2.heap.size = w.heap.size + 2 := by have := HS3.out; omega
    have ne5 : ¬ w.heap.size + 2 = w2.heap.size := by have := HS3.out; omega
    have x0 := hx4.cell 0 _ rfl
    have x1 := hx4.cell 1 _ rfl
    have x2 := hx4.cell 2 _ rfl
    have x3 := hx4.cell 3 _ rfl
    have x4 := hx4.cell 4 _ rfl
    have x5 := hx4.cell 5 _ rfl
    have x6 := hx4.cell 6 _ rfl
    have x7 := hx4.cell 7 _ rfl
    have x8 := hx4.cell 8 _ rfl
    have x9 := hx4.cell 9 _ rfl
    have y0 := r1.cell 0 _ rfl
    have y1 := r1.cell 1 _ rfl
    have y2 := r1.cell 2 _ rfl
    have y3 := r1.cell 3 _ rfl
    have y4 := r1.cell 4 _ rfl
    have y5 := r1.cell 5 _ rfl
    have y6 := r1.cell 6 _ rfl
    have y7 := r1.cell 7 _ rfl
    have y8 := r1.cell 8 _ rfl
    have y9 := r1.cell 9 _ rfl
    have f0 := r1.frozen 0
    have f1 := r1.frozen 1
    have f2 := r1.frozen 2
    have f3 := r1.frozen 3
    have f4 := r1.frozen 4
    have f5 := r1.frozen 5
    have f6 := r1.frozen 6
    have f7 := r1.frozen 7
    have f8 := r1.frozen 8
    have f9 := r1.frozen 9
    clear hx4 ho4 hm4 r1 hb4
    go_upto_region 12 with fail
    go_wp2_with fail
    generalize (((((((((((w4.setCell ⟨w.heap.size + 2, 0, none⟩ (.int .i64 (RR).me)).setCell ⟨w.heap.size + 2, 1, none⟩ (.int .i64 (RR).kept.view)).setCell ⟨w.heap.size + 2, 2, none⟩ (.int .i64 (RR).kept.normal)).setCell ⟨w.heap.size + 2, 3, none⟩ (.bool (RR).kept.calm)).setCell ⟨w.heap.size + 2, 4, none⟩ (.slice al4 (RR).kept.log.length cl4)).setCell ⟨w.heap.size + 2, 5, none⟩ (.int .i64 (RR).kept.commit)).setCell ⟨w.heap.size + 2, 6, none⟩ (.slice ah4 (RR).hav.length ch4)).setCell ⟨w.heap.size + 2, 7, none⟩ (.slice aw4 (RR).wants.length cw4)).setCell ⟨w.heap.size + 2, 8, none⟩ (.slice ag4 (RR).gives.length cg4)).setCell ⟨w.heap.size + 2, 9, none⟩ (.slice an4 (RR).given.length cn4))) = w5 at HK5 ⊢
    have hR := HK5.out.1
    clear x0 x1 x2 x3 x4 x5 x6 x7 x8 x9 y0 f0 y1 f1 y2 f2 y3 f3 y4 f4 y5 f5 y6 f6 y7 f7 y8 f8 y9 f9
    have y0 := hR.cell 0 _ rfl
    have y1 := hR.cell 1 _ rfl
    have y2 := hR.cell 2 _ rfl
    have y3 := hR.cell 3 _ rfl
    have y4 := hR.cell 4 _ rfl
    have y5 := hR.cell 5 _ rfl
    have y6 := hR.cell 6 _ rfl
    have y7 := hR.cell 7 _ rfl
    have y8 := hR.cell 8 _ rfl
    have y9 := hR.cell 9 _ rfl
    clear hR
    exact bodyPost_ret (v := .tuple #[.agg #[.int .i64 (RR).me, .int .i64 (RR).kept.view, .int .i64 (RR).kept.normal, .bool (RR).kept.calm, .slice al4 (RR).kept.log.length cl4, .int .i64 (RR).kept.commit, .slice ah4 (RR).hav.length ch4, .slice aw4 (RR).wants.length cw4, .slice ag4 (RR).gives.length cg4, .slice an4 (RR).given.length cn4], .slice as4 LL.length cs4, .int .i64 0]) (by clear HK5; simp [results, Try.results9, go_sem, *]) rfl ⟨_, _, rfl, HK5.out.2⟩

end Go.Proofs.Ytmdgkjbiicaljag
