/- The document's TakenOf. -/
import Derived.Test.YtmdgkjbiicaljagTickRef
import Derived.Test.YtmdgkjbiicaljagTakeGo
import Derived.Test.YtmdgkjbiicaljagJointKeptRef
import Derived.Test.YtmdgkjbiicaljagJointToAllRef
namespace Go.Proofs.Ytmdgkjbiicaljag
open Go.RowKit
set_option linter.unusedVariables false
set_option linter.unusedSimpArgs false

set_option maxRecDepth 4000 in
set_option maxHeartbeats 8000000 in
theorem takenOf_any (R : ReplM) (s : List UInt8) (v : Value) (w : World) (h : ReplAt w v R) (hf : ReplFits R) (hsl : s.length ≤ 140737488355328) :
    Calls Try.prog 13 #[v, .string ⟨s.toArray⟩] w fun e w' => Answers w e w' (takeR R s) (takeL R s) (takeE R s) := by
  have HC : Hid (∀ W, Below w.heap.size w W → Calls _ _ _ W _) := fun W hW => replFaultOf_any R _ W (h.below hW)
  have HLD : Hid (∀ W, Below w.heap.size w W → Calls _ _ _ W _) := fun W hW => leadsNow_any R _ W (h.below hW)
  have HD : Hid (∀ W, Below w.heap.size w W → Calls _ _ _ W _) := fun W hW => replicaCopyOf_any R _ W (h.below hW) hf
  have HEN : Hid (∀ W, Calls _ _ _ W _) := fun W => entryOf_any s W (by omega)
  have NZ : Hid (¬ takeE R s = 0 → takeR R s = zeroRepl ∧ takeL R s = []) := fun hE => ⟨by unfold takeR; rw [if_neg hE], by unfold takeL; rw [if_neg hE]⟩
  have NY : Hid (takeE R s = 0 → takeR R s = takeR' R s ∧ takeL R s = ledBy (takeR' R s)) := fun hE => ⟨by unfold takeR; rw [if_pos hE], by unfold takeL; rw [if_pos hE]⟩
  have NE : Hid (takeE R s = if replFault R ≠ 0 then replFault R else if leads R = false then 14 else if 60 ≤ R.kept.log.length then 7 else decE s) := rfl
  have HFR : Hid (takeE R s = 0 → ReplFits (takeR R s)) := fun _ => takeR_fits hf s hsl
  have HST : Hid (s.length ≤ 140737488355328) := hsl
  generalize takeE R s = EE at *
  generalize takeR R s = RR at *
  generalize takeL R s = LL at *
  generalize reqVal (decR s) = rv at *
  obtain ⟨vl, vh, vw, vg, vn, rfl, hl, hh, hw, hg, hn⟩ := h
  obtain ⟨al, cl, rfl, _, _⟩ := hl
  obtain ⟨ah, ch, rfl, _, _⟩ := hh
  obtain ⟨aw, cw, rfl, _, _⟩ := hw
  obtain ⟨ag, cg, rfl, _, _⟩ := hg
  obtain ⟨an, cn, rfl, _, _⟩ := hn
  simp only [replCells] at *
  obtain ⟨b0, b1, hb⟩ := boxes2 w 29 29 [.int .i64 R.me, .int .i64 R.kept.view, .int .i64 R.kept.normal, .bool R.kept.calm, .slice al R.kept.log.length cl, .int .i64 R.kept.commit, .slice ah R.hav.length ch, .slice aw R.wants.length cw, .slice ag R.gives.length cg, .slice an R.given.length cn] [.int .i64 0, .int .i64 0, .int .i64 0, .bool false, .slice none 0 0, .int .i64 0, .slice none 0 0, .slice none 0 0, .slice none 0 0, .slice none 0 0]
  obtain ⟨w0, hw0⟩ : ∃ w0, w0 = (w.alloc (.cells #[.int .i64 R.me, .int .i64 R.kept.view, .int .i64 R.kept.normal, .bool R.kept.calm, .slice al R.kept.log.length cl, .int .i64 R.kept.commit, .slice ah R.hav.length ch, .slice aw R.wants.length cw, .slice ag R.gives.length cg, .slice an R.given.length cn] 29)).alloc (.cells #[.int .i64 0, .int .i64 0, .int .i64 0, .bool false, .slice none 0 0, .int .i64 0, .slice none 0 0, .slice none 0 0, .slice none 0 0, .slice none 0 0] 29) := ⟨_, rfl⟩
  have hsz : w0.heap.size = w.heap.size + 1 + 1 := by rw [hw0]; simp
  go_enter Try.func13, Try.ntmps13
  go_upto_region 1 with fail
  rw [← hw0] at b0 b1 hb ⊢
  clear hw0
  have HB0 : Hid (Box w0 w.heap.size _ _) := b0
  have HB1 : Hid (Box w0 (w.heap.size + 1) _ _) := b1
  have HBW : Hid (Below w.heap.size w w0) := hb
  have HSZ : Hid (w0.heap.size = w.heap.size + 1 + 1) := hsz
  have x0 := b0.cell 0 _ rfl
  have x1 := b0.cell 1 _ rfl
  have x2 := b0.cell 2 _ rfl
  have x3 := b0.cell 3 _ rfl
  have x4 := b0.cell 4 _ rfl
  have x5 := b0.cell 5 _ rfl
  have x6 := b0.cell 6 _ rfl
  have x7 := b0.cell 7 _ rfl
  have x8 := b0.cell 8 _ rfl
  have x9 := b0.cell 9 _ rfl
  clear b0 b1 hb hsz
  go_wp2_with fail
  refine (HC.out _ HBW.out).mono ?_
  rintro e w1 ⟨rfl, hb1⟩
  have HB2 : Hid (Below w0.heap.size w0 w1) := hb1
  have r0 := HB0.out.below hb1 HB0.out.lt
  have r1 := HB1.out.below hb1 HB1.out.lt
  clear hb1 x0 x1 x2 x3 x4 x5 x6 x7 x8 x9 HC
  have x0 := r0.cell 0 _ rfl
  have x1 := r0.cell 1 _ rfl
  have x2 := r0.cell 2 _ rfl
  have x3 := r0.cell 3 _ rfl
  have x4 := r0.cell 4 _ rfl
  have x5 := r0.cell 5 _ rfl
  have x6 := r0.cell 6 _ rfl
  have x7 := r0.cell 7 _ rfl
  have x8 := r0.cell 8 _ rfl
  have x9 := r0.cell 9 _ rfl
  have y0 := r1.cell 0 _ rfl
  have y1 := r1.cell 1 _ rfl
  have y2 := r1.cell 2 _ rfl
  have y3 := r1.cell 3 _ rfl
  have y4 := r1.cell 4 _ rfl
  have y5 := r1.cell 5 _ rfl
  have y6 := r1.cell 6 _ rfl
  have y7 := r1.cell 7 _ rfl
  have y8 := r1.cell 8 _ rfl
  have y9 := r1.cell 9 _ rfl
  have f0 := r1.frozen 0
  have f1 := r1.frozen 1
  have f2 := r1.frozen 2
  have f3 := r1.frozen 3
  have f4 := r1.frozen 4
  have f5 := r1.frozen 5
  have f6 := r1.frozen 6
  have f7 := r1.frozen 7
  have f8 := r1.frozen 8
  have f9 := r1.frozen 9
  have HR1 : Hid (Box w1 (w.heap.size + 1) _ _) := r1
  have HR0 : Hid (Box w1 w.heap.size _ _) := r0
  have HBE : Hid (Below w.heap.size w w1) := Below.far HBW.out HB2.out
  clear r0 r1
  have HFT : Hid (ReplFits R) := hf
  clear hf hsl
  by_cases hE : replFault R = 0
  case neg =>
    have HEE : Hid (EE = replFault R) := by unfold Hid; rw [NE.out, if_pos hE]
    obtain ⟨e2, e3⟩ := NZ.out (by rw [HEE.out]; exact hE)
    subst e2 e3
    have hEE : ¬ EE = 0 := by rw [HEE.out]; exact hE
    rw [← HEE.out]
    clear NZ NY NE HD HLD HEN HFR hE HEE
    go_wp2_with fail
    have key : ∀ w4, w4 = setAll w1 (w.heap.size + 1) 0 [.int .i64 0, .int .i64 0, .int .i64 0, .bool false, .slice none 0 0, .int .i64 0, .slice none 0 0, .slice none 0 0, .slice none 0 0, .slice none 0 0] → Hid (Box w4 (w.heap.size + 1) 29 [.int .i64 0, .int .i64 0, .int .i64 0, .bool false, .slice none 0 0, .int .i64 0, .slice none 0 0, .slice none 0 0, .slice none 0 0, .slice none 0 0] ∧ Below w.heap.size w w4) := by
      intro w4 e4
      subst e4
      exact ⟨setAll_box HR1.out _ rfl, (setAll_beside _ _ _ _ (Beside.of HBE.out)).below (Nat.le_refl _) (by omega)⟩
    have key := key _ rfl
    simp only [setAll] at key
    generalize ((((((((((w1.setCell ⟨w.heap.size + 1, 0, none⟩ (.int .i64 0)).setCell ⟨w.heap.size + 1, 1, none⟩ (.int .i64 0)).setCell ⟨w.heap.size + 1, 2, none⟩ (.int .i64 0)).setCell ⟨w.heap.size + 1, 3, none⟩ (.bool false)).setCell ⟨w.heap.size + 1, 4, none⟩ (.slice none 0 0)).setCell ⟨w.heap.size + 1, 5, none⟩ (.int .i64 0)).setCell ⟨w.heap.size + 1, 6, none⟩ (.slice none 0 0)).setCell ⟨w.heap.size + 1, 7, none⟩ (.slice none 0 0)).setCell ⟨w.heap.size + 1, 8, none⟩ (.slice none 0 0)).setCell ⟨w.heap.size + 1, 9, none⟩ (.slice none 0 0)) = w4 at key ⊢
    clear y0 y1 y2 y3 y4 y5 y6 y7 y8 y9 f0 f1 f2 f3 f4 f5 f6 f7 f8 f9
    have hR := key.out.1
    have y0 := hR.cell 0 _ rfl
    have y1 := hR.cell 1 _ rfl
    have y2 := hR.cell 2 _ rfl
    have y3 := hR.cell 3 _ rfl
    have y4 := hR.cell 4 _ rfl
    have y5 := hR.cell 5 _ rfl
    have y6 := hR.cell 6 _ rfl
    have y7 := hR.cell 7 _ rfl
    have y8 := hR.cell 8 _ rfl
    have y9 := hR.cell 9 _ rfl
    clear hR
    exact bodyPost_ret (v := .tuple #[.agg #[.int .i64 0, .int .i64 0, .int .i64 0, .bool false, .slice none 0 0, .int .i64 0, .slice none 0 0, .slice none 0 0, .slice none 0 0, .slice none 0 0], .slice none 0 0, .int .i64 EE]) (by clear key HR1 HBE; simp [results, Try.results13, go_sem, *]) rfl ⟨_, _, rfl, replNil _ _, msgsNil _ _, key.out.2⟩
  rw [hE]
  clear y0 y1 y2 y3 y4 y5 y6 y7 y8 y9 f0 f1 f2 f3 f4 f5 f6 f7 f8 f9
  go_wp2_with fail
  refine (HLD.out _ HBE.out).mono ?_
  rintro e w1b ⟨rfl, hb1⟩
  have r0 := HR0.out.below hb1 HR0.out.lt
  have r1 := HR1.out.below hb1 HR1.out.lt
  have HB2b : Hid (Below w1.heap.size w1 w1b) := hb1
  have HR1b : Hid (Box w1b (w.heap.size + 1) _ _) := r1
  have HR0b : Hid (Box w1b w.heap.size _ _) := r0
  have HBEb : Hid (Below w.heap.size w w1b) := Below.far HBE.out hb1
  clear hb1 x0 x1 x2 x3 x4 x5 x6 x7 x8 x9 HLD
  have x0 := r0.cell 0 _ rfl
  have x1 := r0.cell 1 _ rfl
  have x2 := r0.cell 2 _ rfl
  have x3 := r0.cell 3 _ rfl
  have x4 := r0.cell 4 _ rfl
  have x5 := r0.cell 5 _ rfl
  have x6 := r0.cell 6 _ rfl
  have x7 := r0.cell 7 _ rfl
  have x8 := r0.cell 8 _ rfl
  have x9 := r0.cell 9 _ rfl
  have y0 := r1.cell 0 _ rfl
  have y1 := r1.cell 1 _ rfl
  have y2 := r1.cell 2 _ rfl
  have y3 := r1.cell 3 _ rfl
  have y4 := r1.cell 4 _ rfl
  have y5 := r1.cell 5 _ rfl
  have y6 := r1.cell 6 _ rfl
  have y7 := r1.cell 7 _ rfl
  have y8 := r1.cell 8 _ rfl
  have y9 := r1.cell 9 _ rfl
  have f0 := r1.frozen 0
  have f1 := r1.frozen 1
  have f2 := r1.frozen 2
  have f3 := r1.frozen 3
  have f4 := r1.frozen 4
  have f5 := r1.frozen 5
  have f6 := r1.frozen 6
  have f7 := r1.frozen 7
  have f8 := r1.frozen 8
  have f9 := r1.frozen 9
  clear r0 r1
  by_cases hl : leads R = true
  case neg =>
    have hl' : leads R = false := by simpa using hl
    have HEE : Hid (EE = 14) := by unfold Hid; rw [NE.out, if_neg (by simpa using hE), if_pos hl']
    obtain ⟨e2, e3⟩ := NZ.out (by rw [HEE.out]; decide)
    subst e2 e3
    rw [hl']
    obtain rfl : EE = 14 := HEE.out
    clear NZ NY NE HD HEN HFR hE HEE hl hl' HR1 HR0
    go_wp2_with fail
    have key : ∀ w4, w4 = setAll w1b (w.heap.size + 1) 0 [.int .i64 0, .int .i64 0, .int .i64 0, .bool false, .slice none 0 0, .int .i64 0, .slice none 0 0, .slice none 0 0, .slice none 0 0, .slice none 0 0] → Hid (Box w4 (w.heap.size + 1) 29 [.int .i64 0, .int .i64 0, .int .i64 0, .bool false, .slice none 0 0, .int .i64 0, .slice none 0 0, .slice none 0 0, .slice none 0 0, .slice none 0 0] ∧ Below w.heap.size w w4) := by
      intro w4 e4
      subst e4
      exact ⟨setAll_box HR1b.out _ rfl, (setAll_beside _ _ _ _ (Beside.of HBEb.out)).below (Nat.le_refl _) (by omega)⟩
    have key := key _ rfl
    simp only [setAll] at key
    generalize ((((((((((w1b.setCell ⟨w.heap.size + 1, 0, none⟩ (.int .i64 0)).setCell ⟨w.heap.size + 1, 1, none⟩ (.int .i64 0)).setCell ⟨w.heap.size + 1, 2, none⟩ (.int .i64 0)).setCell ⟨w.heap.size + 1, 3, none⟩ (.bool false)).setCell ⟨w.heap.size + 1, 4, none⟩ (.slice none 0 0)).setCell ⟨w.heap.size + 1, 5, none⟩ (.int .i64 0)).setCell ⟨w.heap.size + 1, 6, none⟩ (.slice none 0 0)).setCell ⟨w.heap.size + 1, 7, none⟩ (.slice none 0 0)).setCell ⟨w.heap.size + 1, 8, none⟩ (.slice none 0 0)).setCell ⟨w.heap.size + 1, 9, none⟩ (.slice none 0 0)) = w4 at key ⊢
    clear y0 y1 y2 y3 y4 y5 y6 y7 y8 y9 f0 f1 f2 f3 f4 f5 f6 f7 f8 f9
    have hR := key.out.1
    have y0 := hR.cell 0 _ rfl
    have y1 := hR.cell 1 _ rfl
    have y2 := hR.cell 2 _ rfl
    have y3 := hR.cell 3 _ rfl
    have y4 := hR.cell 4 _ rfl
    have y5 := hR.cell 5 _ rfl
    have y6 := hR.cell 6 _ rfl
    have y7 := hR.cell 7 _ rfl
    have y8 := hR.cell 8 _ rfl
    have y9 := hR.cell 9 _ rfl
    clear hR
    exact bodyPost_ret (v := .tuple #[.agg #[.int .i64 0, .int .i64 0, .int .i64 0, .bool false, .slice none 0 0, .int .i64 0, .slice none 0 0, .slice none 0 0, .slice none 0 0, .slice none 0 0], .slice none 0 0, .int .i64 14]) (by clear key HR1b HBEb; simp [results, Try.results13, go_sem, *]) rfl ⟨_, _, rfl, replNil _ _, msgsNil _ _, key.out.2⟩
  by_cases hlen : R.kept.log.length < 60
  case neg =>
    have HEE : Hid (EE = 7) := by unfold Hid; rw [NE.out, if_neg (by simpa using hE), if_neg (by simp [hl]), if_pos (by omega)]
    have q : (60 : Int) ≤ (R.kept.log.length : Int) := by omega
    obtain ⟨e2, e3⟩ := NZ.out (by rw [HEE.out]; decide)
    subst e2 e3
    rw [hl]
    obtain rfl : EE = 7 := HEE.out
    clear NZ NY NE HD HEN HFR hE HEE hl HR1 HR0 hlen
    go_wp2_with fail
    have key : ∀ w4, w4 = setAll w1b (w.heap.size + 1) 0 [.int .i64 0, .int .i64 0, .int .i64 0, .bool false, .slice none 0 0, .int .i64 0, .slice none 0 0, .slice none 0 0, .slice none 0 0, .slice none 0 0] → Hid (Box w4 (w.heap.size + 1) 29 [.int .i64 0, .int .i64 0, .int .i64 0, .bool false, .slice none 0 0, .int .i64 0, .slice none 0 0, .slice none 0 0, .slice none 0 0, .slice none 0 0] ∧ Below w.heap.size w w4) := by
      intro w4 e4
      subst e4
      exact ⟨setAll_box HR1b.out _ rfl, (setAll_beside _ _ _ _ (Beside.of HBEb.out)).below (Nat.le_refl _) (by omega)⟩
    have key := key _ rfl
    simp only [setAll] at key
    generalize ((((((((((w1b.setCell ⟨w.heap.size + 1, 0, none⟩ (.int .i64 0)).setCell ⟨w.heap.size + 1, 1, none⟩ (.int .i64 0)).setCell ⟨w.heap.size + 1, 2, none⟩ (.int .i64 0)).setCell ⟨w.heap.size + 1, 3, none⟩ (.bool false)).setCell ⟨w.heap.size + 1, 4, none⟩ (.slice none 0 0)).setCell ⟨w.heap.size + 1, 5, none⟩ (.int .i64 0)).setCell ⟨w.heap.size + 1, 6, none⟩ (.slice none 0 0)).setCell ⟨w.heap.size + 1, 7, none⟩ (.slice none 0 0)).setCell ⟨w.heap.size + 1, 8, none⟩ (.slice none 0 0)).setCell ⟨w.heap.size + 1, 9, none⟩ (.slice none 0 0)) = w4 at key ⊢
    clear y0 y1 y2 y3 y4 y5 y6 y7 y8 y9 f0 f1 f2 f3 f4 f5 f6 f7 f8 f9
    have hR := key.out.1
    have y0 := hR.cell 0 _ rfl
    have y1 := hR.cell 1 _ rfl
    have y2 := hR.cell 2 _ rfl
    have y3 := hR.cell 3 _ rfl
    have y4 := hR.cell 4 _ rfl
    have y5 := hR.cell 5 _ rfl
    have y6 := hR.cell 6 _ rfl
    have y7 := hR.cell 7 _ rfl
    have y8 := hR.cell 8 _ rfl
    have y9 := hR.cell 9 _ rfl
    clear hR
    exact bodyPost_ret (v := .tuple #[.agg #[.int .i64 0, .int .i64 0, .int .i64 0, .bool false, .slice none 0 0, .int .i64 0, .slice none 0 0, .slice none 0 0, .slice none 0 0, .slice none 0 0], .slice none 0 0, .int .i64 7]) (by clear key HR1b HBEb; simp [results, Try.results13, go_sem, *]) rfl ⟨_, _, rfl, replNil _ _, msgsNil _ _, key.out.2⟩
  have HEE : Hid (EE = decE s) := by unfold Hid; rw [NE.out, if_neg (by simpa using hE), if_neg (by simp [hl]), if_neg (by omega)]
  have q : ¬ (60 : Int) ≤ (R.kept.log.length : Int) := by omega
  rw [hl]
  have HLN : Hid (R.kept.log.length < 60) := hlen
  rw [← HEE.out] at HEN
  clear NE HEE hE hl hlen HR1 HR0 y0 y1 y2 y3 y4 y5 y6 y7 y8 y9 f0 f1 f2 f3 f4 f5 f6 f7 f8 f9
  go_wp2_with fail
  refine (HEN.out _).mono ?_
  rintro e w1c ⟨rfl, hb1⟩
  have r0 := HR0b.out.below hb1 HR0b.out.lt
  have r1 := HR1b.out.below hb1 HR1b.out.lt
  have HB2c : Hid (Below w1b.heap.size w1b w1c) := hb1
  have HR1 : Hid (Box w1c (w.heap.size + 1) _ _) := r1
  have HR0 : Hid (Box w1c w.heap.size _ _) := r0
  have HBEc : Hid (Below w.heap.size w w1c) := Below.far HBEb.out hb1
  clear hb1 x0 x1 x2 x3 x4 x5 x6 x7 x8 x9 HEN q
  have x0 := r0.cell 0 _ rfl
  have x1 := r0.cell 1 _ rfl
  have x2 := r0.cell 2 _ rfl
  have x3 := r0.cell 3 _ rfl
  have x4 := r0.cell 4 _ rfl
  have x5 := r0.cell 5 _ rfl
  have x6 := r0.cell 6 _ rfl
  have x7 := r0.cell 7 _ rfl
  have x8 := r0.cell 8 _ rfl
  have x9 := r0.cell 9 _ rfl
  clear r0
  by_cases hE : EE = 0
  case neg =>
    obtain ⟨e2, e3⟩ := NZ.out hE
    subst e2 e3
    have hEE : ¬ EE = 0 := hE
    have y0 := r1.cell 0 _ rfl
    have y1 := r1.cell 1 _ rfl
    have y2 := r1.cell 2 _ rfl
    have y3 := r1.cell 3 _ rfl
    have y4 := r1.cell 4 _ rfl
    have y5 := r1.cell 5 _ rfl
    have y6 := r1.cell 6 _ rfl
    have y7 := r1.cell 7 _ rfl
    have y8 := r1.cell 8 _ rfl
    have y9 := r1.cell 9 _ rfl
    have f0 := r1.frozen 0
    have f1 := r1.frozen 1
    have f2 := r1.frozen 2
    have f3 := r1.frozen 3
    have f4 := r1.frozen 4
    have f5 := r1.frozen 5
    have f6 := r1.frozen 6
    have f7 := r1.frozen 7
    have f8 := r1.frozen 8
    have f9 := r1.frozen 9
    clear NZ NY HD HFR hE HR1b HR0b r1
    go_wp2_with fail
    have key : ∀ w4, w4 = setAll w1c (w.heap.size + 1) 0 [.int .i64 0, .int .i64 0, .int .i64 0, .bool false, .slice none 0 0, .int .i64 0, .slice none 0 0, .slice none 0 0, .slice none 0 0, .slice none 0 0] → Hid (Box w4 (w.heap.size + 1) 29 [.int .i64 0, .int .i64 0, .int .i64 0, .bool false, .slice none 0 0, .int .i64 0, .slice none 0 0, .slice none 0 0, .slice none 0 0, .slice none 0 0] ∧ Below w.heap.size w w4) := by
      intro w4 e4
      subst e4
      exact ⟨setAll_box HR1.out _ rfl, (setAll_beside _ _ _ _ (Beside.of HBEc.out)).below (Nat.le_refl _) (by omega)⟩
    have key := key _ rfl
    simp only [setAll] at key
    generalize ((((((((((w1c.setCell ⟨w.heap.size + 1, 0, none⟩ (.int .i64 0)).setCell ⟨w.heap.size + 1, 1, none⟩ (.int .i64 0)).setCell ⟨w.heap.size + 1, 2, none⟩ (.int .i64 0)).setCell ⟨w.heap.size + 1, 3, none⟩ (.bool false)).setCell ⟨w.heap.size + 1, 4, none⟩ (.slice none 0 0)).setCell ⟨w.heap.size + 1, 5, none⟩ (.int .i64 0)).setCell ⟨w.heap.size + 1, 6, none⟩ (.slice none 0 0)).setCell ⟨w.heap.size + 1, 7, none⟩ (.slice none 0 0)).setCell ⟨w.heap.size + 1, 8, none⟩ (.slice none 0 0)).setCell ⟨w.heap.size + 1, 9, none⟩ (.slice none 0 0)) = w4 at key ⊢
    clear y0 y1 y2 y3 y4 y5 y6 y7 y8 y9 f0 f1 f2 f3 f4 f5 f6 f7 f8 f9
    have hR := key.out.1
    have y0 := hR.cell 0 _ rfl
    have y1 := hR.cell 1 _ rfl
    have y2 := hR.cell 2 _ rfl
    have y3 := hR.cell 3 _ rfl
    have y4 := hR.cell 4 _ rfl
    have y5 := hR.cell 5 _ rfl
    have y6 := hR.cell 6 _ rfl
    have y7 := hR.cell 7 _ rfl
    have y8 := hR.cell 8 _ rfl
    have y9 := hR.cell 9 _ rfl
    clear hR
    exact bodyPost_ret (v := .tuple #[.agg #[.int .i64 0, .int .i64 0, .int .i64 0, .bool false, .slice none 0 0, .int .i64 0, .slice none 0 0, .slice none 0 0, .slice none 0 0, .slice none 0 0], .slice none 0 0, .int .i64 EE]) (by clear key HR1 HBEc; simp [results, Try.results13, go_sem, *]) rfl ⟨_, _, rfl, replNil _ _, msgsNil _ _, key.out.2⟩
  obtain ⟨e1, e2⟩ := NY.out hE
  have HRL : Hid (RR = takeR' R s ∧ LL = ledBy (takeR' R s)) := ⟨e1, e2⟩
  have HFR' : Hid (ReplFits RR) := HFR.out hE
  subst hE
  clear NY NZ e1 e2 HFR r1 HR1b HR0b
  go_wp2_with fail
  refine (HD.out _ HBEc.out).mono ?_
  rintro e w2 ⟨v2, rfl, ⟨vl2, vh2, vw2, vg2, vn2, ps2, rfl, ho2⟩, hb2⟩
  obtain ⟨al2, cl2, ah2, ch2, aw2, cw2, ag2, cg2, an2, cn2, rfl, rfl, rfl, rfl, rfl⟩ := ho2.forms
  simp only [replCells]
  have r1 := HR1.out.below hb2 HR1.out.lt
  have hq := Box.new w2 29 [.int .i64 R.me, .int .i64 R.kept.view, .int .i64 R.kept.normal, .bool R.kept.calm, .slice al2 R.kept.log.length cl2, .int .i64 R.kept.commit, .slice ah2 R.hav.length ch2, .slice aw2 R.wants.length cw2, .slice ag2 R.gives.length cg2, .slice an2 R.given.length cn2]
  have hb3 := below_alloc w2 (.cells #[.int .i64 R.me, .int .i64 R.kept.view, .int .i64 R.kept.normal, .bool R.kept.calm, .slice al2 R.kept.log.length cl2, .int .i64 R.kept.commit, .slice ah2 R.hav.length ch2, .slice aw2 R.wants.length cw2, .slice ag2 R.gives.length cg2, .slice an2 R.given.length cn2] 29)
  obtain ⟨w3, hw3⟩ : ∃ w3, w3 = w2.alloc (.cells #[.int .i64 R.me, .int .i64 R.kept.view, .int .i64 R.kept.normal, .bool R.kept.calm, .slice al2 R.kept.log.length cl2, .int .i64 R.kept.commit, .slice ah2 R.hav.length ch2, .slice aw2 R.wants.length cw2, .slice ag2 R.gives.length cg2, .slice an2 R.given.length cn2] 29) := ⟨_, rfl⟩
  have hs3 : w3.heap.size = w2.heap.size + 1 := by rw [hw3]; simp
  have hs0 := HSZ.out
  have hs1 := HB2.out.size
  have hs1b := HB2b.out.size
  have hs1c := HB2c.out.size
  have hs2 := hb2.size
  clear x0 x1 x2 x3 x4 x5 x6 x7 x8 x9 HD
  go_upto_region 11 with fail
  rw [← hw3] at hq hb3 ⊢
  clear hw3
  have HX3 : Hid (Box w3 w2.heap.size _ _) := hq
  have HO3 : Hid (ReplOwn w3 (w.heap.size + 2) R _ _ _ _ _ _) := (ho2.below hb3).base (by omega)
  have HBB : Hid (Below w.heap.size w w3) := Below.far (Below.far HBEc.out hb2) hb3
  have HQ1 : Hid (Box w3 (w.heap.size + 1) _ _) := r1.below hb3 (by omega)
  have HS3 : Hid (w.heap.size + 2 ≤ w2.heap.size ∧ w3.heap.size = w2.heap.size + 1) := ⟨by omega, hs3⟩
  have z0 := hq.cell 0 _ rfl
  have z1 := hq.cell 1 _ rfl
  have z2 := hq.cell 2 _ rfl
  have z3 := hq.cell 3 _ rfl
  have z4 := hq.cell 4 _ rfl
  have z5 := hq.cell 5 _ rfl
  have z6 := hq.cell 6 _ rfl
  have z7 := hq.cell 7 _ rfl
  have z8 := hq.cell 8 _ rfl
  have z9 := hq.cell 9 _ rfl
  clear r1 hq hb3 hb2 ho2 hs0 hs1 hs1b hs1c hs2 hs3
  go_wp2_with (at_builtin; refine wpList_append_row _ rfl _ _ 22 rfl (w.heap.size + 2) 9 Try.t9 _ 1 16 Try.underlying22 infoStrR zeroStrR sizeStrR bytesStrR rfl (by decide) _ R.kept.log.length (R.kept.log.map enc) rfl (own_below HO3.out.2.1 (below_alloc w3 _) (own_lt HO3.out.2.1)) _ 1 [.string ⟨s.toArray⟩] rfl (RowAt.one _ _ _) (by simp [Value.oneCell']) (by have := HLN.out; unfold maxLen; omega) (by have := HLN.out; omega) ?_ ?_)
  · have := HS3.out
    simp <;> omega
  intro v7 u4 hown4 hg4 hat4
  obtain ⟨al2, cl2, hv7⟩ := own_form hown4
  subst hv7
  have e3 : (w3.alloc (.cells #[.string ⟨s.toArray⟩] 9)).heap.size = w3.heap.size + 1 := by simp
  have b3 : Below w3.heap.size w3 (w3.alloc (.cells #[.string ⟨s.toArray⟩] 9)) := below_alloc _ _
  have hx4 : Box u4 w2.heap.size _ _ := (HX3.out.below b3 HX3.out.lt).grown hg4 (own_type HO3.out.2.1 HX3.out (by decide))
  have hown4' : u4.ownsRow (w.heap.size + 2) 9 1 (.slice al2 (R.kept.log.length + 1) cl2) (takeR' R s).kept.log.length ((takeR' R s).kept.log.map enc) := by
    show u4.ownsRow _ _ _ _ (R.kept.log ++ [s]).length ((R.kept.log ++ [s]).map enc)
    rw [List.length_append, List.map_append]
    exact hown4
  have ho4 := grown_log (HO3.out.below b3) hg4 (takeR' R s).kept hown4' (by rw [e3]; exact hat4)
  have bu : Below w.heap.size w u4 := by
    refine (Below.far HBB.out b3).trans ⟨hg4.os, hg4.tape, hg4.output, hg4.size, fun k hk => hg4.block k (by have := HBB.out.size; rw [e3]; omega) (fun e => by have := own_ge HO3.out.2.1 k e.symm; omega)⟩
  have hq1 : Box u4 (w.heap.size + 1) _ _ := (HQ1.out.below b3 HQ1.out.lt).grown hg4 (fun e => by have := own_ge HO3.out.2.1 _ e; omega)
  have hsu : w3.heap.size + 1 ≤ u4.heap.size := by have := hg4.size; rw [e3] at this; exact this
  have hs3 := HS3.out
  have x4 := hx4.cell 4 _ rfl
  have g4 := hx4.frozen 4
  have HX5 : Hid (Box (u4.setCell ⟨w2.heap.size, 4, none⟩ (.slice al2 (R.kept.log.length + 1) cl2)) w2.heap.size 29 [.int .i64 R.me, .int .i64 R.kept.view, .int .i64 R.kept.normal, .bool R.kept.calm, .slice al2 (R.kept.log.length + 1) cl2, .int .i64 R.kept.commit, .slice ah2 R.hav.length ch2, .slice aw2 R.wants.length cw2, .slice ag2 R.gives.length cg2, .slice an2 R.given.length cn2]) := hx4.set 4 (.slice al2 (R.kept.log.length + 1) cl2)
  have HO5 : Hid (ReplOwn (u4.setCell ⟨w2.heap.size, 4, none⟩ (.slice al2 (R.kept.log.length + 1) cl2)) (w.heap.size + 2) (takeR' R s) _ _ _ _ _ _) := ho4.type hx4 (by decide) (by decide) (by decide) (by decide) 4 (.slice al2 (R.kept.log.length + 1) cl2)
  have HB5 : Hid (Below w.heap.size w (u4.setCell ⟨w2.heap.size, 4, none⟩ (.slice al2 (R.kept.log.length + 1) cl2))) := bu.setCell (p := ⟨w2.heap.size, 4, none⟩) (by simp only; omega) _
  have HQ5 : Hid (Box (u4.setCell ⟨w2.heap.size, 4, none⟩ (.slice al2 (R.kept.log.length + 1) cl2)) (w.heap.size + 1) _ _) := hq1.other (a := ⟨w2.heap.size, 4, none⟩) _ (by simp only; omega)
  have HS5 : Hid (w.heap.size + 2 ≤ w2.heap.size ∧ w2.heap.size + 1 ≤ (u4.setCell ⟨w2.heap.size, 4, none⟩ (.slice al2 (R.kept.log.length + 1) cl2)).heap.size) := ⟨by omega, by simp; omega⟩
  clear hown4 hg4 hat4 e3 b3 hx4 hown4' ho4 bu hq1 hsu hs3 z0 z1 z2 z3 z4 z5 z6 z7 z8 z9
  go_upto_region 12 with fail
  generalize hu5 : World.setCell u4 _ _ = u5 at HX5 HO5 HB5 HQ5 HS5 ⊢
  clear hu5 x4 g4 HX3 HO3 HBB HQ1 HS3
  have hR : RR = takeR' R s := HRL.out.1
  have hL : LL = ledBy RR := by rw [HRL.out.2, hR]
  have hx5 : Box u5 w2.heap.size 29 [.int .i64 RR.me, .int .i64 RR.kept.view, .int .i64 RR.kept.normal, .bool RR.kept.calm, .slice al2 RR.kept.log.length cl2, .int .i64 RR.kept.commit, .slice ah2 RR.hav.length ch2, .slice aw2 RR.wants.length cw2, .slice ag2 RR.gives.length cg2, .slice an2 RR.given.length cn2] := by
    have := HX5.out
    rw [hR]
    show Box u5 _ _ [.int .i64 R.me, .int .i64 R.kept.view, .int .i64 R.kept.normal, .bool R.kept.calm, .slice al2 (R.kept.log ++ [s]).length cl2, .int .i64 R.kept.commit, .slice ah2 R.hav.length ch2, .slice aw2 R.wants.length cw2, .slice ag2 R.gives.length cg2, .slice an2 R.given.length cn2]
    rw [List.length_append]
    exact this
  have ho5 : ReplOwn u5 (w.heap.size + 2) RR (.slice al2 RR.kept.log.length cl2) (.slice ah2 RR.hav.length ch2) (.slice aw2 RR.wants.length cw2) (.slice ag2 RR.gives.length cg2) (.slice an2 RR.given.length cn2) ps2 := by
    have := HO5.out
    rw [hR]
    show ReplOwn u5 _ _ (.slice al2 (R.kept.log ++ [s]).length cl2) (.slice ah2 R.hav.length ch2) (.slice aw2 R.wants.length cw2) (.slice ag2 R.gives.length cg2) (.slice an2 R.given.length cn2) ps2
    rw [List.length_append]
    exact this
  have e1 : (.slice al2 (R.kept.log.length + 1) cl2 : Value) = .slice al2 RR.kept.log.length cl2 := by
    rw [hR]; show _ = (.slice al2 (R.kept.log ++ [s]).length cl2 : Value); rw [List.length_append]; rfl
  have HT4 : Hid (Box u5 w2.heap.size _ _ ∧ ReplOwn u5 (w.heap.size + 2) RR _ _ _ _ _ _) := ⟨hx5, ho5⟩
  subst hL
  clear HX5 HO5 hx5 ho5 hR HRL e1
  refine wp_region_free [0, 0, 1, 2, 2, 2] (by kernel_rfl) (by kernel_rfl) (fun h => h) (Below u5.heap.size u5) (Below.refl _ _) (fun V n hV => below_drewN n hV) ?_
  apply Exists.intro
  refine ⟨?_, ?_⟩
  · intro V hV
    have bx := HT4.out.1.below hV HT4.out.1.lt
    have x0 := bx.cell 0 _ rfl
    have x1 := bx.cell 1 _ rfl
    have x2 := bx.cell 2 _ rfl
    have x3 := bx.cell 3 _ rfl
    have x4 := bx.cell 4 _ rfl
    have x5 := bx.cell 5 _ rfl
    have x6 := bx.cell 6 _ rfl
    have x7 := bx.cell 7 _ rfl
    have x8 := bx.cell 8 _ rfl
    have x9 := bx.cell 9 _ rfl
    simp only [sel, ↓reduceIte, Nat.reduceEqDiff]
    repeat (go_big_quiet_step (fail))
    refine wpQuiet_nil ?_
    rfl
  · intro n
    simp only [sel, ↓reduceIte, Nat.reduceEqDiff]
    refine wpEarly_cons ?_
    go_wp2_with fail
    have HA5 : Hid (ReplAt (u5.drewN n) _ RR) := (HT4.out.2.below (below_drewN n (Below.refl _ _))).at HFR'.out
    simp only [replCells] at HA5
    refine (ledByOf_any RR _ (u5.drewN n) HA5.out HFR'.out).mono ?_
    rintro e wx ⟨v5, rfl, hm5, hb5⟩
    have hbw : Below u5.heap.size u5 wx := ⟨hb5.os, hb5.tape, hb5.output, hb5.size, hb5.block⟩
    obtain ⟨as6, cs6, rfl⟩ := hm5.form
    have HM5 : Hid (MsgsNew wx u5.heap.size _ (ledBy RR)) := hm5
    have HB6 : Hid (Below u5.heap.size u5 wx) := hbw
    clear hm5 hb5 HA5
    go_wp2_with fail
    refine wpEarly_next hbw fun m => ?_
    refine wpEarly_nil ?_
    clear hbw
    obtain ⟨w6, hw6⟩ : ∃ w6, w6 = wx.drewN m := ⟨_, rfl⟩
    rw [← hw6]
    have hb46 : Below u5.heap.size u5 w6 := by rw [hw6]; exact below_drewN m HB6.out
    have ho6 := HT4.out.2.below hb46
    have hm6 : MsgsNew w6 (w.heap.size + 2) (.slice as6 (ledBy RR).length cs6) (ledBy RR) := by
      have := HS5.out
      rw [hw6]
      exact (HM5.out.below' (below_drewN m (Below.refl _ _))).base (by omega)
    have hr6 := HQ5.out.below hb46 HQ5.out.lt
    have hb6 : Below w.heap.size w w6 := Below.far HB5.out hb46
    clear hb46 HM5 HB6 hw6
    have HK5 : Hid _ := turn_out0 (w := w) ho6 hm6 hr6 rfl (by omega) (by omega) hb6 _ rfl
    simp only [setAll] at HK5
    have y0 := hr6.cell 0 _ rfl
    have y1 := hr6.cell 1 _ rfl
    have y2 := hr6.cell 2 _ rfl
    have y3 := hr6.cell 3 _ rfl
    have y4 := hr6.cell 4 _ rfl
    have y5 := hr6.cell 5 _ rfl
    have y6 := hr6.cell 6 _ rfl
    have y7 := hr6.cell 7 _ rfl
    have y8 := hr6.cell 8 _ rfl
    have y9 := hr6.cell 9 _ rfl
    have f0 := hr6.frozen 0
    have f1 := hr6.frozen 1
    have f2 := hr6.frozen 2
    have f3 := hr6.frozen 3
    have f4 := hr6.frozen 4
    have f5 := hr6.frozen 5
    have f6 := hr6.frozen 6
    have f7 := hr6.frozen 7
    have f8 := hr6.frozen 8
    have f9 := hr6.frozen 9
    clear ho6 hm6 hr6 hb6
    go_wp2_with fail
    generalize (((((((((((w6.setCell ⟨w.heap.size + 1, 0, none⟩ (.int .i64 RR.me)).setCell ⟨w.heap.size + 1, 1, none⟩ (.int .i64 RR.kept.view)).setCell ⟨w.heap.size + 1, 2, none⟩ (.int .i64 RR.kept.normal)).setCell ⟨w.heap.size + 1, 3, none⟩ (.bool RR.kept.calm)).setCell ⟨w.heap.size + 1, 4, none⟩ (.slice al2 RR.kept.log.length cl2)).setCell ⟨w.heap.size + 1, 5, none⟩ (.int .i64 RR.kept.commit)).setCell ⟨w.heap.size + 1, 6, none⟩ (.slice ah2 RR.hav.length ch2)).setCell ⟨w.heap.size + 1, 7, none⟩ (.slice aw2 RR.wants.length cw2)).setCell ⟨w.heap.size + 1, 8, none⟩ (.slice ag2 RR.gives.length cg2)).setCell ⟨w.heap.size + 1, 9, none⟩ (.slice an2 RR.given.length cn2))) = w7 at HK5 ⊢
    have hR := HK5.out.1
    clear y0 f0 y1 f1 y2 f2 y3 f3 y4 f4 y5 f5 y6 f6 y7 f7 y8 f8 y9 f9
    have y0 := hR.cell 0 _ rfl
    have y1 := hR.cell 1 _ rfl
    have y2 := hR.cell 2 _ rfl
    have y3 := hR.cell 3 _ rfl
    have y4 := hR.cell 4 _ rfl
    have y5 := hR.cell 5 _ rfl
    have y6 := hR.cell 6 _ rfl
    have y7 := hR.cell 7 _ rfl
    have y8 := hR.cell 8 _ rfl
    have y9 := hR.cell 9 _ rfl
    clear hR
    exact bodyPost_ret (v := .tuple #[.agg #[.int .i64 RR.me, .int .i64 RR.kept.view, .int .i64 RR.kept.normal, .bool RR.kept.calm, .slice al2 RR.kept.log.length cl2, .int .i64 RR.kept.commit, .slice ah2 RR.hav.length ch2, .slice aw2 RR.wants.length cw2, .slice ag2 RR.gives.length cg2, .slice an2 RR.given.length cn2], .slice as6 (ledBy RR).length cs6, .int .i64 0]) (by clear HK5; simp [results, Try.results13, go_sem, *]) rfl ⟨_, _, rfl, HK5.out.2⟩

end Go.Proofs.Ytmdgkjbiicaljag
