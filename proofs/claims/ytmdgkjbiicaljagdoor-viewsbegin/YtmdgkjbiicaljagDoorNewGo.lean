/- The program's own replica.New. -/
import Derived.Test.YtmdgkjbiicaljagDoorJointCopiedStr
import Derived.Test.YtmdgkjbiicaljagDoorCheckGo
import Derived.Test.YtmdgkjbiicaljagDoorKeptDup
namespace Go.Proofs.YtmdgkjbiicaljagDoor
open Go.RowKit
set_option linter.unusedVariables false
set_option linter.unusedSimpArgs false

theorem newr_place {me : Int} {K : KeptM} (h : ¬ (0 ≤ me ∧ me ≤ 2)) : newrE me K = 2 ∧ newrR me K = zeroRepl := by
  have e : newrE me K = 2 := by unfold newrE; rw [if_neg h]
  exact ⟨e, by unfold newrR; rw [e]; rfl⟩
theorem newr_fault {me : Int} {K : KeptM} (h : 0 ≤ me ∧ me ≤ 2) (hk : keptFault K ≠ 0) : newrE me K = keptFault K ∧ newrR me K = zeroRepl := by
  have e : newrE me K = keptFault K := by unfold newrE; rw [if_pos h]
  exact ⟨e, by unfold newrR; rw [e, if_neg hk]⟩
theorem newr_ok {me : Int} {K : KeptM} (h : 0 ≤ me ∧ me ≤ 2) (hk : keptFault K = 0) : newrE me K = 0 ∧ newrR me K = forgot ⟨me, K, [], [], [], []⟩ := by
  have e : newrE me K = 0 := by unfold newrE; rw [if_pos h, hk]
  exact ⟨e, by unfold newrR; rw [e]; rfl⟩

set_option maxRecDepth 4000 in
set_option maxHeartbeats 2000000 in
theorem replNew_any (me : Int) (K : KeptM) (v : Value) (w : World) (h : KeptAt w v K) (hz : K.log.length * 16 ≤ 140737488355328) :
    Calls Tryd.prog 5 #[.int .i64 me, v] w fun e w' => ∃ v', e = .returned (.tuple #[v', .int .i64 (newrE me K)]) ∧ ReplNew w' w.heap.size v' (newrR me K) ∧ Below w.heap.size w w' := by
  have HP : Hid (∀ W, Calls _ _ _ W _) := fun W => isPlace_any me W
  have HC : Hid (∀ W, Below w.heap.size w W → Calls _ _ _ W _) := fun W hW => stageCheck_any K _ W (h.below hW)
  have HD : Hid (∀ W, Below w.heap.size w W → Calls _ _ _ W _) := fun W hW => stageCopy_any K _ W (h.below hW) hz
  have N1 : Hid (¬ (0 ≤ me ∧ me ≤ 2) → newrE me K = 2 ∧ newrR me K = zeroRepl) := newr_place
  have N2 : Hid (0 ≤ me ∧ me ≤ 2 → keptFault K ≠ 0 → newrE me K = keptFault K ∧ newrR me K = zeroRepl) := newr_fault
  have N3 : Hid (0 ≤ me ∧ me ≤ 2 → keptFault K = 0 → newrE me K = 0 ∧ newrR me K = forgot ⟨me, K, [], [], [], []⟩) := newr_ok
  obtain ⟨vl, rfl, hs⟩ := h
  obtain ⟨a, c, rfl, _, _⟩ := hs
  by_cases hp : 0 ≤ me ∧ me ≤ 2
  · have hpd : (decide (0 ≤ me) && decide (me ≤ 2)) = true := by simp [hp]
    rw [hpd] at HP
    by_cases hk : keptFault K = 0
    · obtain ⟨e1, e2⟩ := N3.out hp hk
      rw [e1, e2]
      rw [hk] at HC
      clear N1 N2 N3 e1 e2 hpd hp hk
      have HKN : Hid (∀ W av n cv, Calls _ _ _ W _) := fun W av n cv => knowing_any me K av n cv W
      obtain ⟨vi, nm, cm, l, ct⟩ := K
      simp only at HC HD HKN ⊢
      obtain ⟨b0, b1, hb⟩ := boxes2 w 25 30 [.int .i64 vi, .int .i64 nm, .bool cm, .slice a l.length c, .int .i64 ct] [.int .i64 0, .int .i64 0, .int .i64 0, .bool false, .slice none 0 0, .int .i64 0, .slice none 0 0, .slice none 0 0, .slice none 0 0, .slice none 0 0]
      obtain ⟨w0, hw0⟩ : ∃ w0, w0 = (w.alloc (.cells #[.int .i64 vi, .int .i64 nm, .bool cm, .slice a l.length c, .int .i64 ct] 25)).alloc (.cells #[.int .i64 0, .int .i64 0, .int .i64 0, .bool false, .slice none 0 0, .int .i64 0, .slice none 0 0, .slice none 0 0, .slice none 0 0, .slice none 0 0] 30) := ⟨_, rfl⟩
      have hsz : w0.heap.size > w.heap.size + 1 := by rw [hw0]; simp
      go_enter Tryd.func5, Tryd.ntmps5
      go_upto_region 1 with fail
      rw [← hw0] at b0 b1 hb ⊢
      clear hw0
      have HB0 : Hid (Box w0 w.heap.size _ _) := b0
      have HB1 : Hid (Box w0 (w.heap.size + 1) _ _) := b1
      have HBW : Hid (Below w.heap.size w w0) := hb
      have HSZ : Hid (w0.heap.size > w.heap.size + 1) := hsz
      have x0 := b0.cell 0 _ rfl
      have x1 := b0.cell 1 _ rfl
      have x2 := b0.cell 2 _ rfl
      have x3 := b0.cell 3 _ rfl
      have x4 := b0.cell 4 _ rfl
      clear b0 b1 hb hsz
      go_wp2_with fail
      refine (HP.out _).mono ?_
      rintro e w' ⟨rfl, h9⟩
      rw [h9]
      clear h9 w'
      go_wp2_with fail
      refine (HC.out _ HBW.out).mono ?_
      rintro e w1 ⟨rfl, hb1⟩
      have HB2 : Hid (Below w0.heap.size w0 w1) := hb1
      have r0 := HB0.out.below hb1 HB0.out.lt
      clear hb1 x0 x1 x2 x3 x4 HC
      have x0 := r0.cell 0 _ rfl
      have x1 := r0.cell 1 _ rfl
      have x2 := r0.cell 2 _ rfl
      have x3 := r0.cell 3 _ rfl
      have x4 := r0.cell 4 _ rfl
      clear r0
      go_wp2_with fail
      refine (HD.out _ (Below.far HBW.out HB2.out)).mono ?_
      rintro e w2 ⟨v2, rfl, ⟨vl2, rfl, ho2⟩, hb2⟩
      obtain ⟨a2, c2, rfl⟩ := own_form ho2
      have HO2 : Hid (World.ownsRow w2 _ _ _ _ _ _) := ho2
      have HB3 : Hid (Below w1.heap.size w1 w2) := hb2
      clear x0 x1 x2 x3 x4 ho2 hb2 HD
      go_wp2_with fail
      refine (HKN.out _ _ _ _).mono ?_
      rintro e w3 ⟨bh, bw, bg, bn, rfl, hF, hb3⟩
      have HB4 : Hid (Below w2.heap.size w2 w3) := hb3
      have r1 := ((HB1.out.below HB2.out HB1.out.lt).below HB3.out (HB1.out.below HB2.out HB1.out.lt).lt)
      have r1 := r1.below hb3 r1.lt
      have HR1 : Hid (Box w3 (w.heap.size + 1) _ _) := r1
      have HF : Hid (Four _ w3 _ _ _ _) := hF
      have y0 := r1.cell 0 _ rfl
      have y1 := r1.cell 1 _ rfl
      have y2 := r1.cell 2 _ rfl
      have y3 := r1.cell 3 _ rfl
      have y4 := r1.cell 4 _ rfl
      have y5 := r1.cell 5 _ rfl
      have y6 := r1.cell 6 _ rfl
      have y7 := r1.cell 7 _ rfl
      have y8 := r1.cell 8 _ rfl
      have y9 := r1.cell 9 _ rfl
      have f0 := r1.frozen 0
      have f1 := r1.frozen 1
      have f2 := r1.frozen 2
      have f3 := r1.frozen 3
      have f4 := r1.frozen 4
      have f5 := r1.frozen 5
      have f6 := r1.frozen 6
      have f7 := r1.frozen 7
      have f8 := r1.frozen 8
      have f9 := r1.frozen 9
      clear hF hb3 r1
      simp only [row3] at *
      go_wp2_with fail
      have key : ∀ w4, w4 = setAll w3 (w.heap.size + 1) 0 [.int .i64 me, .int .i64 vi, .int .i64 nm, .bool cm, .slice a2 l.length c2, .int .i64 ct, .slice (some ⟨bh, 0, none⟩) 3 3, .slice (some ⟨bw, 0, none⟩) 3 3, .slice (some ⟨bg, 0, none⟩) 3 3, .slice (some ⟨bn, 0, none⟩) 3 3] → Hid (Box w4 (w.heap.size + 1) 30 [.int .i64 me, .int .i64 vi, .int .i64 nm, .bool cm, .slice a2 l.length c2, .int .i64 ct, .slice (some ⟨bh, 0, none⟩) 3 3, .slice (some ⟨bw, 0, none⟩) 3 3, .slice (some ⟨bg, 0, none⟩) 3 3, .slice (some ⟨bn, 0, none⟩) 3 3] ∧ ReplNew w4 w.heap.size (.agg #[.int .i64 me, .int .i64 vi, .int .i64 nm, .bool cm, .slice a2 l.length c2, .int .i64 ct, .slice (some ⟨bh, 0, none⟩) 3 3, .slice (some ⟨bw, 0, none⟩) 3 3, .slice (some ⟨bg, 0, none⟩) 3 3, .slice (some ⟨bn, 0, none⟩) 3 3]) (forgot ⟨me, ⟨vi, nm, cm, l, ct⟩, [], [], [], []⟩) ∧ Below w.heap.size w w4) := by
        intro w4 e4
        have hs1 := HSZ.out
        have hs2 := HB2.out.size
        have hs3 := HB3.out.size
        have hO := four_own (HF.out.base (show w.heap.size ≤ _ by omega)) me ⟨vi, nm, cm, l, ct⟩ _ (own_base (own_below HO2.out HB4.out (own_lt HO2.out)) (by omega)) [] [] [] []
        subst e4
        refine ⟨setAll_box HR1.out _ rfl, ⟨_, _, _, _, _, _, rfl, hO.setAll HR1.out (by decide) (by decide) (by decide) (by decide) 0 _⟩, (setAll_beside _ _ _ _ (Beside.of (Below.far (Below.far (Below.far HBW.out HB2.out) HB3.out) HB4.out))).below (Nat.le_refl _) (by omega)⟩
      have key := key _ rfl
      simp only [setAll] at key
      generalize ((((((((((w3.setCell ⟨w.heap.size + 1, 0, none⟩ (.int .i64 me)).setCell ⟨w.heap.size + 1, 1, none⟩ (.int .i64 vi)).setCell ⟨w.heap.size + 1, 2, none⟩ (.int .i64 nm)).setCell ⟨w.heap.size + 1, 3, none⟩ (.bool cm)).setCell ⟨w.heap.size + 1, 4, none⟩ (.slice a2 l.length c2)).setCell ⟨w.heap.size + 1, 5, none⟩ (.int .i64 ct)).setCell ⟨w.heap.size + 1, 6, none⟩ (.slice (some ⟨bh, 0, none⟩) 3 3)).setCell ⟨w.heap.size + 1, 7, none⟩ (.slice (some ⟨bw, 0, none⟩) 3 3)).setCell ⟨w.heap.size + 1, 8, none⟩ (.slice (some ⟨bg, 0, none⟩) 3 3)).setCell ⟨w.heap.size + 1, 9, none⟩ (.slice (some ⟨bn, 0, none⟩) 3 3)) = w4 at key ⊢
      clear y0 y1 y2 y3 y4 y5 y6 y7 y8 y9 f0 f1 f2 f3 f4 f5 f6 f7 f8 f9
      have hR := key.out.1
      have y0 := hR.cell 0 _ rfl
      have y1 := hR.cell 1 _ rfl
      have y2 := hR.cell 2 _ rfl
      have y3 := hR.cell 3 _ rfl
      have y4 := hR.cell 4 _ rfl
      have y5 := hR.cell 5 _ rfl
      have y6 := hR.cell 6 _ rfl
      have y7 := hR.cell 7 _ rfl
      have y8 := hR.cell 8 _ rfl
      have y9 := hR.cell 9 _ rfl
      clear hR
      refine bodyPost_ret (v := .tuple #[.agg #[.int .i64 me, .int .i64 vi, .int .i64 nm, .bool cm, .slice a2 l.length c2, .int .i64 ct, .slice (some ⟨bh, 0, none⟩) 3 3, .slice (some ⟨bw, 0, none⟩) 3 3, .slice (some ⟨bg, 0, none⟩) 3 3, .slice (some ⟨bn, 0, none⟩) 3 3], .int .i64 0]) (by clear key HF HR1 HB0 HB1 HBW HO2 HB2 HB3 HB4; simp [results, Tryd.results5, go_sem, *]) rfl ⟨_, rfl, key.out.2.1, key.out.2.2⟩
    · obtain ⟨e1, e2⟩ := N2.out hp hk
      rw [e1, e2]
      clear N1 N2 N3 e1 e2 hpd hp HD
      obtain ⟨vi, nm, cm, l, ct⟩ := K
      generalize keptFault ⟨vi, nm, cm, l, ct⟩ = kf at *
      simp only at HC ⊢
      obtain ⟨b0, b1, hb⟩ := boxes2 w 25 30 [.int .i64 vi, .int .i64 nm, .bool cm, .slice a l.length c, .int .i64 ct] [.int .i64 0, .int .i64 0, .int .i64 0, .bool false, .slice none 0 0, .int .i64 0, .slice none 0 0, .slice none 0 0, .slice none 0 0, .slice none 0 0]
      obtain ⟨w0, hw0⟩ : ∃ w0, w0 = (w.alloc (.cells #[.int .i64 vi, .int .i64 nm, .bool cm, .slice a l.length c, .int .i64 ct] 25)).alloc (.cells #[.int .i64 0, .int .i64 0, .int .i64 0, .bool false, .slice none 0 0, .int .i64 0, .slice none 0 0, .slice none 0 0, .slice none 0 0, .slice none 0 0] 30) := ⟨_, rfl⟩
      go_enter Tryd.func5, Tryd.ntmps5
      go_upto_region 1 with fail
      rw [← hw0] at b0 b1 hb ⊢
      clear hw0
      have HB0 : Hid (Box w0 w.heap.size _ _) := b0
      have HB1 : Hid (Box w0 (w.heap.size + 1) _ _) := b1
      have HBW : Hid (Below w.heap.size w w0) := hb
      have x0 := b0.cell 0 _ rfl
      have x1 := b0.cell 1 _ rfl
      have x2 := b0.cell 2 _ rfl
      have x3 := b0.cell 3 _ rfl
      have x4 := b0.cell 4 _ rfl
      clear b0 b1 hb
      go_wp2_with fail
      refine (HP.out _).mono ?_
      rintro e w' ⟨rfl, h9⟩
      rw [h9]
      clear h9 w'
      go_wp2_with fail
      refine (HC.out _ HBW.out).mono ?_
      rintro e w1 ⟨rfl, hb1⟩
      have r1 := HB1.out.below hb1 HB1.out.lt
      have HR1 : Hid (Box w1 (w.heap.size + 1) _ _) := r1
      have HB2 : Hid (Below w.heap.size w w1) := Below.far HBW.out hb1
      have y0 := r1.cell 0 _ rfl
      have y1 := r1.cell 1 _ rfl
      have y2 := r1.cell 2 _ rfl
      have y3 := r1.cell 3 _ rfl
      have y4 := r1.cell 4 _ rfl
      have y5 := r1.cell 5 _ rfl
      have y6 := r1.cell 6 _ rfl
      have y7 := r1.cell 7 _ rfl
      have y8 := r1.cell 8 _ rfl
      have y9 := r1.cell 9 _ rfl
      have f0 := r1.frozen 0
      have f1 := r1.frozen 1
      have f2 := r1.frozen 2
      have f3 := r1.frozen 3
      have f4 := r1.frozen 4
      have f5 := r1.frozen 5
      have f6 := r1.frozen 6
      have f7 := r1.frozen 7
      have f8 := r1.frozen 8
      have f9 := r1.frozen 9
      clear hb1 x0 x1 x2 x3 x4 HC r1
      go_wp2_with fail
      have key : ∀ w4, w4 = setAll w1 (w.heap.size + 1) 0 [.int .i64 0, .int .i64 0, .int .i64 0, .bool false, .slice none 0 0, .int .i64 0, .slice none 0 0, .slice none 0 0, .slice none 0 0, .slice none 0 0] → Hid (Box w4 (w.heap.size + 1) 30 [.int .i64 0, .int .i64 0, .int .i64 0, .bool false, .slice none 0 0, .int .i64 0, .slice none 0 0, .slice none 0 0, .slice none 0 0, .slice none 0 0] ∧ Below w.heap.size w w4) := by
        intro w4 e4
        subst e4
        exact ⟨setAll_box HR1.out _ rfl, (setAll_beside _ _ _ _ (Beside.of HB2.out)).below (Nat.le_refl _) (by omega)⟩
      have key := key _ rfl
      simp only [setAll] at key
      generalize ((((((((((w1.setCell ⟨w.heap.size + 1, 0, none⟩ (.int .i64 0)).setCell ⟨w.heap.size + 1, 1, none⟩ (.int .i64 0)).setCell ⟨w.heap.size + 1, 2, none⟩ (.int .i64 0)).setCell ⟨w.heap.size + 1, 3, none⟩ (.bool false)).setCell ⟨w.heap.size + 1, 4, none⟩ (.slice none 0 0)).setCell ⟨w.heap.size + 1, 5, none⟩ (.int .i64 0)).setCell ⟨w.heap.size + 1, 6, none⟩ (.slice none 0 0)).setCell ⟨w.heap.size + 1, 7, none⟩ (.slice none 0 0)).setCell ⟨w.heap.size + 1, 8, none⟩ (.slice none 0 0)).setCell ⟨w.heap.size + 1, 9, none⟩ (.slice none 0 0)) = w4 at key ⊢
      clear y0 y1 y2 y3 y4 y5 y6 y7 y8 y9 f0 f1 f2 f3 f4 f5 f6 f7 f8 f9
      have hR := key.out.1
      have y0 := hR.cell 0 _ rfl
      have y1 := hR.cell 1 _ rfl
      have y2 := hR.cell 2 _ rfl
      have y3 := hR.cell 3 _ rfl
      have y4 := hR.cell 4 _ rfl
      have y5 := hR.cell 5 _ rfl
      have y6 := hR.cell 6 _ rfl
      have y7 := hR.cell 7 _ rfl
      have y8 := hR.cell 8 _ rfl
      have y9 := hR.cell 9 _ rfl
      clear hR
      exact bodyPost_ret (v := .tuple #[.agg #[.int .i64 0, .int .i64 0, .int .i64 0, .bool false, .slice none 0 0, .int .i64 0, .slice none 0 0, .slice none 0 0, .slice none 0 0, .slice none 0 0], .int .i64 kf]) (by clear key HR1 HB2; simp [results, Tryd.results5, go_sem, *]) rfl ⟨_, rfl, replNil _ _, key.out.2⟩
  · obtain ⟨e1, e2⟩ := N1.out hp
    rw [e1, e2]
    have hpd : (decide (0 ≤ me) && decide (me ≤ 2)) = false := by
      cases q : (decide (0 ≤ me) && decide (me ≤ 2))
      · rfl
      · exact absurd (by simpa using q) hp
    rw [hpd] at HP
    clear N1 N2 N3 e1 e2 hpd hp HD HC
    obtain ⟨vi, nm, cm, l, ct⟩ := K
    simp only
    obtain ⟨b0, b1, hb⟩ := boxes2 w 25 30 [.int .i64 vi, .int .i64 nm, .bool cm, .slice a l.length c, .int .i64 ct] [.int .i64 0, .int .i64 0, .int .i64 0, .bool false, .slice none 0 0, .int .i64 0, .slice none 0 0, .slice none 0 0, .slice none 0 0, .slice none 0 0]
    obtain ⟨w0, hw0⟩ : ∃ w0, w0 = (w.alloc (.cells #[.int .i64 vi, .int .i64 nm, .bool cm, .slice a l.length c, .int .i64 ct] 25)).alloc (.cells #[.int .i64 0, .int .i64 0, .int .i64 0, .bool false, .slice none 0 0, .int .i64 0, .slice none 0 0, .slice none 0 0, .slice none 0 0, .slice none 0 0] 30) := ⟨_, rfl⟩
    go_enter Tryd.func5, Tryd.ntmps5
    go_upto_region 1 with fail
    rw [← hw0] at b0 b1 hb ⊢
    clear hw0
    have HR1 : Hid (Box w0 (w.heap.size + 1) _ _) := b1
    have HB2 : Hid (Below w.heap.size w w0) := hb
    have y0 := b1.cell 0 _ rfl
    have y1 := b1.cell 1 _ rfl
    have y2 := b1.cell 2 _ rfl
    have y3 := b1.cell 3 _ rfl
    have y4 := b1.cell 4 _ rfl
    have y5 := b1.cell 5 _ rfl
    have y6 := b1.cell 6 _ rfl
    have y7 := b1.cell 7 _ rfl
    have y8 := b1.cell 8 _ rfl
    have y9 := b1.cell 9 _ rfl
    have f0 := b1.frozen 0
    have f1 := b1.frozen 1
    have f2 := b1.frozen 2
    have f3 := b1.frozen 3
    have f4 := b1.frozen 4
    have f5 := b1.frozen 5
    have f6 := b1.frozen 6
    have f7 := b1.frozen 7
    have f8 := b1.frozen 8
    have f9 := b1.frozen 9
    clear b0 b1 hb
    go_wp2_with fail
    refine (HP.out _).mono ?_
    rintro e w' ⟨rfl, h9⟩
    rw [h9]
    clear h9 w'
    go_wp2_with fail
    have key : ∀ w4, w4 = setAll w0 (w.heap.size + 1) 0 [.int .i64 0, .int .i64 0, .int .i64 0, .bool false, .slice none 0 0, .int .i64 0, .slice none 0 0, .slice none 0 0, .slice none 0 0, .slice none 0 0] → Hid (Box w4 (w.heap.size + 1) 30 [.int .i64 0, .int .i64 0, .int .i64 0, .bool false, .slice none 0 0, .int .i64 0, .slice none 0 0, .slice none 0 0, .slice none 0 0, .slice none 0 0] ∧ Below w.heap.size w w4) := by
      intro w4 e4
      subst e4
      exact ⟨setAll_box HR1.out _ rfl, (setAll_beside _ _ _ _ (Beside.of HB2.out)).below (Nat.le_refl _) (by omega)⟩
    have key := key _ rfl
    simp only [setAll] at key
    generalize ((((((((((w0.setCell ⟨w.heap.size + 1, 0, none⟩ (.int .i64 0)).setCell ⟨w.heap.size + 1, 1, none⟩ (.int .i64 0)).setCell ⟨w.heap.size + 1, 2, none⟩ (.int .i64 0)).setCell ⟨w.heap.size + 1, 3, none⟩ (.bool false)).setCell ⟨w.heap.size + 1, 4, none⟩ (.slice none 0 0)).setCell ⟨w.heap.size + 1, 5, none⟩ (.int .i64 0)).setCell ⟨w.heap.size + 1, 6, none⟩ (.slice none 0 0)).setCell ⟨w.heap.size + 1, 7, none⟩ (.slice none 0 0)).setCell ⟨w.heap.size + 1, 8, none⟩ (.slice none 0 0)).setCell ⟨w.heap.size + 1, 9, none⟩ (.slice none 0 0)) = w4 at key ⊢
    clear y0 y1 y2 y3 y4 y5 y6 y7 y8 y9 f0 f1 f2 f3 f4 f5 f6 f7 f8 f9
    have hR := key.out.1
    have y0 := hR.cell 0 _ rfl
    have y1 := hR.cell 1 _ rfl
    have y2 := hR.cell 2 _ rfl
    have y3 := hR.cell 3 _ rfl
    have y4 := hR.cell 4 _ rfl
    have y5 := hR.cell 5 _ rfl
    have y6 := hR.cell 6 _ rfl
    have y7 := hR.cell 7 _ rfl
    have y8 := hR.cell 8 _ rfl
    have y9 := hR.cell 9 _ rfl
    clear hR
    exact bodyPost_ret (v := .tuple #[.agg #[.int .i64 0, .int .i64 0, .int .i64 0, .bool false, .slice none 0 0, .int .i64 0, .slice none 0 0, .slice none 0 0, .slice none 0 0, .slice none 0 0], .int .i64 2]) (by clear key HR1 HB2; simp [results, Tryd.results5, go_sem, *]) rfl ⟨_, rfl, replNil _ _, key.out.2⟩

end Go.Proofs.YtmdgkjbiicaljagDoor
