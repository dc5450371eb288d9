/- The program's own stage.Decode. -/
import Derived.Test.YtdnogggadocilaeDoorKdecGo2
import Derived.Test.YtdnogggadocilaeDoorRlogGo
namespace Go.Proofs.YtdnogggadocilaeDoor
open Go.RowKit
set_option linter.unusedVariables false
set_option linter.unusedSimpArgs false
attribute [local go_sem] app_list ext_list get_list byteAt_zero

theorem body_head (t : List UInt8) : bodyE t = if headE t ≠ 0 then headE t else if txtsE (nAt t 5).toNat (numsR 6 t) ≠ 0 then txtsE (nAt t 5).toNat (numsR 6 t) else if txtsR (nAt t 5).toNat (numsR 6 t) ≠ [] then 4 else keptFault (keptP t) := by
  by_cases h1 : numsE 6 t = 0
  · have q : ¬ numsE 6 t ≠ 0 := by simp [h1]
    by_cases h2 : 1 < nAt t 3 ∨ 60 < nAt t 5
    · have e : headE t = 4 := by unfold headE; rw [if_neg q, if_pos h2]
      rw [e]
      unfold bodyE
      rw [if_neg q, if_pos h2, if_pos (show (4 : Int) ≠ 0 by decide)]
    · have e : headE t = 0 := by unfold headE; rw [if_neg q, if_neg h2]
      rw [e]
      unfold bodyE
      rw [if_neg q, if_neg h2, if_neg (show ¬ (0 : Int) ≠ 0 by decide)]
  · have e : headE t = numsE 6 t := by unfold headE; rw [if_pos h1]
    rw [e]
    unfold bodyE
    rw [if_pos h1, if_pos h1]
theorem six_list (l : List Int) (h : l.length = 6) : l = [l.getD 0 0, l.getD 1 0, l.getD 2 0, l.getD 3 0, l.getD 4 0, l.getD 5 0] := by
  match l, h with
  | [a, b, c, d, e, f], _ => rfl
theorem head_ok (t : List UInt8) (h : headE t = 0) : headV t = [nAt t 0, nAt t 1, nAt t 2, nAt t 3, nAt t 4, nAt t 5] ∧ headR t = numsR 6 t ∧ nAt t 5 ≤ 60 := by
  refine ⟨by unfold headV; rw [if_pos h]; exact six_list _ (numsV_len 6 t), by unfold headR; rw [if_pos h], ?_⟩
  unfold headE at h
  split at h
  · omega
  · split at h
    · omega
    · omega
theorem head_no (t : List UInt8) (h : headE t ≠ 0) : headV t = [0, 0, 0, 0, 0, 0] ∧ headR t = [] := by
  unfold headV headR
  rw [if_neg h, if_neg h]
  exact ⟨rfl, rfl⟩

set_option maxHeartbeats 4000000 in
theorem stageDec_any (s : List UInt8) (w : World) (hl : s.length ≤ 281474976710656) :
    Calls Tryd.prog 12 #[.string ⟨s.toArray⟩] w fun e w' => ∃ v', e = .returned (.tuple #[v', .int .i64 (kdecG s), .int .i64 (kdecE s)]) ∧ KeptNew w' w.heap.size v' (kdecK s) ∧ Below w.heap.size w w' := by
  have b0 := Box.new w 25 [.int .i64 0, .int .i64 0, .bool false, .slice none 0 0, .int .i64 0]
  have hb := below_alloc w (.cells #[.int .i64 0, .int .i64 0, .bool false, .slice none 0 0, .int .i64 0] 25)
  have HU : Hid (∀ w, Calls _ _ _ w _) := fun w => unseal_any s w hl
  have HKU : Hid (kdecE s = if unsE s = 0 then bodyE (s.drop 4) else unsE s) := kdecE_uns s
  have HUB : Hid (unsE s = 0 → (unsB s).length ≤ 4000 ∧ unsB s = s.drop 4) := unsB_le s
  have HKZ : Hid (kdecE s ≠ 0 → kdecG s = 0 ∧ kdecK s = zeroKept) := kdec_err s
  have HKK : Hid (kdecE s = 0 → kdecK s = keptP (s.drop 4) ∧ kdecG s = nAt (s.drop 4) 0) := by
    intro h
    unfold kdecK kdecG
    rw [if_pos h, if_pos h]
    exact ⟨rfl, rfl⟩
  obtain ⟨T, hT⟩ : ∃ T, s.drop 4 = T := ⟨_, rfl⟩
  rw [hT] at HKU HUB HKK
  clear hT
  obtain ⟨x, hx⟩ : ∃ x, unsE s = x := ⟨_, rfl⟩
  obtain ⟨B, hB⟩ : ∃ B, unsB s = B := ⟨_, rfl⟩
  rw [hx] at HU HKU HUB
  rw [hB] at HU HUB
  clear hx hB
  go_enter Tryd.func12, Tryd.ntmps12
  go_wp2_with fail
  refine (HU.out _).mono ?_
  rintro e w1 ⟨rfl, hb1⟩
  have c0 := b0.below hb1 b0.lt
  have hw1 := Below.seq hb hb1
  clear b0 hb hb1 HU
  by_cases hx0 : x = 0
  · subst hx0
    obtain ⟨hBl, rfl⟩ := HUB.out rfl
    have HKB : Hid (kdecE s = if headE B ≠ 0 then headE B else if txtsE (nAt B 5).toNat (numsR 6 B) ≠ 0 then txtsE (nAt B 5).toNat (numsR 6 B) else if txtsR (nAt B 5).toNat (numsR 6 B) ≠ [] then 4 else keptFault (keptP B)) := by
      unfold Hid
      rw [HKU.out, if_pos rfl, body_head]
    have HH : Hid (∀ w, Calls _ _ _ w _) := fun w => readHead_any B w hBl
    have HO : Hid (headE B = 0 → headV B = [nAt B 0, nAt B 1, nAt B 2, nAt B 3, nAt B 4, nAt B 5] ∧ headR B = numsR 6 B ∧ nAt B 5 ≤ 60) := head_ok B
    have HN : Hid (headE B ≠ 0 → headV B = [0, 0, 0, 0, 0, 0] ∧ headR B = []) := head_no B
    clear HKU HUB
    obtain ⟨y, hy⟩ : ∃ y, headE B = y := ⟨_, rfl⟩
    rw [hy] at HKB HH HO HN
    clear hy
    by_cases hy0 : y = 0
    · subst hy0
      obtain ⟨e1, e2, h60⟩ := HO.out rfl
      rw [e1, e2] at HH
      have HKC : Hid (kdecE s = if txtsE (nAt B 5).toNat (numsR 6 B) ≠ 0 then txtsE (nAt B 5).toNat (numsR 6 B) else if txtsR (nAt B 5).toNat (numsR 6 B) ≠ [] then 4 else keptFault (keptP B)) := by
        unfold Hid
        rw [HKB.out, if_neg (by decide)]
      have h0 := (nAt_bd B 5).1
      have hRl := numsR_le 6 B
      have HKP : Hid (keptP B = ⟨nAt B 1, nAt B 2, nAt B 3 == 1, txtsD (nAt B 5).toNat (numsR 6 B), nAt B 4⟩) := rfl
      obtain ⟨KP, HKP1⟩ : ∃ KP, keptP B = KP := ⟨_, rfl⟩
      rw [HKP1] at HKP HKC HKK
      clear HKB HO HN e1 e2 HKP1
      generalize nAt B 0 = n0 at *
      generalize nAt B 1 = n1 at *
      generalize nAt B 2 = n2 at *
      generalize nAt B 3 = n3 at *
      generalize nAt B 4 = n4 at *
      generalize nAt B 5 = n5 at *
      generalize numsR 6 B = R at *
      obtain ⟨m, hm⟩ : ∃ m : Nat, n5 = (m : Int) := ⟨n5.toNat, by omega⟩
      subst hm
      rw [Int.toNat_natCast] at HKC HKP
      have hm60 : m ≤ 60 := by omega
      have HL : Hid (∀ w, Calls _ _ _ w _) := fun w => readLog_any R m w (by omega) hm60
      have HRD : Hid (txtsE m R = 0 → rlogD m R = txtsD m R ∧ rlogR m R = txtsR m R) := fun h => ⟨by unfold rlogD; rw [if_pos h], by unfold rlogR; rw [if_pos h]⟩
      have hDl := txtsD_len m R
      have hDb : ∀ x ∈ txtsD m R, x.length ≤ 140737488355328 := fun x hx => by have := txtsD_le m R x hx; omega
      have HDB : Hid (∀ x ∈ txtsD m R, x.length ≤ 140737488355328) := hDb
      clear hDb
      obtain ⟨z, hz⟩ : ∃ z, txtsE m R = z := ⟨_, rfl⟩
      rw [hz] at HKC HL HRD
      clear hz
      unfold numCells at HH
      go_wp2_with fail
      refine (HH.out _).mono ?_
      rintro e w2 ⟨rfl, hb2⟩
      simp only [List.map_cons, List.map_nil]
      have d0 := c0.below hb2 c0.lt
      have hw2 := Below.seq hw1 hb2
      clear c0 hw1 hb2 HH
      have H7 : Hid (Box _ w2.heap.size 48 [.int .i64 n0, .int .i64 n1, .int .i64 n2, .int .i64 n3, .int .i64 n4, .int .i64 m]) := Box.new w2 48 [.int .i64 n0, .int .i64 n1, .int .i64 n2, .int .i64 n3, .int .i64 n4, .int .i64 m]
      have HD : Hid (Box _ w.heap.size _ _) := d0.alloc (.cells #[.int .i64 n0, .int .i64 n1, .int .i64 n2, .int .i64 n3, .int .i64 n4, .int .i64 m] 48)
      have HW : Hid (Below w.heap.size w _) := Below.up hw2 (.cells #[.int .i64 n0, .int .i64 n1, .int .i64 n2, .int .i64 n3, .int .i64 n4, .int .i64 m] 48)
      have hlt := d0.lt
      clear d0 hw2
      go_wp2_with fail
      refine (HL.out _).mono ?_
      rintro e w3 ⟨v3, rfl, hown3, hb3⟩
      obtain ⟨a3, c3, rfl⟩ := own_formN hown3
      have q7 := H7.out.below hb3 H7.out.lt
      have q0 := HD.out.below hb3 HD.out.lt
      have hw3 := Below.far HW.out hb3
      have hown := own_base (base' := w.heap.size) hown3 (by simp; omega)
      clear H7 HD HW hb3 hown3 HL
      obtain ⟨b7, hb7⟩ : ∃ b7, w2.heap.size = b7 := ⟨_, rfl⟩
      rw [hb7] at q7 hlt ⊢
      clear hb7
      by_cases hz0 : z = 0
      · subst hz0
        obtain ⟨e1, e2⟩ := HRD.out rfl
        rw [e1] at hown ⊢
        rw [e2]
        have HKD : Hid (kdecE s = if txtsR m R ≠ [] then 4 else keptFault KP) := by
          unfold Hid
          rw [HKC.out, if_neg (by decide)]
        clear HKC HRD e1 e2
        obtain ⟨u, hu⟩ : ∃ u, txtsR m R = u := ⟨_, rfl⟩
        rw [hu] at HKD ⊢
        clear hu
        have hcu : u = [] ∨ ∃ c r, u = c :: r := by cases u; exact Or.inl rfl; exact Or.inr ⟨_, _, rfl⟩
        rcases hcu with rfl | ⟨cu', ru, rfl⟩
        · have HBI : Hid (kdecE s = keptFault KP) := by unfold Hid; rw [HKD.out, if_neg (by simp)]
          clear HKD
          obtain ⟨LG, HLG⟩ : ∃ LG, txtsD m R = LG := ⟨_, rfl⟩
          rw [HLG] at hown HKP hDl HDB ⊢
          clear HLG
          have HKN : Hid (KeptNew w3 w.heap.size (.agg #[.int .i64 n1, .int .i64 n2, .bool (n3 == 1), .slice a3 LG.length c3, .int .i64 n4]) KP) := by
            unfold Hid
            rw [HKP.out]
            exact ⟨_, rfl, hown⟩
          have HF : Hid (∀ W, Below w3.heap.size w3 W → Calls _ _ _ W _) := fun W hW => stageCheck_any KP _ W ((HKN.out.at (by rw [HKP.out]; simp only [hDl]; omega) (by rw [HKP.out]; exact HDB.out)).below hW)
          obtain ⟨f, hf⟩ : ∃ f, keptFault KP = f := ⟨_, rfl⟩
          rw [hf] at HF HBI
          clear hf HDB hown
          obtain ⟨kc, hkc⟩ : ∃ kc, (n3 == 1) = kc := ⟨_, rfl⟩
          rw [hkc] at HKN HF HKP
          rw [hDl] at HKN HF ⊢
          clear hDl
          have HQ0 : Hid (Box w3 w.heap.size _ _) := q0
          have HQ7 : Hid (Box w3 b7 _ _) := q7
          have HW3 : Hid (Below w.heap.size w w3) := hw3
          have x1 := q7.cell 1 _ rfl
          have x2 := q7.cell 2 _ rfl
          have x3 := q7.cell 3 _ rfl
          have x4 := q7.cell 4 _ rfl
          have l7 := q7.lt
          clear q0 q7 hw3
          go_wp2_with fail
          have H10 : Hid (∀ O, Box (w3.alloc O) b7 _ _) := fun O => HQ7.out.alloc O
          have HK10 : Hid (Box _ w3.heap.size 25 [.int .i64 n1, .int .i64 n2, .bool kc, .slice a3 m c3, .int .i64 n4]) := Box.new w3 25 [.int .i64 n1, .int .i64 n2, .bool kc, .slice a3 m c3, .int .i64 n4]
          clear hkc
          refine (HF.out _ (below_alloc _ _)).mono ?_
          rintro e w5 ⟨rfl, hb5⟩
          have K10 := HK10.out.below hb5 HK10.out.lt
          have K7 := (H10.out _).below hb5 (H10.out _).lt
          have K0 := (HQ0.out.alloc _).below hb5 (HQ0.out.alloc _).lt
          have hw5 := Below.far HW3.out (Below.far (below_alloc _ _) hb5)
          have HN5 : Hid (KeptNew w5 w.heap.size _ KP) := HKN.out.below (Below.far (below_alloc _ _) hb5)
          obtain ⟨b10, hb10⟩ : ∃ b10, w3.heap.size = b10 := ⟨_, rfl⟩
          rw [hb10] at K10 l7 ⊢
          clear hb10 HK10 H10 hb5 HF HQ0 HQ7 HW3 HKN x1 x2 x3 x4
          by_cases hf0 : f = 0
          · subst hf0
            have HX : Hid (kdecE s = 0 ∧ kdecG s = n0 ∧ kdecK s = KP) := ⟨HBI.out, (HKK.out HBI.out).2, (HKK.out HBI.out).1⟩
            have p0 := K10.cell 0 _ rfl
            have p1 := K10.cell 1 _ rfl
            have p2 := K10.cell 2 _ rfl
            have p3 := K10.cell 3 _ rfl
            have p4 := K10.cell 4 _ rfl
            have lp := K10.lt
            have x0 := K7.cell 0 _ rfl
            have lx := K7.lt
            have n9 : ¬ b10 = w.heap.size := by omega
            have nn : ¬ b7 = w.heap.size := by omega
            have HNN : Hid (KeptNew _ w.heap.size _ KP) := ((((HN5.out.type K0 (by decide) 0 (.int .i64 n1)).type (K0.set 0 _) (by decide) 1 (.int .i64 n2)).type ((K0.set 0 _).set 1 _) (by decide) 2 (.bool kc)).type (((K0.set 0 _).set 1 _).set 2 _) (by decide) 3 (.slice a3 m c3)).type ((((K0.set 0 _).set 1 _).set 2 _).set 3 _) (by decide) 4 (.int .i64 n4)
            have r0 := K0.cell 0 _ rfl
            have r1 := K0.cell 1 _ rfl
            have r2 := K0.cell 2 _ rfl
            have r3 := K0.cell 3 _ rfl
            have r4 := K0.cell 4 _ rfl
            have f0 := K0.frozen 0
            have f1 := K0.frozen 1
            have f2 := K0.frozen 2
            have f3 := K0.frozen 3
            have f4 := K0.frozen 4
            have HB : Hid (Below w.heap.size w _) := (((((hw5.setCell (p := ⟨w.heap.size, 0, none⟩) (by simp) (.int .i64 n1)).setCell (p := ⟨w.heap.size, 1, none⟩) (by simp) (.int .i64 n2)).setCell (p := ⟨w.heap.size, 2, none⟩) (by simp) (.bool kc)).setCell (p := ⟨w.heap.size, 3, none⟩) (by simp) (.slice a3 m c3)).setCell (p := ⟨w.heap.size, 4, none⟩) (by simp) (.int .i64 n4))
            clear K0 K7 K10 hw5 HN5 HKK HKZ
            go_wp2_with fail
            go_region
            all_goals go_wp2_with fail
            all_goals rw [HX.out.1, HX.out.2.1, HX.out.2.2]
            all_goals exact bodyPost_ret (v := .tuple #[.agg #[.int .i64 n1, .int .i64 n2, .bool kc, .slice a3 m c3, .int .i64 n4], .int .i64 n0, .int .i64 0]) (by clear HB HNN; simp [results, Tryd.results12, go_sem, *]) rfl ⟨_, rfl, HNN.out, HB.out.drew⟩
          · have c1 : (f == 0) = false := by simpa using hf0
            have c2 : (f != 0) = true := by simpa using hf0
            have HX : Hid (kdecE s = f ∧ kdecG s = 0 ∧ kdecK s = zeroKept) := ⟨HBI.out, HKZ.out (by rw [HBI.out]; exact hf0)⟩
            have r0 := K0.cell 0 _ rfl
            have r1 := K0.cell 1 _ rfl
            have r2 := K0.cell 2 _ rfl
            have r3 := K0.cell 3 _ rfl
            have r4 := K0.cell 4 _ rfl
            have f0 := K0.frozen 0
            have f1 := K0.frozen 1
            have f2 := K0.frozen 2
            have f3 := K0.frozen 3
            have f4 := K0.frozen 4
            have HB : Hid (Below w.heap.size w _) := (((((hw5.setCell (p := ⟨w.heap.size, 0, none⟩) (by simp) (.int .i64 0)).setCell (p := ⟨w.heap.size, 1, none⟩) (by simp) (.int .i64 0)).setCell (p := ⟨w.heap.size, 2, none⟩) (by simp) (.bool false)).setCell (p := ⟨w.heap.size, 3, none⟩) (by simp) (.slice none 0 0)).setCell (p := ⟨w.heap.size, 4, none⟩) (by simp) (.int .i64 0))
            clear K0 K7 K10 hw5 HN5 HKK HKZ hf0
            go_wp2_with fail
            rw [HX.out.1, HX.out.2.1, HX.out.2.2]
            exact bodyPost_ret (v := .tuple #[.agg #[.int .i64 0, .int .i64 0, .bool false, .slice none 0 0, .int .i64 0], .int .i64 0, .int .i64 f]) (by clear HB; simp [results, Tryd.results12, go_sem, *]) rfl ⟨_, rfl, KeptNew.nil _ _, HB.out⟩
        · have HX : Hid (kdecE s = 4 ∧ kdecG s = 0 ∧ kdecK s = zeroKept) := by
            have e : kdecE s = 4 := by rw [HKD.out, if_pos (by simp)]
            exact ⟨e, HKZ.out (by rw [e]; decide)⟩
          have r0 := q0.cell 0 _ rfl
          have r1 := q0.cell 1 _ rfl
          have r2 := q0.cell 2 _ rfl
          have r3 := q0.cell 3 _ rfl
          have r4 := q0.cell 4 _ rfl
          have f0 := q0.frozen 0
          have f1 := q0.frozen 1
          have f2 := q0.frozen 2
          have f3 := q0.frozen 3
          have f4 := q0.frozen 4
          have HB : Hid (Below w.heap.size w _) := (((((hw3.setCell (p := ⟨w.heap.size, 0, none⟩) (by simp) (.int .i64 0)).setCell (p := ⟨w.heap.size, 1, none⟩) (by simp) (.int .i64 0)).setCell (p := ⟨w.heap.size, 2, none⟩) (by simp) (.bool false)).setCell (p := ⟨w.heap.size, 3, none⟩) (by simp) (.slice none 0 0)).setCell (p := ⟨w.heap.size, 4, none⟩) (by simp) (.int .i64 0))
          clear q0 q7 hw3 hown HKD
          go_wp2_with fail
          rw [HX.out.1, HX.out.2.1, HX.out.2.2]
          exact bodyPost_ret (v := .tuple #[.agg #[.int .i64 0, .int .i64 0, .bool false, .slice none 0 0, .int .i64 0], .int .i64 0, .int .i64 4]) (by clear HB; simp [results, Tryd.results12, go_sem, *]) rfl ⟨_, rfl, KeptNew.nil _ _, HB.out⟩
      · have t1 : (z == 0) = false := by simpa using hz0
        have t2 : (z != 0) = true := by simpa using hz0
        have HX : Hid (kdecE s = z ∧ kdecG s = 0 ∧ kdecK s = zeroKept) := by
          have e : kdecE s = z := by rw [HKC.out, if_pos hz0]
          exact ⟨e, HKZ.out (by rw [e]; exact hz0)⟩
        have r0 := q0.cell 0 _ rfl
        have r1 := q0.cell 1 _ rfl
        have r2 := q0.cell 2 _ rfl
        have r3 := q0.cell 3 _ rfl
        have r4 := q0.cell 4 _ rfl
        have f0 := q0.frozen 0
        have f1 := q0.frozen 1
        have f2 := q0.frozen 2
        have f3 := q0.frozen 3
        have f4 := q0.frozen 4
        have HB : Hid (Below w.heap.size w _) := (((((hw3.setCell (p := ⟨w.heap.size, 0, none⟩) (by simp) (.int .i64 0)).setCell (p := ⟨w.heap.size, 1, none⟩) (by simp) (.int .i64 0)).setCell (p := ⟨w.heap.size, 2, none⟩) (by simp) (.bool false)).setCell (p := ⟨w.heap.size, 3, none⟩) (by simp) (.slice none 0 0)).setCell (p := ⟨w.heap.size, 4, none⟩) (by simp) (.int .i64 0))
        clear q0 q7 hw3 hown HKC HRD hz0
        go_wp2_with fail
        rw [HX.out.1, HX.out.2.1, HX.out.2.2]
        exact bodyPost_ret (v := .tuple #[.agg #[.int .i64 0, .int .i64 0, .bool false, .slice none 0 0, .int .i64 0], .int .i64 0, .int .i64 z]) (by clear HB; simp [results, Tryd.results12, go_sem, *]) rfl ⟨_, rfl, KeptNew.nil _ _, HB.out⟩
    · obtain ⟨e1, e2⟩ := HN.out hy0
      rw [e1, e2] at HH
      have t1 : (y == 0) = false := by simpa using hy0
      have t2 : (y != 0) = true := by simpa using hy0
      have HX : Hid (kdecE s = y ∧ kdecG s = 0 ∧ kdecK s = zeroKept) := by
        have e : kdecE s = y := by rw [HKB.out, if_pos hy0]
        exact ⟨e, HKZ.out (by rw [e]; exact hy0)⟩
      clear HKB HO HN e1 e2 hy0 HKK HKZ
      unfold numCells at HH
      go_wp2_with fail
      refine (HH.out _).mono ?_
      rintro e w2 ⟨rfl, hb2⟩
      simp only [List.map_cons, List.map_nil]
      have d0 := (c0.below hb2 c0.lt).alloc (.cells #[.int .i64 0, .int .i64 0, .int .i64 0, .int .i64 0, .int .i64 0, .int .i64 0] 48)
      have hw2 := Below.up (Below.seq hw1 hb2) (.cells #[.int .i64 0, .int .i64 0, .int .i64 0, .int .i64 0, .int .i64 0, .int .i64 0] 48)
      clear c0 hw1 hb2 HH
      obtain ⟨w3, hw3e⟩ : ∃ w3, w3 = w2.alloc (.cells #[.int .i64 0, .int .i64 0, .int .i64 0, .int .i64 0, .int .i64 0, .int .i64 0] 48) := ⟨_, rfl⟩
      go_upto_region 5 with fail
      rw [← hw3e] at d0 hw2 ⊢
      clear hw3e
      have r0 := d0.cell 0 _ rfl
      have r1 := d0.cell 1 _ rfl
      have r2 := d0.cell 2 _ rfl
      have r3 := d0.cell 3 _ rfl
      have r4 := d0.cell 4 _ rfl
      have f0 := d0.frozen 0
      have f1 := d0.frozen 1
      have f2 := d0.frozen 2
      have f3 := d0.frozen 3
      have f4 := d0.frozen 4
      have HB : Hid (Below w.heap.size w _) := (((((hw2.setCell (p := ⟨w.heap.size, 0, none⟩) (by simp) (.int .i64 0)).setCell (p := ⟨w.heap.size, 1, none⟩) (by simp) (.int .i64 0)).setCell (p := ⟨w.heap.size, 2, none⟩) (by simp) (.bool false)).setCell (p := ⟨w.heap.size, 3, none⟩) (by simp) (.slice none 0 0)).setCell (p := ⟨w.heap.size, 4, none⟩) (by simp) (.int .i64 0))
      clear d0 hw2
      go_wp2_with fail
      rw [HX.out.1, HX.out.2.1, HX.out.2.2]
      exact bodyPost_ret (v := .tuple #[.agg #[.int .i64 0, .int .i64 0, .bool false, .slice none 0 0, .int .i64 0], .int .i64 0, .int .i64 y]) (by clear HB; simp [results, Tryd.results12, go_sem, *]) rfl ⟨_, rfl, KeptNew.nil _ _, HB.out⟩
  · have t1 : (x == 0) = false := by simpa using hx0
    have t2 : (x != 0) = true := by simpa using hx0
    have HX : Hid (kdecE s = x ∧ kdecG s = 0 ∧ kdecK s = zeroKept) := by
      have e : kdecE s = x := by rw [HKU.out, if_neg hx0]
      exact ⟨e, HKZ.out (by rw [e]; exact hx0)⟩
    have r0 := c0.cell 0 _ rfl
    have r1 := c0.cell 1 _ rfl
    have r2 := c0.cell 2 _ rfl
    have r3 := c0.cell 3 _ rfl
    have r4 := c0.cell 4 _ rfl
    have f0 := c0.frozen 0
    have f1 := c0.frozen 1
    have f2 := c0.frozen 2
    have f3 := c0.frozen 3
    have f4 := c0.frozen 4
    have HB : Hid (Below w.heap.size w _) := (((((hw1.setCell (p := ⟨w.heap.size, 0, none⟩) (by simp) (.int .i64 0)).setCell (p := ⟨w.heap.size, 1, none⟩) (by simp) (.int .i64 0)).setCell (p := ⟨w.heap.size, 2, none⟩) (by simp) (.bool false)).setCell (p := ⟨w.heap.size, 3, none⟩) (by simp) (.slice none 0 0)).setCell (p := ⟨w.heap.size, 4, none⟩) (by simp) (.int .i64 0))
    clear c0 hw1 HKU HUB HKZ HKK hx0
    go_wp2_with fail
    rw [HX.out.1, HX.out.2.1, HX.out.2.2]
    exact bodyPost_ret (v := .tuple #[.agg #[.int .i64 0, .int .i64 0, .bool false, .slice none 0 0, .int .i64 0], .int .i64 0, .int .i64 x]) (by clear HB; simp [results, Tryd.results12, go_sem, *]) rfl ⟨_, rfl, KeptNew.nil _ _, HB.out⟩

end Go.Proofs.YtdnogggadocilaeDoor
