/- The walk of the document's answer KeptOf. -/
import Derived.Test.YtdnogggadocilaeKeptRef
import Derived.Test.YtdnogggadocilaeNumIs
import Derived.Test.YtdnogggadocilaeSealRef
import Derived.Test.YtdnogggadocilaeStageMath
import Derived.Test.YtdnogggadocilaeNumCells
import Derived.Deep.DeepCutAuto
namespace Go.Proofs.Ytdnogggadocilae
open Go.RowKit
set_option linter.unusedVariables false
set_option linter.unusedSimpArgs false
attribute [local go_sem] app_list ext_list get_list byteAt_zero

theorem refMakeInts6 (w : World) : (Instr.makeSlice 49 (.int .i64 6) (.int .i64 6)).run Try.prog w = .ok (.slice (some ⟨w.heap.size, 0, none⟩) 6 6) (w.alloc (.cells #[.int .i64 0, .int .i64 0, .int .i64 0, .int .i64 0, .int .i64 0, .int .i64 0] 3)) := by kernel_rfl
theorem enter_sealOf (us : Array Value) (w : World) : (callFunc 21 us).run Try.prog w = .ok (.enter 21 us) w := by kernel_rfl

set_option maxHeartbeats 2000000 in
theorem keptOf_size (s : List UInt8) (w : World) (hl : s.length ≤ 281474976710656) (h : 4000 < s.length ∨ s.length < 4) :
    Calls Try.prog 8 #[.string ⟨s.toArray⟩] w fun e w' => ∃ v', e = .returned (.tuple #[v', .int .i64 (kdecG s), .int .i64 (kdecE s)]) ∧ KeptNew w' w.heap.size v' (kdecK s) ∧ Below w.heap.size w w' := by
  have b0 := Box.new w 24 [.int .i64 0, .int .i64 0, .bool false, .slice none 0 0, .int .i64 0]
  have hb := below_alloc w (.cells #[.int .i64 0, .int .i64 0, .bool false, .slice none 0 0, .int .i64 0] 24)
  by_cases h1 : 4000 < s.length
  · have HX : Hid (kdecE s = 1 ∧ kdecG s = 0 ∧ kdecK s = zeroKept) := by
      have e : kdecE s = 1 := by unfold kdecE; rw [if_pos h1]
      exact ⟨e, kdec_err s (by omega)⟩
    have q : decide ((4000 : Int) < (s.length : Int)) = true := by simp; omega
    clear h h1
    go_enter Try.func8, Try.ntmps8
    have HB : Hid (Below w.heap.size w _) := hb
    clear b0 hb
    go_wp2_with fail
    rw [HX.out.1, HX.out.2.1, HX.out.2.2]
    exact bodyPost_ret (v := .tuple #[.agg #[.int .i64 0, .int .i64 0, .bool false, .slice none 0 0, .int .i64 0], .int .i64 0, .int .i64 1]) (by clear HB; simp [results, Try.results8, go_sem, *]) rfl ⟨_, rfl, KeptNew.nil _ _, HB.out⟩
  · have h2 : s.length < 4 := by omega
    have HX : Hid (kdecE s = 5 ∧ kdecG s = 0 ∧ kdecK s = zeroKept) := by
      have e : kdecE s = 5 := by unfold kdecE; rw [if_neg h1, if_pos h2]
      exact ⟨e, kdec_err s (by omega)⟩
    have q : decide ((4000 : Int) < (s.length : Int)) = false := by simp; omega
    have q2 : decide ((s.length : Int) < 4) = true := by simp; omega
    clear h h1 h2
    go_enter Try.func8, Try.ntmps8
    have HB : Hid (Below w.heap.size w _) := hb
    clear b0 hb
    go_wp2_with fail
    rw [HX.out.1, HX.out.2.1, HX.out.2.2]
    exact bodyPost_ret (v := .tuple #[.agg #[.int .i64 0, .int .i64 0, .bool false, .slice none 0 0, .int .i64 0], .int .i64 0, .int .i64 5]) (by clear HB; simp [results, Try.results8, go_sem, *]) rfl ⟨_, rfl, KeptNew.nil _ _, HB.out⟩

/-- What holds while the six numbers are read. -/
structure NumsInv (w : World) (bn : Nat) (ns : List Int) (wr : World) : Prop where
  below : Below w.heap.size w wr
  res : Box wr w.heap.size 24 [.int .i64 0, .int .i64 0, .bool false, .slice none 0 0, .int .i64 0]
  nums : Box wr bn 3 (numCells ns)
  gt : w.heap.size < bn

theorem NumsInv.next {w wr wx : World} {bn : Nat} {ns : List Int} (I : NumsInv w bn ns wr) (hb : Below wr.heap.size wr wx) : NumsInv w bn ns wx :=
  ⟨Below.far I.below hb, I.res.below hb I.res.lt, I.nums.below hb I.nums.lt, I.gt⟩
theorem NumsInv.set {w wr : World} {bn : Nat} {ns : List Int} (I : NumsInv w bn ns wr) (k : Nat) (x : Int) : NumsInv w bn (ns.set k x) (wr.setCell ⟨bn, k, none⟩ (.int .i64 x)) := by
  have hgt := I.gt
  refine ⟨I.below.setCell (by simp; omega) _, I.res.other _ (by simp; omega), ?_, hgt⟩
  have := I.nums.set k (.int .i64 x)
  unfold numCells at this ⊢
  rw [List.map_set]
  exact this

/-- What holds while texts are read into the log of what is kept. -/
structure LogInv (w : World) (bn b9 : Nat) (ns : List Int) (k1 k2 : Int) (kc : Bool) (k4 : Int) (k : Nat) (vl : Value) (xs : List Value) (wr : World) : Prop where
  below : Below w.heap.size w wr
  res : Box wr w.heap.size 24 [.int .i64 0, .int .i64 0, .bool false, .slice none 0 0, .int .i64 0]
  nums : Box wr bn 3 (numCells ns)
  kept : Box wr b9 24 [.int .i64 k1, .int .i64 k2, .bool kc, vl, .int .i64 k4]
  row : wr.ownsRow w.heap.size 9 1 vl k xs
  g1 : w.heap.size < bn
  g2 : bn < b9
theorem LogInv.next {w wr wx : World} {bn b9 : Nat} {ns : List Int} {k1 k2 : Int} {kc : Bool} {k4 : Int} {k : Nat} {vl : Value} {xs : List Value} (I : LogInv w bn b9 ns k1 k2 kc k4 k vl xs wr) (hb : Below wr.heap.size wr wx) : LogInv w bn b9 ns k1 k2 kc k4 k vl xs wx :=
  ⟨Below.far I.below hb, I.res.below hb I.res.lt, I.nums.below hb I.nums.lt, I.kept.below hb I.kept.lt, own_below I.row hb (own_lt I.row), I.g1, I.g2⟩
theorem LogInv.keptB {w wr wB : World} {bn b9 : Nat} {ns : List Int} {k1 k2 : Int} {kc : Bool} {k4 : Int} {k : Nat} {vl : Value} {xs : List Value} {O : Obj} (I : LogInv w bn b9 ns k1 k2 kc k4 k vl xs wr) (hg : (wr.alloc O).grownBy wB vl.ownBlock) : Box wB b9 24 [.int .i64 k1, .int .i64 k2, .bool kc, vl, .int .i64 k4] :=
  (I.kept.alloc O).grown hg (own_type I.row I.kept (by decide))
theorem LogInv.more {w wr wB : World} {bn b9 : Nat} {ns : List Int} {k1 k2 : Int} {kc : Bool} {k4 : Int} {k : Nat} {vl v5 : Value} {xs xs' : List Value} {O : Obj} (I : LogInv w bn b9 ns k1 k2 kc k4 k vl xs wr)
    (hg : (wr.alloc O).grownBy wB vl.ownBlock) (hown : wB.ownsRow w.heap.size 9 1 v5 (k + 1) xs') : LogInv w bn b9 ns k1 k2 kc k4 (k + 1) v5 xs' (wB.setCell ⟨b9, 3, none⟩ v5) := by
  have g1 := I.g1
  have g2 := I.g2
  have hz := I.below.size
  refine ⟨?_, ?_, ?_, ?_, ?_, g1, g2⟩
  · exact ((Below.up I.below O).grown hg (by simp; omega) (fun j e => own_ge I.row j e)).setCell (by simp; omega) _
  · exact ((I.res.alloc O).grown hg (own_type I.row I.res (by decide))).other _ (by simp; omega)
  · exact ((I.nums.alloc O).grown hg (own_type I.row I.nums (by decide))).other _ (by simp; omega)
  · exact (I.keptB hg).set 3 v5
  · exact own_other hown (own_type hown (I.keptB hg) (by decide)) v5

set_option maxRecDepth 4000 in
set_option maxHeartbeats 4000000 in
theorem keptOf_rest (s : List UInt8) (w : World) (hl : s.length ≤ 4000) (h4 : 4 ≤ s.length) :
    Calls Try.prog 8 #[.string ⟨s.toArray⟩] w fun e w' => ∃ v', e = .returned (.tuple #[v', .int .i64 (kdecG s), .int .i64 (kdecE s)]) ∧ KeptNew w' w.heap.size v' (kdecK s) ∧ Below w.heap.size w w' := by
  have b0 := Box.new w 24 [.int .i64 0, .int .i64 0, .bool false, .slice none 0 0, .int .i64 0]
  have hb := below_alloc w (.cells #[.int .i64 0, .int .i64 0, .bool false, .slice none 0 0, .int .i64 0] 24)
  obtain ⟨w0, hw0⟩ : ∃ w0, w0 = w.alloc (.cells #[.int .i64 0, .int .i64 0, .bool false, .slice none 0 0, .int .i64 0] 24) := ⟨_, rfl⟩
  have q1 : decide ((4000 : Int) < (s.length : Int)) = false := by simp; omega
  have q2 : decide ((s.length : Int) < 4) = false := by simp; omega
  have q3 : (4 : Int) ≤ (s.length : Int) := by omega
  have HKD : Hid (sealBytes (s.drop 4) = s.take 4 → kdecE s = bodyE (s.drop 4)) := kdec_body s (by omega) (by omega)
  have HKN : Hid (sealBytes (s.drop 4) ≠ s.take 4 → kdecE s = 11) := by
    intro hne
    unfold kdecE
    rw [if_neg (by omega), if_neg (by omega), if_pos hne]
  have HTL : Hid ((s.drop 4).length ≤ 4000) := by unfold Hid; rw [List.length_drop]; omega
  have HKK : Hid (kdecE s = 0 → kdecK s = keptP (s.drop 4) ∧ kdecG s = nAt (s.drop 4) 0) := by
    intro h
    unfold kdecK kdecG
    rw [if_pos h, if_pos h]
    exact ⟨rfl, rfl⟩
  go_enter Try.func8, Try.ntmps8
  go_upto_region 6 with fail
  rw [← hw0] at b0 hb ⊢
  clear hw0
  obtain ⟨T, hT⟩ : ∃ T, s.drop 4 = T := ⟨_, rfl⟩
  rw [hT] at HKD HKN HTL HKK ⊢
  clear hT
  have HSL : Hid (∀ W, Calls Try.prog 21 [.string ⟨T.toArray⟩].toArray W fun e w' => ∃ v', e = .returned v' ∧ (v' = .string ⟨(sealBytes T).toArray⟩ ∧ Below W.heap.size W w')) :=
    fun W => (sealOf_any T W (by have := HTL.out; omega)).mono fun e w' ⟨he, hb⟩ => ⟨_, he, rfl, hb⟩
  obtain ⟨SB, HSB⟩ : ∃ SB, sealBytes T = SB := ⟨_, rfl⟩
  rw [HSB] at HSL HKD HKN
  clear HSB
  have HB0 : Hid (Box w0 w.heap.size _ _) := b0
  have HBW : Hid (Below w.heap.size w w0) := hb
  have hP : (s.take 4).length = 4 := by rw [List.length_take]; omega
  clear b0 hb
  go_cut [28] (fun x wx => x = .bool (!(SB == s.take 4)) ∧ Below w0.heap.size w0 wx)
  case first =>
    go_region_law
      ((refine step_go _ (by rfl) 21 _ _ (by rfl) _ (by rfl) enter_sealOf _ (HSL.out _) ?_
        rintro u' wA ⟨hu4, hbA⟩
        subst hu4
        have hAU : Below w0.heap.size w0 wA := by (repeat (first | exact Below.refl _ _ | assumption | apply Below.drew | apply Below.up | (refine Below.far ?_ (by assumption))))))
    all_goals go_wp2_with fail
    all_goals go_meet
    all_goals exact ⟨rfl, hAU⟩
  case rest =>
    obtain ⟨rfl, hbc⟩ := hcut
    have RC := HB0.out.below hbc HB0.out.lt
    have hwc := Below.far HBW.out hbc
    clear hbc HB0 HBW HSL q1 q2 q3
    by_cases hse : SB = s.take 4
    · have tq : (SB == s.take 4) = true := by simp [hse]
      rw [tq, Bool.not_true]
      have HBE : Hid (kdecE s = bodyE T) := HKD.out hse
      clear tq hse HKN HKD hP
      have k6 := refMakeInts6
      have HI : Hid (NumsInv w wc.heap.size (numsV 0 T ++ List.replicate (6 - 0) 0) (wc.alloc (.cells #[.int .i64 0, .int .i64 0, .int .i64 0, .int .i64 0, .int .i64 0, .int .i64 0] 3))) :=
        ⟨Below.up hwc _, RC.alloc _, Box.new wc 3 [.int .i64 0, .int .i64 0, .int .i64 0, .int .i64 0, .int .i64 0, .int .i64 0], RC.lt⟩
      clear RC hwc
      go_wp2_with fail
      go_loopw [5, 7, 8] (fun x e i wr => ∃ k : Nat, k ≤ 6 ∧ i = .int .i64 k ∧ x = .string ⟨(numsR k T).toArray⟩ ∧ e = .int .i64 0 ∧ numsE k T = 0 ∧ NumsInv w wc.heap.size (numsV k T ++ List.replicate (6 - k) 0) wr) (fun _ _ i wr => 6 - (intOf i).toNat)
      case atStart => exact ⟨0, by omega, rfl, rfl, rfl, rfl, HI.out⟩
      case round =>
        clear HI k6
        obtain ⟨k, hk, rfl, rfl, rfl, hE0, I⟩ := hrel
        by_cases hlt : k < 6
        · have HNI : Hid (∀ w, Calls _ _ _ w _) := fun w => numberOf_is (numsR k T) w (by have := numsR_le k T; have := HTL.out; omega)
          have HII : Hid (NumsInv _ _ _ wr) := I
          have HFL : Hid ((numsV k T ++ List.replicate (6 - k) (0 : Int)).set k (numV (numsR k T)) = numsV (k + 1) T ++ List.replicate (6 - (k + 1)) 0) := nums_fill k T hlt
          have HR1 : Hid (numsR (k + 1) T = numR (numsR k T)) := numsR_succ k T
          have HE1 : Hid (numsE (k + 1) T = numE (numsR k T)) := by unfold Hid; rw [numsE_succ, if_pos hE0]
          have hnl : (numsV k T ++ List.replicate (6 - k) (0 : Int)).length = 6 := by simp [numsV_len]; omega
          clear I hE0
          obtain ⟨NS, HNS⟩ : ∃ NS, numsV k T ++ List.replicate (6 - k) (0 : Int) = NS := ⟨_, rfl⟩
          rw [HNS] at HII HFL hnl
          clear HNS
          obtain ⟨x, hx⟩ : ∃ x, numV (numsR k T) = x := ⟨_, rfl⟩
          obtain ⟨y, hy⟩ : ∃ y, numR (numsR k T) = y := ⟨_, rfl⟩
          obtain ⟨z, hz⟩ : ∃ z, numE (numsR k T) = z := ⟨_, rfl⟩
          rw [hx, hy, hz] at HNI
          rw [hx] at HFL
          rw [hy] at HR1
          rw [hz] at HE1
          clear hx hy hz
          generalize numsR k T = R at *
          have k0 : (0 : Int) ≤ (k : Int) := by omega
          have k1 : (k : Int) < 6 := by omega
          go_wp2_with fail
          refine (HNI.out _).mono ?_
          rintro e w4 ⟨rfl, hb4⟩
          have J := HII.out.next hb4
          have t0 := J.nums.cell k _ (numCells_get NS k (by omega))
          have t1 := J.nums.frozen k
          have HJ : Hid (NumsInv _ _ _ _) := J.set k x
          clear J HNI HII hb4
          by_cases hz0 : z = 0
          · subst hz0
            go_wp2_with fail
            go_roundw
            case rel => exact ⟨k + 1, by omega, by go_num, by rw [HR1.out], rfl, HE1.out, by rw [← HFL.out]; exact HJ.out⟩
            case measure => simp [intOf]; omega
          · have c1 : (z == 0) = false := by simpa using hz0
            have c2 : (z != 0) = true := by simpa using hz0
            have HX : Hid (kdecE s = z ∧ kdecG s = 0 ∧ kdecK s = zeroKept) := by
              have e6 := numsE_stop (k + 1) 6 T (by rw [HE1.out]; exact hz0) (by omega)
              have e : kdecE s = z := by
                rw [HBE.out]
                unfold bodyE
                rw [if_pos (by rw [e6, HE1.out]; exact hz0), e6, HE1.out]
              exact ⟨e, kdec_err s (by rw [e]; exact hz0)⟩
            obtain ⟨w5, hw5⟩ : ∃ w5, w5 = w4.setCell ⟨wc.heap.size, k, none⟩ (.int .i64 x) := ⟨_, rfl⟩
            go_upto_region 15 with fail
            rw [← hw5] at HJ ⊢
            have RJ := HJ.out.res
            have hbJ := HJ.out.below
            clear hw5 t0 t1 hz0 HJ
            have r0 := RJ.cell 0 _ rfl
            have r1 := RJ.cell 1 _ rfl
            have r2 := RJ.cell 2 _ rfl
            have r3 := RJ.cell 3 _ rfl
            have r4 := RJ.cell 4 _ rfl
            have f0 := RJ.frozen 0
            have f1 := RJ.frozen 1
            have f2 := RJ.frozen 2
            have f3 := RJ.frozen 3
            have f4 := RJ.frozen 4
            have HB : Hid (Below w.heap.size w _) := (((((hbJ.setCell (p := ⟨w.heap.size, 0, none⟩) (by simp) (.int .i64 0)).setCell (p := ⟨w.heap.size, 1, none⟩) (by simp) (.int .i64 0)).setCell (p := ⟨w.heap.size, 2, none⟩) (by simp) (.bool false)).setCell (p := ⟨w.heap.size, 3, none⟩) (by simp) (.slice none 0 0)).setCell (p := ⟨w.heap.size, 4, none⟩) (by simp) (.int .i64 0))
            clear RJ hbJ
            go_wp2_with fail
            rw [HX.out.1, HX.out.2.1, HX.out.2.2]
            exact bodyPost_ret (v := .tuple #[.agg #[.int .i64 0, .int .i64 0, .bool false, .slice none 0 0, .int .i64 0], .int .i64 0, .int .i64 z]) (by clear HB; simp [results, Try.results8, go_sem, *]) rfl ⟨_, rfl, KeptNew.nil _ _, HB.out⟩
        · have hk6 : k = 6 := by omega
          have hki : (k : Int) = 6 := by omega
          rw [hki]
          rw [hk6] at hE0 I ⊢
          clear hki hk6 hk hlt
          have HI6 : Hid (NumsInv w wc.heap.size [nAt T 0, nAt T 1, nAt T 2, nAt T 3, nAt T 4, nAt T 5] wr) := I
          have HR6 : Hid ((numsR 6 T).length ≤ 4000) := by have := numsR_le 6 T; have := HTL.out; unfold Hid; omega
          have HBF : Hid (kdecE s = if 1 < nAt T 3 ∨ 60 < nAt T 5 then 4 else if txtsE (nAt T 5).toNat (numsR 6 T) ≠ 0 then txtsE (nAt T 5).toNat (numsR 6 T) else if txtsR (nAt T 5).toNat (numsR 6 T) ≠ [] then 4 else keptFault (keptP T)) := by
            unfold Hid
            rw [HBE.out]
            unfold bodyE
            rw [if_neg (by rw [hE0]; decide)]
          have HKP : Hid (keptP T = ⟨nAt T 1, nAt T 2, nAt T 3 == 1, txtsD (nAt T 5).toNat (numsR 6 T), nAt T 4⟩) := rfl
          obtain ⟨KP, HKP1⟩ : ∃ KP, keptP T = KP := ⟨_, rfl⟩
          rw [HKP1] at HKP HBF HKK
          have hb5 := nAt_bd T 5
          have hb3 := nAt_bd T 3
          generalize nAt T 0 = n0 at *
          generalize nAt T 1 = n1 at *
          generalize nAt T 2 = n2 at *
          generalize nAt T 3 = n3 at *
          generalize nAt T 4 = n4 at *
          generalize nAt T 5 = n5 at *
          generalize numsR 6 T = R at *
          clear HBE HTL hE0 I HKP1
          have x1 := HI6.out.nums.cell 1 _ rfl
          have x2 := HI6.out.nums.cell 2 _ rfl
          have x3 := HI6.out.nums.cell 3 _ rfl
          have x4 := HI6.out.nums.cell 4 _ rfl
          have x5 := HI6.out.nums.cell 5 _ rfl
          by_cases hF : 1 < n3 ∨ 60 < n5
          · have HX : Hid (kdecE s = 4 ∧ kdecG s = 0 ∧ kdecK s = zeroKept) := by
              have e : kdecE s = 4 := by rw [HBF.out, if_pos hF]
              exact ⟨e, kdec_err s (by rw [e]; decide)⟩
            have RJ := HI6.out.res
            have hbJ := HI6.out.below
            by_cases h3 : 1 < n3
            · have d3 : decide (1 < n3) = true := by simp [h3]
              clear hF h3
              have r0 := RJ.cell 0 _ rfl
              have r1 := RJ.cell 1 _ rfl
              have r2 := RJ.cell 2 _ rfl
              have r3 := RJ.cell 3 _ rfl
              have r4 := RJ.cell 4 _ rfl
              have f0 := RJ.frozen 0
              have f1 := RJ.frozen 1
              have f2 := RJ.frozen 2
              have f3 := RJ.frozen 3
              have f4 := RJ.frozen 4
              have HB : Hid (Below w.heap.size w _) := (((((hbJ.setCell (p := ⟨w.heap.size, 0, none⟩) (by simp) (.int .i64 0)).setCell (p := ⟨w.heap.size, 1, none⟩) (by simp) (.int .i64 0)).setCell (p := ⟨w.heap.size, 2, none⟩) (by simp) (.bool false)).setCell (p := ⟨w.heap.size, 3, none⟩) (by simp) (.slice none 0 0)).setCell (p := ⟨w.heap.size, 4, none⟩) (by simp) (.int .i64 0))
              clear RJ hbJ
              go_wp2_with fail
              rw [HX.out.1, HX.out.2.1, HX.out.2.2]
              exact bodyPost_ret (v := .tuple #[.agg #[.int .i64 0, .int .i64 0, .bool false, .slice none 0 0, .int .i64 0], .int .i64 0, .int .i64 4]) (by clear HB; simp [results, Try.results8, go_sem, *]) rfl ⟨_, rfl, KeptNew.nil _ _, HB.out⟩
            · have d3 : decide (1 < n3) = false := by simp; omega
              have d5 : decide (60 < n5) = true := by simp; omega
              clear hF h3
              have r0 := RJ.cell 0 _ rfl
              have r1 := RJ.cell 1 _ rfl
              have r2 := RJ.cell 2 _ rfl
              have r3 := RJ.cell 3 _ rfl
              have r4 := RJ.cell 4 _ rfl
              have f0 := RJ.frozen 0
              have f1 := RJ.frozen 1
              have f2 := RJ.frozen 2
              have f3 := RJ.frozen 3
              have f4 := RJ.frozen 4
              have HB : Hid (Below w.heap.size w _) := (((((hbJ.setCell (p := ⟨w.heap.size, 0, none⟩) (by simp) (.int .i64 0)).setCell (p := ⟨w.heap.size, 1, none⟩) (by simp) (.int .i64 0)).setCell (p := ⟨w.heap.size, 2, none⟩) (by simp) (.bool false)).setCell (p := ⟨w.heap.size, 3, none⟩) (by simp) (.slice none 0 0)).setCell (p := ⟨w.heap.size, 4, none⟩) (by simp) (.int .i64 0))
              clear RJ hbJ
              go_wp2_with fail
              rw [HX.out.1, HX.out.2.1, HX.out.2.2]
              exact bodyPost_ret (v := .tuple #[.agg #[.int .i64 0, .int .i64 0, .bool false, .slice none 0 0, .int .i64 0], .int .i64 0, .int .i64 4]) (by clear HB; simp [results, Try.results8, go_sem, *]) rfl ⟨_, rfl, KeptNew.nil _ _, HB.out⟩
          · have d3 : decide (1 < n3) = false := by simp; omega
            have d5 : decide (60 < n5) = false := by simp; omega
            have HNF : Hid (¬ (1 < n3 ∨ 60 < n5)) := hF
            have lbn := HI6.out.nums.lt
            have lrs := HI6.out.res.lt
            clear hF
            obtain ⟨bn, hbn⟩ : ∃ bn, wc.heap.size = bn := ⟨_, rfl⟩
            rw [hbn] at HI6 x1 x2 x3 x4 x5 lbn ⊢
            clear hbn
            obtain ⟨m, hm⟩ : ∃ m : Nat, n5 = (m : Int) := ⟨n5.toNat, by omega⟩
            subst hm
            rw [Int.toNat_natCast] at HBF HKP
            have hm60 : m ≤ 60 := by have := HNF.out; omega
            go_upto_region 18 with fail
            go_cut [9] (fun x wx => ∃ b9, x = .pointer (some ⟨b9, 0, none⟩) ∧ Below wr.heap.size wr wx ∧ Box wx b9 24 [.int .i64 n1, .int .i64 n2, .bool (n3 == 1), .slice none 0 0, .int .i64 n4] ∧ wr.heap.size ≤ b9)
            case first =>
              clear x5 d3 d5 hb5 hb3
              go_big_region
              all_goals go_wp2_with fail
              all_goals go_meet
              all_goals exact ⟨_, rfl, (below_alloc _ _).drew, Box.new _ _ _, Nat.le_refl _⟩
            case rest =>
              obtain ⟨b9, rfl, hbc9, B9, g9⟩ := hcut
              have HLI : Hid (LogInv w bn b9 [n0, n1, n2, n3, n4, m] n1 n2 (n3 == 1) n4 0 (.slice none 0 0) ((txtsD 0 R).map enc) wc) :=
                ⟨Below.far HI6.out.below hbc9, HI6.out.res.below hbc9 HI6.out.res.lt, HI6.out.nums.below hbc9 HI6.out.nums.lt, B9, World.ownsRow_nil _ _ _ _, HI6.out.gt, by omega⟩
              have HBG : Hid (kdecE s = if txtsE m R ≠ 0 then txtsE m R else if txtsR m R ≠ [] then 4 else keptFault KP) := by
                unfold Hid
                rw [HBF.out, if_neg HNF.out]
              clear x1 x2 x3 x4 x5 hbc9 B9 g9 lbn lrs HI6 HBF HNF d3 d5 hb3 hb5
              generalize (n3 == 1) = kc at *
              go_wp2_with fail
              go_loopw [5, 10] (fun x i wr => ∃ (k : Nat) (vl : Value), k ≤ m ∧ i = .int .i64 k ∧ x = .string ⟨(txtsR k R).toArray⟩ ∧ txtsE k R = 0 ∧ LogInv w bn b9 [n0, n1, n2, n3, n4, m] n1 n2 kc n4 k vl ((txtsD k R).map enc) wr) (fun _ i wr => m - (intOf i).toNat)
              case atStart => exact ⟨0, _, by omega, rfl, rfl, rfl, HLI.out⟩
              case round =>
                clear HLI
                obtain ⟨k, vl, hk, rfl, rfl, hE0, I⟩ := hrel
                obtain ⟨au, cu, rfl⟩ := own_formN I.row
                have x5 := I.nums.cell 5 _ rfl
                have lx := I.nums.lt
                by_cases hlt : k < m
                · have HTI : Hid (∀ w, Calls _ _ _ w _) := fun w => textOf_is (txtsR k R) w (by have := txtsR_le k R; have := HR6.out; omega)
                  have HR1 : Hid (txtsR (k + 1) R = txtR (txtsR k R)) := txtsR_succ k R
                  have HE1 : Hid (txtsE (k + 1) R = txtE (txtsR k R)) := by unfold Hid; rw [txtsE_succ, if_pos hE0]
                  have HD1 : Hid ((txtsD (k + 1) R).map enc = (txtsD k R).map enc ++ [enc (txtD (txtsR k R))]) := by unfold Hid; rw [txtsD_succ, List.map_append]; rfl
                  obtain ⟨d, hd⟩ : ∃ d, txtD (txtsR k R) = d := ⟨_, rfl⟩
                  obtain ⟨y, hy⟩ : ∃ y, txtR (txtsR k R) = y := ⟨_, rfl⟩
                  obtain ⟨z, hz⟩ : ∃ z, txtE (txtsR k R) = z := ⟨_, rfl⟩
                  rw [hd, hy, hz] at HTI
                  rw [hd] at HD1
                  rw [hy] at HR1
                  rw [hz] at HE1
                  clear hd hy hz hE0
                  have HII : Hid (LogInv _ _ _ _ _ _ _ _ _ _ _ wr) := I
                  clear I
                  obtain ⟨xs, HXS⟩ : ∃ xs, (txtsD k R).map enc = xs := ⟨_, rfl⟩
                  rw [HXS] at HII HD1
                  clear HXS
                  obtain ⟨RK, HRK⟩ : ∃ RK, txtsR k R = RK := ⟨_, rfl⟩
                  rw [HRK] at HTI ⊢
                  clear HRK
                  have k0 : (0 : Int) ≤ (k : Int) := by omega
                  have k1 : (k : Int) < (m : Int) := by omega
                  go_wp2_with fail
                  refine (HTI.out _).mono ?_
                  rintro e w4 ⟨rfl, hb4⟩
                  have HJ : Hid (LogInv _ _ _ _ _ _ _ _ _ _ _ w4) := HII.out.next hb4
                  clear HTI HII hb4 x5 lx
                  by_cases hz0 : z = 0
                  · subst hz0
                    have p3 := HJ.out.kept.cell 3 _ rfl
                    have lp := HJ.out.kept.lt
                    have hzw := HJ.out.below.size
                    go_wp2_with (at_builtin; refine wpList_append_row _ rfl _ _ 22 rfl w.heap.size 9 Try.t9 _ 1 16 Try.underlying22 infoStr zeroStr sizeStr bytesStr rfl (by decide) _ k _ rfl (own_below HJ.out.row (below_alloc w4 _) (own_lt HJ.out.row)) _ 1 [.string ⟨d.toArray⟩] rfl (RowAt.one _ _ _) (by simp [Value.oneCell']) (by unfold maxLen; omega) (by omega) (by simp <;> omega) ?_)
                    intro v5 wB hownB hgB hatB
                    have HN : Hid (LogInv _ _ _ _ _ _ _ _ _ _ _ _) := HJ.out.more hgB hownB
                    obtain ⟨a5, c5, rfl⟩ := own_formN hownB
                    have q3 := (HJ.out.keptB hgB).cell 3 _ rfl
                    have f3 := (HJ.out.keptB hgB).frozen 3
                    clear hownB hgB hatB HJ p3 lp hzw
                    go_wp2_with fail
                    go_roundw
                    case rel => exact ⟨k + 1, _, by omega, by go_num, by rw [HR1.out], HE1.out, by rw [HD1.out]; exact HN.out⟩
                    case measure => simp [intOf]; omega
                  · have c1 : (z == 0) = false := by simpa using hz0
                    have c2 : (z != 0) = true := by simpa using hz0
                    have HX : Hid (kdecE s = z ∧ kdecG s = 0 ∧ kdecK s = zeroKept) := by
                      have e6 := txtsE_stop (k + 1) m R (by rw [HE1.out]; exact hz0) (by omega)
                      have e : kdecE s = z := by
                        rw [HBG.out, if_pos (by rw [e6, HE1.out]; exact hz0), e6, HE1.out]
                      exact ⟨e, kdec_err s (by rw [e]; exact hz0)⟩
                    have RJ := HJ.out.res
                    have hbJ := HJ.out.below
                    have r0 := RJ.cell 0 _ rfl
                    have r1 := RJ.cell 1 _ rfl
                    have r2 := RJ.cell 2 _ rfl
                    have r3 := RJ.cell 3 _ rfl
                    have r4 := RJ.cell 4 _ rfl
                    have f0 := RJ.frozen 0
                    have f1 := RJ.frozen 1
                    have f2 := RJ.frozen 2
                    have f3 := RJ.frozen 3
                    have f4 := RJ.frozen 4
                    have HB : Hid (Below w.heap.size w _) := (((((hbJ.setCell (p := ⟨w.heap.size, 0, none⟩) (by simp) (.int .i64 0)).setCell (p := ⟨w.heap.size, 1, none⟩) (by simp) (.int .i64 0)).setCell (p := ⟨w.heap.size, 2, none⟩) (by simp) (.bool false)).setCell (p := ⟨w.heap.size, 3, none⟩) (by simp) (.slice none 0 0)).setCell (p := ⟨w.heap.size, 4, none⟩) (by simp) (.int .i64 0))
                    clear RJ hbJ HJ hz0
                    go_wp2_with fail
                    rw [HX.out.1, HX.out.2.1, HX.out.2.2]
                    exact bodyPost_ret (v := .tuple #[.agg #[.int .i64 0, .int .i64 0, .bool false, .slice none 0 0, .int .i64 0], .int .i64 0, .int .i64 z]) (by clear HB; simp [results, Try.results8, go_sem, *]) rfl ⟨_, rfl, KeptNew.nil _ _, HB.out⟩
                · obtain rfl : k = m := by omega
                  have HII : Hid (LogInv _ _ _ _ _ _ _ _ _ _ _ wr) := I
                  have HBH : Hid (kdecE s = if txtsR k R ≠ [] then 4 else keptFault KP) := by
                    unfold Hid
                    rw [HBG.out, if_neg (by rw [hE0]; decide)]
                  clear I HBG hE0
                  obtain ⟨u, hu⟩ : ∃ u, txtsR k R = u := ⟨_, rfl⟩
                  rw [hu] at HBH ⊢
                  clear hu
                  have hcu : u = [] ∨ ∃ c r, u = c :: r := by cases u; exact Or.inl rfl; exact Or.inr ⟨_, _, rfl⟩
                  rcases hcu with rfl | ⟨cu', ru, rfl⟩
                  · have HBI : Hid (kdecE s = keptFault KP) := by unfold Hid; rw [HBH.out, if_neg (by simp)]
                    clear HBH
                    have hDl := txtsD_len k R
                    have hDb : ∀ x ∈ txtsD k R, x.length ≤ 140737488355328 := fun x hx => by have := txtsD_le k R x hx; have := HR6.out; omega
                    obtain ⟨LG, HLG⟩ : ∃ LG, txtsD k R = LG := ⟨_, rfl⟩
                    rw [HLG] at HII HKP hDl hDb
                    clear HLG
                    have HKN : Hid (KeptNew wr w.heap.size (.agg #[.int .i64 n1, .int .i64 n2, .bool kc, .slice au k cu, .int .i64 n4]) KP) := by
                      unfold Hid
                      rw [HKP.out]
                      exact ⟨_, rfl, by simp only [hDl]; exact HII.out.row⟩
                    have HF : Hid (∀ W, Below wr.heap.size wr W → Calls _ _ _ W _) := fun W hW => keptFaultOf_any KP _ W ((HKN.out.at (by rw [HKP.out]; simp only [hDl]; omega) (by rw [HKP.out]; exact hDb)).below hW)
                    obtain ⟨f, hf⟩ : ∃ f, keptFault KP = f := ⟨_, rfl⟩
                    rw [hf] at HF HBI
                    clear hf hDb
                    have K9 := HII.out.kept
                    have p0 := K9.cell 0 _ rfl
                    have p1 := K9.cell 1 _ rfl
                    have p2 := K9.cell 2 _ rfl
                    have p3 := K9.cell 3 _ rfl
                    have p4 := K9.cell 4 _ rfl
                    have lp := K9.lt
                    clear K9
                    go_wp2_with fail
                    refine (HF.out _ (Below.refl _ _)).mono ?_
                    rintro e w5 ⟨rfl, hb5⟩
                    have HJ : Hid (LogInv _ _ _ _ _ _ _ _ _ _ _ w5) := HII.out.next hb5
                    have HKN5 : Hid (KeptNew w5 w.heap.size _ KP) := HKN.out.below hb5
                    clear HII HKN HF hb5 p0 p1 p2 p3 p4 lp x5 lx
                    by_cases hf0 : f = 0
                    · subst hf0
                      have HX : Hid (kdecE s = 0 ∧ kdecG s = n0 ∧ kdecK s = KP) := ⟨HBI.out, (HKK.out HBI.out).2, (HKK.out HBI.out).1⟩
                      have K9 := HJ.out.kept
                      have p0 := K9.cell 0 _ rfl
                      have p1 := K9.cell 1 _ rfl
                      have p2 := K9.cell 2 _ rfl
                      have p3 := K9.cell 3 _ rfl
                      have p4 := K9.cell 4 _ rfl
                      have lp := K9.lt
                      have x0 := HJ.out.nums.cell 0 _ rfl
                      have lx := HJ.out.nums.lt
                      have RJ := HJ.out.res
                      have hbJ := HJ.out.below
                      have g1 := HJ.out.g1
                      have g2 := HJ.out.g2
                      have n9 : ¬ b9 = w.heap.size := by omega
                      have nn : ¬ bn = w.heap.size := by omega
                      have HN : Hid (KeptNew _ w.heap.size _ KP) := ((((HKN5.out.type RJ (by decide) 0 (.int .i64 n1)).type (RJ.set 0 _) (by decide) 1 (.int .i64 n2)).type ((RJ.set 0 _).set 1 _) (by decide) 2 (.bool kc)).type (((RJ.set 0 _).set 1 _).set 2 _) (by decide) 3 (.slice au k cu)).type ((((RJ.set 0 _).set 1 _).set 2 _).set 3 _) (by decide) 4 (.int .i64 n4)
                      have r0 := RJ.cell 0 _ rfl
                      have r1 := RJ.cell 1 _ rfl
                      have r2 := RJ.cell 2 _ rfl
                      have r3 := RJ.cell 3 _ rfl
                      have r4 := RJ.cell 4 _ rfl
                      have f0 := RJ.frozen 0
                      have f1 := RJ.frozen 1
                      have f2 := RJ.frozen 2
                      have f3 := RJ.frozen 3
                      have f4 := RJ.frozen 4
                      have HB : Hid (Below w.heap.size w _) := (((((hbJ.setCell (p := ⟨w.heap.size, 0, none⟩) (by simp) (.int .i64 n1)).setCell (p := ⟨w.heap.size, 1, none⟩) (by simp) (.int .i64 n2)).setCell (p := ⟨w.heap.size, 2, none⟩) (by simp) (.bool kc)).setCell (p := ⟨w.heap.size, 3, none⟩) (by simp) (.slice au k cu)).setCell (p := ⟨w.heap.size, 4, none⟩) (by simp) (.int .i64 n4))
                      clear K9 RJ hbJ HJ HKN5 g1 g2
                      go_wp2_with fail
                      go_region
                      all_goals go_wp2_with fail
                      all_goals rw [HX.out.1, HX.out.2.1, HX.out.2.2]
                      all_goals exact bodyPost_ret (v := .tuple #[.agg #[.int .i64 n1, .int .i64 n2, .bool kc, .slice au k cu, .int .i64 n4], .int .i64 n0, .int .i64 0]) (by clear HB HN; simp [results, Try.results8, go_sem, *]) rfl ⟨_, rfl, HN.out, HB.out.drew⟩
                    · have c1 : (f == 0) = false := by simpa using hf0
                      have c2 : (f != 0) = true := by simpa using hf0
                      have HX : Hid (kdecE s = f ∧ kdecG s = 0 ∧ kdecK s = zeroKept) := ⟨HBI.out, kdec_err s (by rw [HBI.out]; exact hf0)⟩
                      have RJ := HJ.out.res
                      have hbJ := HJ.out.below
                      have r0 := RJ.cell 0 _ rfl
                      have r1 := RJ.cell 1 _ rfl
                      have r2 := RJ.cell 2 _ rfl
                      have r3 := RJ.cell 3 _ rfl
                      have r4 := RJ.cell 4 _ rfl
                      have f0 := RJ.frozen 0
                      have f1 := RJ.frozen 1
                      have f2 := RJ.frozen 2
                      have f3 := RJ.frozen 3
                      have f4 := RJ.frozen 4
                      have HB : Hid (Below w.heap.size w _) := (((((hbJ.setCell (p := ⟨w.heap.size, 0, none⟩) (by simp) (.int .i64 0)).setCell (p := ⟨w.heap.size, 1, none⟩) (by simp) (.int .i64 0)).setCell (p := ⟨w.heap.size, 2, none⟩) (by simp) (.bool false)).setCell (p := ⟨w.heap.size, 3, none⟩) (by simp) (.slice none 0 0)).setCell (p := ⟨w.heap.size, 4, none⟩) (by simp) (.int .i64 0))
                      clear RJ hbJ HJ HKN5 hf0
                      go_wp2_with fail
                      rw [HX.out.1, HX.out.2.1, HX.out.2.2]
                      exact bodyPost_ret (v := .tuple #[.agg #[.int .i64 0, .int .i64 0, .bool false, .slice none 0 0, .int .i64 0], .int .i64 0, .int .i64 f]) (by clear HB; simp [results, Try.results8, go_sem, *]) rfl ⟨_, rfl, KeptNew.nil _ _, HB.out⟩
                  · have HX : Hid (kdecE s = 4 ∧ kdecG s = 0 ∧ kdecK s = zeroKept) := by
                      have e : kdecE s = 4 := by rw [HBH.out, if_pos (by simp)]
                      exact ⟨e, kdec_err s (by rw [e]; decide)⟩
                    have RJ := HII.out.res
                    have hbJ := HII.out.below
                    have r0 := RJ.cell 0 _ rfl
                    have r1 := RJ.cell 1 _ rfl
                    have r2 := RJ.cell 2 _ rfl
                    have r3 := RJ.cell 3 _ rfl
                    have r4 := RJ.cell 4 _ rfl
                    have f0 := RJ.frozen 0
                    have f1 := RJ.frozen 1
                    have f2 := RJ.frozen 2
                    have f3 := RJ.frozen 3
                    have f4 := RJ.frozen 4
                    have HB : Hid (Below w.heap.size w _) := (((((hbJ.setCell (p := ⟨w.heap.size, 0, none⟩) (by simp) (.int .i64 0)).setCell (p := ⟨w.heap.size, 1, none⟩) (by simp) (.int .i64 0)).setCell (p := ⟨w.heap.size, 2, none⟩) (by simp) (.bool false)).setCell (p := ⟨w.heap.size, 3, none⟩) (by simp) (.slice none 0 0)).setCell (p := ⟨w.heap.size, 4, none⟩) (by simp) (.int .i64 0))
                    clear RJ hbJ HII HBH
                    go_wp2_with fail
                    rw [HX.out.1, HX.out.2.1, HX.out.2.2]
                    exact bodyPost_ret (v := .tuple #[.agg #[.int .i64 0, .int .i64 0, .bool false, .slice none 0 0, .int .i64 0], .int .i64 0, .int .i64 4]) (by clear HB; simp [results, Try.results8, go_sem, *]) rfl ⟨_, rfl, KeptNew.nil _ _, HB.out⟩
    · have tq : (SB == s.take 4) = false := by simp [hse]
      rw [tq, Bool.not_false]
      have HX : Hid (kdecE s = 11 ∧ kdecG s = 0 ∧ kdecK s = zeroKept) := ⟨HKN.out hse, kdec_err s (by rw [HKN.out hse]; decide)⟩
      clear tq hse HKN HKD hP
      have r0 := RC.cell 0 _ rfl
      have r1 := RC.cell 1 _ rfl
      have r2 := RC.cell 2 _ rfl
      have r3 := RC.cell 3 _ rfl
      have r4 := RC.cell 4 _ rfl
      have f0 := RC.frozen 0
      have f1 := RC.frozen 1
      have f2 := RC.frozen 2
      have f3 := RC.frozen 3
      have f4 := RC.frozen 4
      have HB : Hid (Below w.heap.size w _) := (((((hwc.setCell (p := ⟨w.heap.size, 0, none⟩) (by simp) (.int .i64 0)).setCell (p := ⟨w.heap.size, 1, none⟩) (by simp) (.int .i64 0)).setCell (p := ⟨w.heap.size, 2, none⟩) (by simp) (.bool false)).setCell (p := ⟨w.heap.size, 3, none⟩) (by simp) (.slice none 0 0)).setCell (p := ⟨w.heap.size, 4, none⟩) (by simp) (.int .i64 0))
      clear RC hwc
      go_wp2_with fail
      rw [HX.out.1, HX.out.2.1, HX.out.2.2]
      exact bodyPost_ret (v := .tuple #[.agg #[.int .i64 0, .int .i64 0, .bool false, .slice none 0 0, .int .i64 0], .int .i64 0, .int .i64 11]) (by clear HB; simp [results, Try.results8, go_sem, *]) rfl ⟨_, rfl, KeptNew.nil _ _, HB.out⟩

end Go.Proofs.Ytdnogggadocilae
