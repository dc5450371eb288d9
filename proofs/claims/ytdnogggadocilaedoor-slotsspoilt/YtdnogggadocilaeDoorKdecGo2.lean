/- The program's own stage.readHead. -/
import Derived.Test.YtdnogggadocilaeDoorKdecGo
namespace Go.Proofs.YtdnogggadocilaeDoor
open Go.RowKit
set_option linter.unusedVariables false
set_option linter.unusedSimpArgs false
attribute [local go_sem] app_list ext_list get_list byteAt_zero

def headE (t : List UInt8) : Int := if numsE 6 t ≠ 0 then numsE 6 t else if 1 < nAt t 3 ∨ 60 < nAt t 5 then 4 else 0
def headV (t : List UInt8) : List Int := if headE t = 0 then numsV 6 t else [0, 0, 0, 0, 0, 0]
def headR (t : List UInt8) : List UInt8 := if headE t = 0 then numsR 6 t else []

structure HeadInv (w : World) (bn : Nat) (ns : List Int) (wr : World) : Prop where
  below : Below w.heap.size w wr
  res : Box wr w.heap.size 48 [.int .i64 0, .int .i64 0, .int .i64 0, .int .i64 0, .int .i64 0, .int .i64 0]
  nums : Box wr bn 48 (numCells ns)
  gt : w.heap.size < bn
theorem HeadInv.next {w wr wx : World} {bn : Nat} {ns : List Int} (I : HeadInv w bn ns wr) (hb : Below wr.heap.size wr wx) : HeadInv w bn ns wx :=
  ⟨Below.far I.below hb, I.res.below hb I.res.lt, I.nums.below hb I.nums.lt, I.gt⟩
theorem HeadInv.set {w wr : World} {bn : Nat} {ns : List Int} (I : HeadInv w bn ns wr) (k : Nat) (x : Int) : HeadInv w bn (ns.set k x) (wr.setCell ⟨bn, k, none⟩ (.int .i64 x)) := by
  have hgt := I.gt
  refine ⟨I.below.setCell (by simp; omega) _, I.res.other _ (by simp; omega), ?_, hgt⟩
  have := I.nums.set k (.int .i64 x)
  unfold numCells at this ⊢
  rw [List.map_set]
  exact this

set_option maxHeartbeats 2000000 in
theorem readHead_any (T : List UInt8) (w : World) (hl : T.length ≤ 4000) :
    Calls Tryd.prog 25 #[.string ⟨T.toArray⟩] w fun e w' => e = .returned (.tuple #[.agg (numCells (headV T)).toArray, .string ⟨(headR T).toArray⟩, .int .i64 (headE T)]) ∧ Below w.heap.size w w' := by
  obtain ⟨b0, b1, hb⟩ := boxes2 w 48 48 [.int .i64 0, .int .i64 0, .int .i64 0, .int .i64 0, .int .i64 0, .int .i64 0] [.int .i64 0, .int .i64 0, .int .i64 0, .int .i64 0, .int .i64 0, .int .i64 0]
  have HI : Hid (HeadInv w (w.heap.size + 1) (numsV 0 T ++ List.replicate (6 - 0) 0) _) := ⟨hb, b0, b1, by omega⟩
  clear b0 b1 hb
  have HHE : Hid (headE T = if numsE 6 T ≠ 0 then numsE 6 T else if 1 < nAt T 3 ∨ 60 < nAt T 5 then 4 else 0) := rfl
  have HZ : Hid (headE T ≠ 0 → headV T = [0, 0, 0, 0, 0, 0] ∧ headR T = []) := by
    intro h
    unfold headV headR
    rw [if_neg h, if_neg h]
    exact ⟨rfl, rfl⟩
  have HO : Hid (headE T = 0 → headV T = [nAt T 0, nAt T 1, nAt T 2, nAt T 3, nAt T 4, nAt T 5] ∧ headR T = numsR 6 T) := by
    intro h
    unfold headV headR
    rw [if_pos h, if_pos h]
    exact ⟨rfl, rfl⟩
  go_enter Tryd.func25, Tryd.ntmps25
  go_wp2_with fail
  go_loopw [0, 10] (fun x i wr => ∃ k : Nat, k ≤ 6 ∧ i = .int .i64 k ∧ x = .string ⟨(numsR k T).toArray⟩ ∧ numsE k T = 0 ∧ HeadInv w (w.heap.size + 1) (numsV k T ++ List.replicate (6 - k) 0) wr) (fun _ i wr => 6 - (intOf i).toNat)
  case atStart => exact ⟨0, by omega, rfl, rfl, rfl, HI.out⟩
  case round =>
    clear HI
    obtain ⟨k, hk, rfl, rfl, hE0, I⟩ := hrel
    by_cases hlt : k < 6
    · have HNI : Hid (∀ w, Calls _ _ _ w _) := fun w => readNumber_is (numsR k T) w (by have := numsR_le k T; omega)
      have HII : Hid (HeadInv _ _ _ wr) := I
      have HFL : Hid ((numsV k T ++ List.replicate (6 - k) (0 : Int)).set k (numV (numsR k T)) = numsV (k + 1) T ++ List.replicate (6 - (k + 1)) 0) := nums_fill k T hlt
      have HR1 : Hid (numsR (k + 1) T = numR (numsR k T)) := numsR_succ k T
      have HE1 : Hid (numsE (k + 1) T = numE (numsR k T)) := by unfold Hid; rw [numsE_succ, if_pos hE0]
      have hnl : (numsV k T ++ List.replicate (6 - k) (0 : Int)).length = 6 := by simp [numsV_len]; omega
      clear I hE0
      obtain ⟨NS, HNS⟩ : ∃ NS, numsV k T ++ List.replicate (6 - k) (0 : Int) = NS := ⟨_, rfl⟩
      rw [HNS] at HII HFL hnl
      clear HNS
      obtain ⟨x, hx⟩ : ∃ x, numV (numsR k T) = x := ⟨_, rfl⟩
      obtain ⟨y, hy⟩ : ∃ y, numR (numsR k T) = y := ⟨_, rfl⟩
      obtain ⟨z, hz⟩ : ∃ z, numE (numsR k T) = z := ⟨_, rfl⟩
      rw [hx, hy, hz] at HNI
      rw [hx] at HFL
      rw [hy] at HR1
      rw [hz] at HE1
      clear hx hy hz
      obtain ⟨R, hR⟩ : ∃ R, numsR k T = R := ⟨_, rfl⟩
      rw [hR] at HNI ⊢
      clear hR
      have k0 : (0 : Int) ≤ (k : Int) := by omega
      have k1 : (k : Int) < 6 := by omega
      go_wp2_with fail
      refine (HNI.out _).mono ?_
      rintro e w4 ⟨rfl, hb4⟩
      have J := HII.out.next hb4
      have t0 := J.nums.cell k _ (numCells_get NS k (by omega))
      have t1 := J.nums.frozen k
      have lt4 := J.nums.lt
      have HK4 : Hid (HeadInv _ _ _ w4) := J
      have HJ : Hid (HeadInv _ _ _ _) := J.set k x
      clear J HNI HII hb4
      by_cases hz0 : z = 0
      · subst hz0
        go_wp2_with fail
        go_roundw
        case rel => exact ⟨k + 1, by omega, by go_num, by rw [HR1.out], HE1.out, by rw [← HFL.out]; exact HJ.out⟩
        case measure => simp [intOf]; omega
      · have c1 : (z == 0) = false := by simpa using hz0
        have c2 : (z != 0) = true := by simpa using hz0
        have HX : Hid (headE T = z ∧ headV T = [0, 0, 0, 0, 0, 0] ∧ headR T = []) := by
          have e6 := numsE_stop (k + 1) 6 T (by rw [HE1.out]; exact hz0) (by omega)
          have e : headE T = z := by
            rw [HHE.out, if_pos (by rw [e6, HE1.out]; exact hz0), e6, HE1.out]
          exact ⟨e, HZ.out (by rw [e]; exact hz0)⟩
        have RJ := HK4.out.res
        have hbJ := HK4.out.below
        have r0 := RJ.cell 0 _ rfl
        have r1 := RJ.cell 1 _ rfl
        have r2 := RJ.cell 2 _ rfl
        have r3 := RJ.cell 3 _ rfl
        have r4 := RJ.cell 4 _ rfl
        have r5 := RJ.cell 5 _ rfl
        have f0 := RJ.frozen 0
        have f1 := RJ.frozen 1
        have f2 := RJ.frozen 2
        have f3 := RJ.frozen 3
        have f4 := RJ.frozen 4
        have f5 := RJ.frozen 5
        have HB : Hid (Below w.heap.size w _) := ((((((hbJ.setCell (p := ⟨w.heap.size, 0, none⟩) (by simp) (.int .i64 0)).setCell (p := ⟨w.heap.size, 1, none⟩) (by simp) (.int .i64 0)).setCell (p := ⟨w.heap.size, 2, none⟩) (by simp) (.int .i64 0)).setCell (p := ⟨w.heap.size, 3, none⟩) (by simp) (.int .i64 0)).setCell (p := ⟨w.heap.size, 4, none⟩) (by simp) (.int .i64 0)).setCell (p := ⟨w.heap.size, 5, none⟩) (by simp) (.int .i64 0))
        clear RJ hbJ HK4 HJ t0 t1 hz0
        go_wp2_with fail
        rw [HX.out.1, HX.out.2.1, HX.out.2.2]
        exact bodyPost_ret (v := .tuple #[.agg #[.int .i64 0, .int .i64 0, .int .i64 0, .int .i64 0, .int .i64 0, .int .i64 0], .string ⟨#[]⟩, .int .i64 z]) (by clear HB; simp [results, Tryd.results25, go_sem, *]) rfl ⟨rfl, HB.out⟩
    · have hk6 : k = 6 := by omega
      have hki : (k : Int) = 6 := by omega
      rw [hki]
      rw [hk6] at hE0 I ⊢
      clear hki hk6 hk hlt
      have HI6 : Hid (HeadInv w (w.heap.size + 1) [nAt T 0, nAt T 1, nAt T 2, nAt T 3, nAt T 4, nAt T 5] wr) := I
      have HBF : Hid (headE T = if 1 < nAt T 3 ∨ 60 < nAt T 5 then 4 else 0) := by
        unfold Hid
        rw [HHE.out, if_neg (by rw [hE0]; decide)]
      clear hE0 I HHE
      generalize nAt T 0 = n0 at *
      generalize nAt T 1 = n1 at *
      generalize nAt T 2 = n2 at *
      generalize nAt T 3 = n3 at *
      generalize nAt T 4 = n4 at *
      generalize nAt T 5 = n5 at *
      generalize numsR 6 T = R at *
      have RJ := HI6.out.res
      have hbJ := HI6.out.below
      have x3 := HI6.out.nums.cell 3 _ rfl
      have x5 := HI6.out.nums.cell 5 _ rfl
      have lx := HI6.out.nums.lt
      by_cases hF : 1 < n3 ∨ 60 < n5
      · have HX : Hid (headE T = 4 ∧ headV T = [0, 0, 0, 0, 0, 0] ∧ headR T = []) := by
          have e : headE T = 4 := by rw [HBF.out, if_pos hF]
          exact ⟨e, HZ.out (by rw [e]; decide)⟩
        have r0 := RJ.cell 0 _ rfl
        have r1 := RJ.cell 1 _ rfl
        have r2 := RJ.cell 2 _ rfl
        have r3 := RJ.cell 3 _ rfl
        have r4 := RJ.cell 4 _ rfl
        have r5 := RJ.cell 5 _ rfl
        have f0 := RJ.frozen 0
        have f1 := RJ.frozen 1
        have f2 := RJ.frozen 2
        have f3 := RJ.frozen 3
        have f4 := RJ.frozen 4
        have f5 := RJ.frozen 5
        have HB : Hid (Below w.heap.size w _) := ((((((hbJ.setCell (p := ⟨w.heap.size, 0, none⟩) (by simp) (.int .i64 0)).setCell (p := ⟨w.heap.size, 1, none⟩) (by simp) (.int .i64 0)).setCell (p := ⟨w.heap.size, 2, none⟩) (by simp) (.int .i64 0)).setCell (p := ⟨w.heap.size, 3, none⟩) (by simp) (.int .i64 0)).setCell (p := ⟨w.heap.size, 4, none⟩) (by simp) (.int .i64 0)).setCell (p := ⟨w.heap.size, 5, none⟩) (by simp) (.int .i64 0))
        clear RJ hbJ HI6 HBF HZ HO
        by_cases h3 : 1 < n3
        · have d3 : decide (1 < n3) = true := by simp [h3]
          clear hF h3
          go_wp2_with fail
          rw [HX.out.1, HX.out.2.1, HX.out.2.2]
          exact bodyPost_ret (v := .tuple #[.agg #[.int .i64 0, .int .i64 0, .int .i64 0, .int .i64 0, .int .i64 0, .int .i64 0], .string ⟨#[]⟩, .int .i64 4]) (by clear HB; simp [results, Tryd.results25, go_sem, *]) rfl ⟨rfl, HB.out⟩
        · have d3 : decide (1 < n3) = false := by simp; omega
          have d5 : decide (60 < n5) = true := by simp; omega
          clear hF h3
          go_wp2_with fail
          rw [HX.out.1, HX.out.2.1, HX.out.2.2]
          exact bodyPost_ret (v := .tuple #[.agg #[.int .i64 0, .int .i64 0, .int .i64 0, .int .i64 0, .int .i64 0, .int .i64 0], .string ⟨#[]⟩, .int .i64 4]) (by clear HB; simp [results, Tryd.results25, go_sem, *]) rfl ⟨rfl, HB.out⟩
      · have d3 : decide (1 < n3) = false := by simp; omega
        have d5 : decide (60 < n5) = false := by simp; omega
        have HX : Hid (headE T = 0 ∧ headV T = [n0, n1, n2, n3, n4, n5] ∧ headR T = R) := by
          have e : headE T = 0 := by rw [HBF.out, if_neg hF]
          exact ⟨e, HO.out e⟩
        have x0 := HI6.out.nums.cell 0 _ rfl
        have x1 := HI6.out.nums.cell 1 _ rfl
        have x2 := HI6.out.nums.cell 2 _ rfl
        have x4 := HI6.out.nums.cell 4 _ rfl
        have r0 := RJ.cell 0 _ rfl
        have r1 := RJ.cell 1 _ rfl
        have r2 := RJ.cell 2 _ rfl
        have r3 := RJ.cell 3 _ rfl
        have r4 := RJ.cell 4 _ rfl
        have r5 := RJ.cell 5 _ rfl
        have f0 := RJ.frozen 0
        have f1 := RJ.frozen 1
        have f2 := RJ.frozen 2
        have f3 := RJ.frozen 3
        have f4 := RJ.frozen 4
        have f5 := RJ.frozen 5
        have HB : Hid (Below w.heap.size w _) := ((((((hbJ.setCell (p := ⟨w.heap.size, 0, none⟩) (by simp) (.int .i64 n0)).setCell (p := ⟨w.heap.size, 1, none⟩) (by simp) (.int .i64 n1)).setCell (p := ⟨w.heap.size, 2, none⟩) (by simp) (.int .i64 n2)).setCell (p := ⟨w.heap.size, 3, none⟩) (by simp) (.int .i64 n3)).setCell (p := ⟨w.heap.size, 4, none⟩) (by simp) (.int .i64 n4)).setCell (p := ⟨w.heap.size, 5, none⟩) (by simp) (.int .i64 n5))
        clear RJ hbJ HI6 HBF HZ HO hF
        go_wp2_with fail
        rw [HX.out.1, HX.out.2.1, HX.out.2.2]
        exact bodyPost_ret (v := .tuple #[.agg #[.int .i64 n0, .int .i64 n1, .int .i64 n2, .int .i64 n3, .int .i64 n4, .int .i64 n5], .string ⟨R.toArray⟩, .int .i64 0]) (by clear HB; simp [results, Tryd.results25, go_sem, *]) rfl ⟨rfl, HB.out⟩

end Go.Proofs.YtdnogggadocilaeDoor
