/- The program's own stage.unseal, readHead, readLog. -/
import Derived.Test.YtdnogggadocilaeDoorKeptGo
import Derived.Test.YtdnogggadocilaeDoorStageMath
import Derived.Test.YtdnogggadocilaeDoorNumCells
import Derived.Test.YtdnogggadocilaeDoorSealGo
import Derived.Test.YtdnogggadocilaeDoorCodecIs
import Derived.Laws.EntriesVeiled
import Derived.Laws.CopyOwn
import Derived.Deep.DeepCutAuto
namespace Go.Proofs.YtdnogggadocilaeDoor
open Go.RowKit
set_option linter.unusedVariables false
set_option linter.unusedSimpArgs false
attribute [local go_sem] app_list ext_list get_list byteAt_zero

def unsE (s : List UInt8) : Int := if 4000 < s.length then 1 else if s.length < 4 then 5 else if sealBytes (s.drop 4) ≠ s.take 4 then 11 else 0
def unsB (s : List UInt8) : List UInt8 := if unsE s = 0 then s.drop 4 else []
theorem kdecE_uns (s : List UInt8) : kdecE s = if unsE s = 0 then bodyE (s.drop 4) else unsE s := by
  unfold kdecE unsE
  by_cases h1 : 4000 < s.length
  · simp [h1]
  · by_cases h2 : s.length < 4
    · simp [h1, h2]
    · by_cases h3 : sealBytes (s.drop 4) = s.take 4
      · simp [h1, h2, h3]
      · simp [h1, h2, h3]
theorem unsB_le (s : List UInt8) : unsE s = 0 → (unsB s).length ≤ 4000 ∧ unsB s = s.drop 4 := by
  intro h
  have e : unsB s = s.drop 4 := by unfold unsB; rw [if_pos h]
  refine ⟨?_, e⟩
  rw [e, List.length_drop]
  unfold unsE at h
  split at h
  · omega
  · omega

theorem enter_seal (us : Array Value) (w : World) : (callFunc 22 us).run Tryd.prog w = .ok (.enter 22 us) w := by kernel_rfl

set_option maxHeartbeats 2000000 in
theorem unseal_any (s : List UInt8) (w : World) (hl : s.length ≤ 281474976710656) :
    Calls Tryd.prog 24 #[.string ⟨s.toArray⟩] w fun e w' => e = .returned (.tuple #[.string ⟨(unsB s).toArray⟩, .int .i64 (unsE s)]) ∧ Below w.heap.size w w' := by
  by_cases h1 : 4000 < s.length
  · have HE : Hid (unsE s = 1 ∧ unsB s = []) := by
      have e : unsE s = 1 := by unfold unsE; rw [if_pos h1]
      exact ⟨e, by unfold unsB; rw [e]; rfl⟩
    have q1 : decide ((4000 : Int) < (s.length : Int)) = true := by simp; omega
    clear h1
    go_enter Tryd.func24, Tryd.ntmps24
    go_wp2_with fail
    go_ret2
    exact ⟨by rw [HE.out.1, HE.out.2]; rfl, Below.refl _ _⟩
  have q1 : decide ((4000 : Int) < (s.length : Int)) = false := by simp; omega
  by_cases h2 : s.length < 4
  · have HE : Hid (unsE s = 5 ∧ unsB s = []) := by
      have e : unsE s = 5 := by unfold unsE; rw [if_neg h1, if_pos h2]
      exact ⟨e, by unfold unsB; rw [e]; rfl⟩
    have q2 : decide ((s.length : Int) < 4) = true := by simp; omega
    clear h1 h2
    go_enter Tryd.func24, Tryd.ntmps24
    go_wp2_with fail
    go_ret2
    exact ⟨by rw [HE.out.1, HE.out.2]; rfl, Below.refl _ _⟩
  have q2 : decide ((s.length : Int) < 4) = false := by simp; omega
  have q3 : (4 : Int) ≤ (s.length : Int) := by omega
  have HU : Hid (unsE s = if sealBytes (s.drop 4) ≠ s.take 4 then 11 else 0) := by unfold Hid; conv => lhs; unfold unsE; rw [if_neg h1, if_neg h2]
  have HUB : Hid (unsB s = if unsE s = 0 then s.drop 4 else []) := rfl
  have HSL : Hid (∀ W, Calls Tryd.prog 22 [.string ⟨(s.drop 4).toArray⟩].toArray W fun e w' => ∃ v', e = .returned v' ∧ (v' = .string ⟨(sealBytes (s.drop 4)).toArray⟩ ∧ Below W.heap.size W w')) :=
    fun W => (seal_any (s.drop 4) W (by simp; omega)).mono fun e w' ⟨he, hb⟩ => ⟨_, he, rfl, hb⟩
  obtain ⟨SB, HSB⟩ : ∃ SB, sealBytes (s.drop 4) = SB := ⟨_, rfl⟩
  rw [HSB] at HSL HU
  clear HSB h1 h2
  go_enter Tryd.func24, Tryd.ntmps24
  go_upto_region 5 with fail
  go_cut [12] (fun x wx => x = .bool (!(s.take 4 == SB)) ∧ Below w.heap.size w wx)
  case first =>
    go_region_law
      ((refine step_go _ (by rfl) 22 _ _ (by rfl) _ (by rfl) enter_seal _ (HSL.out _) ?_
        rintro u' wA ⟨hu4, hbA⟩
        subst hu4
        have hAU : Below w.heap.size w wA := by (repeat (first | exact Below.refl _ _ | assumption | apply Below.drew | apply Below.up | (refine Below.far ?_ (by assumption))))))
    all_goals go_wp2_with fail
    all_goals go_meet
    all_goals exact ⟨rfl, hAU⟩
  case rest =>
    obtain ⟨rfl, hbc⟩ := hcut
    have HB : Hid (Below w.heap.size w wc) := hbc
    clear hbc HSL q1 q2
    by_cases hse : SB = s.take 4
    · have tq : (s.take 4 == SB) = true := by simp [hse]
      rw [tq, Bool.not_true]
      have HX : Hid (unsE s = 0 ∧ unsB s = s.drop 4) := by
        have e : unsE s = 0 := by rw [HU.out, if_neg (by simpa using hse)]
        exact ⟨e, by rw [HUB.out, if_pos e]⟩
      clear tq hse HU HUB
      go_wp2_with fail
      go_ret2
      exact ⟨by rw [HX.out.1, HX.out.2]; rfl, HB.out⟩
    · have tq : (s.take 4 == SB) = false := by simpa using fun e => hse e.symm
      rw [tq, Bool.not_false]
      have HX : Hid (unsE s = 11 ∧ unsB s = []) := by
        have e : unsE s = 11 := by rw [HU.out, if_pos hse]
        exact ⟨e, by rw [HUB.out, e]; rfl⟩
      clear tq hse HU HUB
      go_wp2_with fail
      go_ret2
      exact ⟨by rw [HX.out.1, HX.out.2]; rfl, HB.out⟩

end Go.Proofs.YtdnogggadocilaeDoor
