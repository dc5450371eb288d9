/- The laws' own sameTexts. -/
import Derived.Test.YtdnogggadocilaeMem
import Derived.BigQuiet
import Derived.Deep.QuietTactic
namespace Go.Proofs.Ytdnogggadocilae
open Go.RowKit
set_option linter.unusedVariables false
attribute [local go_sem] app_list ext_list get_list byteAt_zero

set_option maxHeartbeats 1000000 in
theorem sameTexts_any (x y : List (List UInt8)) (vx vy : Value) (w : World) (hx : Strs w vx x) (hy : Strs w vy y) :
    Calls Try.prog 12 #[vx, vy] w fun e w' => e = .returned (.bool (decide (x = y))) ∧ ∃ n, w' = w.drewN n := by
  obtain ⟨a, c, rfl, hlx, hcx⟩ := hx
  obtain ⟨a', c', rfl, hly, hcy⟩ := hy
  by_cases hl : x.length = y.length
  · have q : ((x.length : Int) != (y.length : Int)) = false := by simp; omega
    have Hl : Hid (x.length = y.length) := hl
    clear hl
    go_enter Try.func12, Try.ntmps12
    go_wp2
    go_loopw [5] (fun i wr => ∃ k n : Nat, k ≤ x.length ∧ i = .int .i64 k ∧ x.take k = y.take k ∧ wr = w.drewN n) (fun i wr => x.length - (intOf i).toNat)
    case atStart => exact ⟨0, 0, by omega, rfl, rfl, rfl⟩
    case round =>
      obtain ⟨k, n, hk, rfl, he, rfl⟩ := hrel
      have He : Hid (x.take k = y.take k) := he
      clear he
      by_cases hlt : k < x.length
      · obtain ⟨b, o, rfl, h1, h2⟩ := hcx k hlt
        obtain ⟨b', o', rfl, h1', h2'⟩ := hcy k (by have := Hl.out; omega)
        have hlt' : k < y.length := by have := Hl.out; omega
        by_cases e : x.getD k [] = y.getD k []
        · have HE : Hid (x.take (k + 1) = y.take (k + 1)) := take_next He.out hlt hlt' e
          rw [e] at h1 h2
          clear e
          generalize y.getD k [] = s at *
          go_wp2
          go_quiet (fail)
          go_wp2
          go_roundw
          case rel => exact ⟨k + 1, _, by omega, by go_num, HE.out, rfl⟩
          case measure => simp [intOf]; omega
        · have HE : Hid (¬ x = y) := fun h => e (by rw [h])
          have hne : ((x.getD k []) == (y.getD k [])) = false := beq_eq_false_iff_ne.2 e
          clear e
          generalize y.getD k [] = s at *
          generalize x.getD k [] = t at *
          go_wp2
          go_quiet (fail)
          go_wp2
          go_ret
          exact ⟨by rw [decide_eq_false HE.out]; rfl, n + nq, by simp⟩
      · have HE : Hid (x = y) := by
          have := He.out
          rw [List.take_of_length_le (by omega), List.take_of_length_le (by have := Hl.out; omega)] at this
          exact this
        go_wp2
        go_ret
        exact ⟨by rw [decide_eq_true HE.out]; rfl, _, rfl⟩
  · have q : ((x.length : Int) != (y.length : Int)) = true := by simp; omega
    go_enter Try.func12, Try.ntmps12
    go_wp2
    go_ret
    refine ⟨?_, 0, rfl⟩
    have : ¬ x = y := fun h => hl (by rw [h])
    simp [this]

end Go.Proofs.Ytdnogggadocilae
