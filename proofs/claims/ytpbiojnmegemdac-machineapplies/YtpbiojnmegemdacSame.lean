import Derived.Test.YtpbiojnmegemdacVolMem
import Derived.BigQuiet
import Derived.Deep.QuietTactic
namespace Go.Proofs.Ytpbiojnmegemdac
open Go.RowKit
set_option linter.unusedVariables false
attribute [local go_sem] app_list ext_list get_list byteAt_zero

set_option maxHeartbeats 1000000 in
theorem sameTexts_any (x y : List (List UInt8)) (vx vy : Value) (w : World) (hx : Strs w vx x) (hy : Strs w vy y) :
    Calls Try.prog 45 #[vx, vy] w fun e w' => e = .returned (.bool (decide (x = y))) ∧ ∃ n, w' = w.drewN n := by
  obtain ⟨a, c, rfl, hlx, hcx⟩ := hx
  obtain ⟨a', c', rfl, hly, hcy⟩ := hy
  by_cases hl : x.length = y.length
  · have q : ((x.length : Int) != (y.length : Int)) = false := by simp; omega
    have Hl : Hid (x.length = y.length) := hl
    clear hl
    go_enter Try.func45, Try.ntmps45
    go_wp2
    go_loopw [5] (fun i wr => ∃ k n : Nat, k ≤ x.length ∧ i = .int .i64 k ∧ x.take k = y.take k ∧ wr = w.drewN n) (fun i wr => x.length - (intOf i).toNat)
    case atStart => exact ⟨0, 0, by omega, rfl, rfl, rfl⟩
    case round =>
      obtain ⟨k, n, hk, rfl, he, rfl⟩ := hrel
      have He : Hid (x.take k = y.take k) := he
      clear he
      by_cases hlt : k < x.length
      · obtain ⟨b, o, rfl, h1, h2⟩ := hcx k hlt
        obtain ⟨b', o', rfl, h1', h2'⟩ := hcy k (by have := Hl.out; omega)
        have hlt' : k < y.length := by have := Hl.out; omega
        by_cases e : x.getD k [] = y.getD k []
        · have HE : Hid (x.take (k + 1) = y.take (k + 1)) := take_next He.out hlt hlt' e
          rw [e] at h1 h2
          clear e
          generalize y.getD k [] = s at *
          go_wp2
          go_quiet (fail)
          go_wp2
          go_roundw
          case rel => exact ⟨k + 1, _, by omega, by go_num, HE.out, rfl⟩
          case measure => simp [intOf]; omega
        · have HE : Hid (¬ x = y) := fun h => e (by rw [h])
          have hne : ((x.getD k []) == (y.getD k [])) = false := beq_eq_false_iff_ne.2 e
          clear e
          generalize y.getD k [] = s at *
          generalize x.getD k [] = t at *
          go_wp2
          go_quiet (fail)
          go_wp2
          go_ret
          exact ⟨by rw [decide_eq_false HE.out]; rfl, n + nq, by simp⟩
      · have HE : Hid (x = y) := by
          have := He.out
          rw [List.take_of_length_le (by omega), List.take_of_length_le (by have := Hl.out; omega)] at this
          exact this
        go_wp2
        go_ret
        exact ⟨by rw [decide_eq_true HE.out]; rfl, _, rfl⟩
  · have q : ((x.length : Int) != (y.length : Int)) = true := by simp; omega
    go_enter Try.func45, Try.ntmps45
    go_wp2
    go_ret
    refine ⟨?_, 0, rfl⟩
    have : ¬ x = y := fun h => hl (by rw [h])
    simp [this]

set_option maxHeartbeats 1000000 in
theorem sameVolume_any (X Y : VolM) (vx vy : Value) (w : World) (hx : VolAt w vx X) (hy : VolAt w vy Y) :
    Calls Try.prog 34 #[vx, vy] w fun e w' => e = .returned (.bool (decide (X.now = Y.now) && decide (X.snaps = Y.snaps))) ∧ Below w.heap.size w w' := by
  obtain ⟨vn, vs, rfl, hn, hs⟩ := hx
  obtain ⟨vn', vs', rfl, hn', hs'⟩ := hy
  obtain ⟨a, c, rfl, hla, hca⟩ := hs
  obtain ⟨a', c', rfl, hla', hca'⟩ := hs'
  by_cases hN : X.now = Y.now
  · rw [decide_eq_true hN, Bool.true_and]
    by_cases hl : X.snaps.length = Y.snaps.length
    · have qN : decide (X.now = Y.now) = true := decide_eq_true hN
      have ql : ((X.snaps.length : Int) != (Y.snaps.length : Int)) = false := by simp; omega
      have Hl : Hid (X.snaps.length = Y.snaps.length) := hl
      clear hN hl
      go_enter Try.func34, Try.ntmps34
      go_wp2_with fail
      refine (sameTexts_any _ _ _ _ _ (by exact hn.below (below_alloc2 _ _ _)) (by exact hn'.below (below_alloc2 _ _ _))).mono ?_
      rintro e w1 ⟨rfl, n1, rfl⟩
      rw [qN]
      clear qN
      go_wp2_with fail
      go_loopw [5] (fun i wr => ∃ k n : Nat, k ≤ X.snaps.length ∧ i = .int .i64 k ∧ X.snaps.take k = Y.snaps.take k ∧ wr = ((w.alloc (Obj.cells #[vn, Value.slice a X.snaps.length c] 37)).alloc (Obj.cells #[vn', Value.slice a' Y.snaps.length c'] 37)).drewN n) (fun i wr => X.snaps.length - (intOf i).toNat)
      case atStart => exact ⟨0, _, by omega, rfl, rfl, rfl⟩
      case round =>
        obtain ⟨k, n, hk, rfl, he, rfl⟩ := hrel
        have He : Hid (X.snaps.take k = Y.snaps.take k) := he
        clear he
        by_cases hlt : k < X.snaps.length
        · obtain ⟨b, o, u, rfl, h1, h2⟩ := hca k hlt
          obtain ⟨b', o', u', rfl, h1', h2'⟩ := hca' k (by have := Hl.out; omega)
          have hlt' : k < Y.snaps.length := by have := Hl.out; omega
          have hb := lt_of_cell h1
          have hb' := lt_of_cell h1'
          have h3 := h2.below (below_alloc2 w (Obj.cells #[vn, Value.slice (some ⟨b, o, none⟩) X.snaps.length c] 37) (Obj.cells #[vn', Value.slice (some ⟨b', o', none⟩) Y.snaps.length c'] 37))
          have h3' := h2'.below (below_alloc2 w (Obj.cells #[vn, Value.slice (some ⟨b, o, none⟩) X.snaps.length c] 37) (Obj.cells #[vn', Value.slice (some ⟨b', o', none⟩) Y.snaps.length c'] 37))
          have ct := fun m => Calls.quiet_of (n := m) (sameTexts_any _ _ _ _ _ ((h3.drewN n).drewN m) ((h3'.drewN n).drewN m))
          simp only [World.drewN_drewN] at ct
          clear hca hca' h2 h2' h3 h3'
          by_cases e : X.snaps.getD k [] = Y.snaps.getD k []
          · have HE : Hid (X.snaps.take (k + 1) = Y.snaps.take (k + 1)) := take_next He.out hlt hlt' e
            rw [decide_eq_true e] at ct
            clear e
            have CT : Hid (∀ m, _) := ct
            clear ct
            go_wp2_with fail
            go_quiet ((go_at_call 45; exact CT.out _))
            go_wp2_with fail
            go_roundw
            case rel => exact ⟨k + 1, _, by omega, by go_num, HE.out, rfl⟩
            case measure => simp [intOf]; omega
          · have HE : Hid (¬ X.snaps = Y.snaps) := fun h => e (by rw [h])
            rw [decide_eq_false e] at ct
            clear e
            have CT : Hid (∀ m, _) := ct
            clear ct
            go_wp2_with fail
            go_quiet ((go_at_call 45; exact CT.out _))
            go_wp2_with fail
            go_ret
            exact ⟨by rw [decide_eq_false HE.out]; rfl, below_drewN (below_drewN (below_alloc2 _ _ _) _) _⟩
        · have HE : Hid (X.snaps = Y.snaps) := by
            have := He.out
            rw [List.take_of_length_le (by omega), List.take_of_length_le (by have := Hl.out; omega)] at this
            exact this
          go_wp2_with fail
          go_ret
          exact ⟨by rw [decide_eq_true HE.out]; rfl, below_drewN (below_alloc2 _ _ _) _⟩
    · have qN : decide (X.now = Y.now) = true := decide_eq_true hN
      have ql : ((X.snaps.length : Int) != (Y.snaps.length : Int)) = true := by simp; omega
      have HE : Hid (¬ X.snaps = Y.snaps) := fun h => hl (by rw [h])
      clear hN hl
      go_enter Try.func34, Try.ntmps34
      go_wp2_with fail
      refine (sameTexts_any _ _ _ _ _ (by exact hn.below (below_alloc2 _ _ _)) (by exact hn'.below (below_alloc2 _ _ _))).mono ?_
      rintro e w1 ⟨rfl, n1, rfl⟩
      rw [qN]
      clear qN
      go_wp2_with fail
      go_ret
      exact ⟨by rw [decide_eq_false HE.out]; rfl, below_drewN (below_alloc2 _ _ _) _⟩
  · rw [decide_eq_false hN, Bool.false_and]
    have qN : decide (X.now = Y.now) = false := decide_eq_false hN
    clear hN
    go_enter Try.func34, Try.ntmps34
    go_wp2_with fail
    refine (sameTexts_any _ _ _ _ _ (by exact hn.below (below_alloc2 _ _ _)) (by exact hn'.below (below_alloc2 _ _ _))).mono ?_
    rintro e w1 ⟨rfl, n1, rfl⟩
    rw [qN]
    clear qN
    go_wp2_with fail
    go_ret
    exact ⟨rfl, below_drewN (below_alloc2 _ _ _) _⟩
end Go.Proofs.Ytpbiojnmegemdac
