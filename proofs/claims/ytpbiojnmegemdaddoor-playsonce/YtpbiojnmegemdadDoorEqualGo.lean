/- slices.Equal of lists that are the same: of texts, and of lasts. -/
import Derived.Test.YtpbiojnmegemdadDoorKeepVol
import Derived.Test.YtpbiojnmegemdadDoorMachMem
import Derived.Test.YtpbiojnmegemdadDoorSteps
import Derived.Test.YtpbiojnmegemdadDoorShelf
import Derived.Laws.StructEq
import Derived.Deep.DeepCutAuto
import Derived.BigQuiet
import Derived.Deep.QuietTactic
namespace Go.Proofs.YtpbiojnmegemdadDoor
open Go.RowKit
set_option linter.unusedVariables false
set_option linter.unusedSimpArgs false
attribute [local go_sem] app_list ext_list get_list byteAt_zero

theorem equalStrs_same (x : List (List UInt8)) (v v' : Value) (w : World) (hx : Strs w v x) (hy : Strs w v' x) (h0 : 0 < x.length) :
    Calls Tryd.prog 11 #[v, v'] w fun e w' => e = .returned (.bool true) ∧ Below w.heap.size w w' := by
  obtain ⟨a, c, rfl, hl, hc⟩ := hx
  obtain ⟨a', c', rfl, _, hc'⟩ := hy
  obtain ⟨b, o, rfl, _⟩ := hc 0 h0
  obtain ⟨b', o', rfl, _⟩ := hc' 0 h0
  have key : ∀ (xs : List ByteArray), xs = x.map (fun l => ⟨l.toArray⟩) → ∀ j (hj : j < xs.length), xs[j] = ⟨(x.getD j []).toArray⟩ := by
    rintro xs rfl j hj
    have hj' : j < x.length := by simpa using hj
    simp [List.getD, hj']
  refine (Tryd.slices_Equal_string b o x.length c b' o' x.length c' (x.map fun l => ⟨l.toArray⟩) (x.map fun l => ⟨l.toArray⟩) w (by simp) (by simp) (by omega) (by omega) ?_ ?_).mono ?_
  · intro j hj
    have hj' : j < x.length := by simpa using hj
    obtain ⟨b1, o1, he, hcell, _⟩ := hc j hj'
    cases he
    rw [hcell]
    simp [List.getD, hj']
  · intro j hj
    have hj' : j < x.length := by simpa using hj
    obtain ⟨b1, o1, he, hcell, _⟩ := hc' j hj'
    cases he
    rw [hcell]
    simp [List.getD, hj']
  · rintro e w' ⟨rfl, q, rfl⟩
    exact ⟨by simp, below_drew_n _ _⟩

set_option maxHeartbeats 1000000 in
theorem equalLasts_same (x : List LastM) (v v' : Value) (w : World) (hx : LastsAt w v x) (hy : LastsAt w v' x) :
    Calls Tryd.prog 12 #[v, v'] w fun e w' => e = .returned (.bool true) ∧ Below w.heap.size w w' := by
  obtain ⟨a, c, rfl, hl, hc⟩ := hx
  obtain ⟨a', c', rfl, _, hc'⟩ := hy
  go_enter Tryd.func12, Tryd.ntmps12
  go_wp2_with fail
  go_loopw [13] (fun i wr => ∃ k : Nat, k ≤ x.length ∧ i = .int .i64 k ∧ Below w.heap.size w wr) (fun i wr => x.length - (intOf i).toNat)
  case atStart => exact ⟨0, by omega, rfl, Below.refl _ _⟩
  case round =>
    obtain ⟨k, hk, rfl, hb⟩ := hrel
    by_cases hlt : k < x.length
    · obtain ⟨b, o, rfl, p0, p1, p2, p3, _⟩ := hc k hlt
      obtain ⟨b', o', rfl, q0, q1, q2, q3, _⟩ := hc' k hlt
      have lp := lt_of_cell p0
      have lq := lt_of_cell q0
      have x0 := (hb.cell (p := ⟨b, _, none⟩) lp).trans p0
      have x1 := (hb.cell (p := ⟨b, _, none⟩) lp).trans p1
      have x2 := (hb.cell (p := ⟨b, _, none⟩) lp).trans p2
      have x3 := (hb.cell (p := ⟨b, _, none⟩) lp).trans p3
      have y0 := (hb.cell (p := ⟨b', _, none⟩) lq).trans q0
      have y1 := (hb.cell (p := ⟨b', _, none⟩) lq).trans q1
      have y2 := (hb.cell (p := ⟨b', _, none⟩) lq).trans q2
      have y3 := (hb.cell (p := ⟨b', _, none⟩) lq).trans q3
      have HB : Hid (Below w.heap.size w wr) := hb
      have k0 : (0 : Int) ≤ (k : Int) := by omega
      have k1 : (k : Int) < (x.length : Int) := by omega
      clear p0 p1 p2 p3 q0 q1 q2 q3 hb hc hc' lp lq
      generalize x.getD k zeroLast = y at *
      go_wp2_with fail
      go_quiet (fail)
      go_wp2_with fail
      go_roundw
      case rel => exact ⟨k + 1, by omega, by go_num, Below.far HB.out (below_drew_n _ _)⟩
      case measure => simp [intOf]; omega
    · have HB : Hid (Below w.heap.size w wr) := hb
      clear hb hc hc'
      go_wp2_with fail
      go_ret
      exact ⟨rfl, HB.out⟩

end Go.Proofs.YtpbiojnmegemdadDoor
