/- The walk of the laws' sameState, at the same state twice. -/
import Derived.Test.YtpbiojnmegemdacSame
import Derived.Test.YtpbiojnmegemdacMachMem
namespace Go.Proofs.Ytpbiojnmegemdac
open Go.RowKit
set_option linter.unusedVariables false
set_option linter.unusedSimpArgs false
attribute [local go_sem] app_list ext_list get_list byteAt_zero

set_option maxHeartbeats 2000000 in
theorem sameState_any (S : StateM) (vx vy : Value) (w : World) (hx : StAt w vx S) (hy : StAt w vy S) :
    Calls Try.prog 17 #[vx, vy] w fun e w' => e = .returned (.bool true) ∧ Below w.heap.size w w' := by
  obtain ⟨vn, vs, vl, rfl, hv, a, c, rfl, hl, hc⟩ := hx
  obtain ⟨vn', vs', vl', rfl, hv', a', c', rfl, hl', hc'⟩ := hy
  obtain ⟨b0, b1, hb⟩ := boxes2 w 40 40 [vn, vs, .slice a S.lasts.length c] [vn', vs', .slice a' S.lasts.length c']
  have HV : Hid (Calls _ _ _ _ _) := sameVolume_any S.vol S.vol _ _ _ (hv.below hb) (hv'.below hb)
  rw [show (decide (S.vol.now = S.vol.now) && decide (S.vol.snaps = S.vol.snaps)) = true by simp] at HV
  have q : ((S.lasts.length : Int) != (S.lasts.length : Int)) = false := by simp
  go_enter Try.func17, Try.ntmps17
  go_wp2_with fail
  refine HV.out.mono ?_
  rintro e w1 ⟨rfl, hb1⟩
  have c0 := b0.below hb1 b0.lt
  have c1 := b1.below hb1 b1.lt
  have hw1 := Below.seq hb hb1
  clear b0 b1 hb hb1 HV
  have x2 := c0.cell 2 _ rfl
  have y2 := c1.cell 2 _ rfl
  go_wp2_with fail
  go_loopw [5] (fun i wr => ∃ k n : Nat, k ≤ S.lasts.length ∧ i = .int .i64 k ∧ wr = w1.drewN n) (fun i wr => S.lasts.length - (intOf i).toNat)
  case atStart => exact ⟨0, 0, by omega, rfl, rfl⟩
  case round =>
    obtain ⟨k, n, hk, rfl, rfl⟩ := hrel
    by_cases hlt : k < S.lasts.length
    · obtain ⟨b, o, rfl, p0, p1, p2, p3, _⟩ := hc k hlt
      obtain ⟨b', o', rfl, p0', p1', p2', p3', _⟩ := hc' k hlt
      have lb := lt_of_cell p0
      have lb' := lt_of_cell p0'
      have r0 := (hw1.cell (p := ⟨b, _, none⟩) lb).trans p0
      have r1 := (hw1.cell (p := ⟨b, _, none⟩) lb).trans p1
      have r2 := (hw1.cell (p := ⟨b, _, none⟩) lb).trans p2
      have r3 := (hw1.cell (p := ⟨b, _, none⟩) lb).trans p3
      have r0' := (hw1.cell (p := ⟨b', _, none⟩) lb').trans p0'
      have r1' := (hw1.cell (p := ⟨b', _, none⟩) lb').trans p1'
      have r2' := (hw1.cell (p := ⟨b', _, none⟩) lb').trans p2'
      have r3' := (hw1.cell (p := ⟨b', _, none⟩) lb').trans p3'
      clear p0 p1 p2 p3 p0' p1' p2' p3' hc hc' c0 c1
      generalize S.lasts.getD k zeroLast = x at *
      have k0 : (0 : Int) ≤ (k : Int) := by omega
      have k1 : (k : Int) < (S.lasts.length : Int) := by omega
      go_wp2_with fail
      go_quiet (fail)
      go_wp2_with fail
      go_roundw
      case rel => exact ⟨k + 1, _, by omega, by go_num, rfl⟩
      case measure => simp [intOf]; omega
    · go_wp2_with fail
      go_ret
      exact ⟨rfl, hw1.trans ((below_drew_n w1 n).mono hw1.size)⟩

end Go.Proofs.Ytpbiojnmegemdac
