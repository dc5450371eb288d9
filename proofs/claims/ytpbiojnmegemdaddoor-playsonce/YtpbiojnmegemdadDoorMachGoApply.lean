/- The program's own 'Apply', whole: its contract. -/
import Derived.Test.YtpbiojnmegemdadDoorMachGoApp
namespace Go.Proofs.YtpbiojnmegemdadDoor
open Go.RowKit
set_option linter.unusedVariables false
set_option linter.unusedSimpArgs false
attribute [local go_sem] app_list ext_list get_list byteAt_zero

set_option maxHeartbeats 1000000 in
theorem apply_badS (S : StateM) (s : List UInt8) (v : Value) (w : World) (h : StAt w v S) (h0 : stFault S ≠ 0) :
    Calls Tryd.prog 21 #[v, .string ⟨s.toArray⟩] w fun e w' => e = .returned (.tuple #[.agg #[.slice none 0 0, .slice none 0 0, .slice none 0 0], .int .i64 (stFault S)]) ∧ Below w.heap.size w w' := by
  have h' := h
  obtain ⟨vn, vs, vl, rfl, hv, hlast⟩ := h'
  obtain ⟨b0, b1, hb⟩ := boxes2 w 43 43 [vn, vs, vl] [.slice none 0 0, .slice none 0 0, .slice none 0 0]
  have HF : Hid (Calls _ _ _ _ _) := machCheck_any S _ _ (h.below hb)
  obtain ⟨x, hx⟩ : ∃ x, stFault S = x := ⟨_, rfl⟩
  rw [hx] at HF h0 ⊢
  clear hx
  have t1 : (x == 0) = false := by simpa using h0
  have t2 : (x != 0) = true := by simpa using h0
  go_enter Tryd.func21, Tryd.ntmps21
  go_wp2_with fail
  refine HF.out.mono ?_
  rintro e w1 ⟨rfl, hb1⟩
  have c1 := b1.below hb1 b1.lt
  have r0 := c1.cell 0 _ rfl
  have r1 := c1.cell 1 _ rfl
  have r2 := c1.cell 2 _ rfl
  have f0 := c1.frozen 0
  have f1 := c1.frozen 1
  have f2 := c1.frozen 2
  have hw1 := Below.seq hb hb1
  have HB : Hid (Below w.heap.size w _) := ((hw1.setCell (p := ⟨w.heap.size + 1, 0, none⟩) (by simp) (.slice none 0 0)).setCell (p := ⟨w.heap.size + 1, 1, none⟩) (by simp) (.slice none 0 0)).setCell (p := ⟨w.heap.size + 1, 2, none⟩) (by simp) (.slice none 0 0)
  clear b0 b1 hb hb1 c1 hw1 HF
  go_wp2_with fail
  exact bodyPost_ret (v := .tuple #[.agg #[.slice none 0 0, .slice none 0 0, .slice none 0 0], .int .i64 x]) (by clear HB; simp [results, Tryd.results21, go_sem, *]) rfl ⟨rfl, HB.out⟩

set_option maxHeartbeats 1000000 in
theorem apply_badE (S : StateM) (s : List UInt8) (v : Value) (w : World) (h : StAt w v S) (hl : s.length ≤ 281474976710656) (h0 : stFault S = 0) (h1 : decE s ≠ 0) :
    Calls Tryd.prog 21 #[v, .string ⟨s.toArray⟩] w fun e w' => e = .returned (.tuple #[.agg #[.slice none 0 0, .slice none 0 0, .slice none 0 0], .int .i64 (decE s)]) ∧ Below w.heap.size w w' := by
  have h' := h
  obtain ⟨vn, vs, vl, rfl, hv, hlast⟩ := h'
  obtain ⟨b0, b1, hb⟩ := boxes2 w 43 43 [vn, vs, vl] [.slice none 0 0, .slice none 0 0, .slice none 0 0]
  have HF : Hid (Calls _ _ _ _ _) := machCheck_any S _ _ (h.below hb)
  have HE : Hid (∀ w, Calls _ _ _ w _) := fun w => machDec_any s w hl
  rw [h0] at HF
  obtain ⟨x, hx⟩ : ∃ x, decE s = x := ⟨_, rfl⟩
  rw [hx] at HE h1 ⊢
  clear hx
  obtain ⟨r, hr⟩ : ∃ r, decR s = r := ⟨_, rfl⟩
  rw [hr] at HE
  obtain ⟨c, n, k, p, sn, d⟩ := r
  unfold reqVal at HE
  clear hr
  have t1 : (x == 0) = false := by simpa using h1
  have t2 : (x != 0) = true := by simpa using h1
  go_enter Tryd.func21, Tryd.ntmps21
  go_wp2_with fail
  refine HF.out.mono ?_
  rintro e w1 ⟨rfl, hb1⟩
  have c1 := b1.below hb1 b1.lt
  have hw1 := Below.seq hb hb1
  clear b0 b1 hb hb1 HF
  go_wp2_with fail
  refine (HE.out _).mono ?_
  rintro e w2 ⟨rfl, hb2⟩
  have d1 := c1.below hb2 c1.lt
  have hw2 := Below.seq hw1 hb2
  have r0 := d1.cell 0 _ rfl
  have r1 := d1.cell 1 _ rfl
  have r2 := d1.cell 2 _ rfl
  have f0 := d1.frozen 0
  have f1 := d1.frozen 1
  have f2 := d1.frozen 2
  have l1 := d1.lt
  have HB : Hid (Below w.heap.size w _) := Below.up (((hw2.setCell (p := ⟨w.heap.size + 1, 0, none⟩) (by simp) (.slice none 0 0)).setCell (p := ⟨w.heap.size + 1, 1, none⟩) (by simp) (.slice none 0 0)).setCell (p := ⟨w.heap.size + 1, 2, none⟩) (by simp) (.slice none 0 0)) (.cells #[.int .i64 c, .int .i64 n, .int .i64 k, .int .i64 p, .int .i64 sn, .string ⟨d.toArray⟩] 28)
  clear c1 hw1 hb2 d1 hw2 HE
  go_wp2_with fail
  exact bodyPost_ret (v := .tuple #[.agg #[.slice none 0 0, .slice none 0 0, .slice none 0 0], .int .i64 x]) (by clear HB; simp [results, Tryd.results21, go_sem, *]) rfl ⟨rfl, HB.out⟩

theorem machApply_any (S : StateM) (s : List UInt8) (v : Value) (w : World) (h : StAt w v S) (hl : s.length ≤ 281474976710656) :
    Calls Tryd.prog 21 #[v, .string ⟨s.toArray⟩] w fun e w' => ∃ v', e = .returned (.tuple #[v', .int .i64 (appE S s)]) ∧ StNew w' w.heap.size v' (appS S s) ∧ Below w.heap.size w w' := by
  by_cases h0 : stFault S = 0
  · have e1 : appE S s = decE s := by unfold appE; rw [if_pos h0]
    by_cases h1 : decE s = 0
    · unfold appS
      rw [e1, if_pos h1, h1]
      exact apply_ok S s v w h hl h0 h1
    · unfold appS
      rw [e1, if_neg h1]
      exact (apply_badE S s v w h hl h0 h1).mono fun e w' ⟨he, hb⟩ => ⟨_, he, StNew.nil _ _, hb⟩
  · have e1 : appE S s = stFault S := by unfold appE; rw [if_neg h0]
    unfold appS
    rw [e1, if_neg h0]
    exact (apply_badS S s v w h h0).mono fun e w' ⟨he, hb⟩ => ⟨_, he, StNew.nil _ _, hb⟩

end Go.Proofs.YtpbiojnmegemdadDoor
