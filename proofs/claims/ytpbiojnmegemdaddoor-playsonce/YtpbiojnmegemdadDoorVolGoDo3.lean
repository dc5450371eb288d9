/- The program's own 'Do', whole: its contract. -/
import Derived.Test.YtpbiojnmegemdadDoorVolGoDo2
namespace Go.Proofs.YtpbiojnmegemdadDoor
open Go.RowKit
set_option linter.unusedVariables false
set_option linter.unusedSimpArgs false
attribute [local go_sem] app_list ext_list get_list byteAt_zero

set_option maxHeartbeats 2000000 in
theorem do_badV (V : VolM) (o : OpM) (v : Value) (w : World) (h : VolAt w v V) (hl : o.data.length ≤ 281474976710656) (hv : volFault V ≠ 0) :
    Calls Tryd.prog 31 #[v, .agg (opCells o).toArray] w fun e w' => e = .returned (.tuple #[.agg #[.slice none 0 0, .slice none 0 0], .agg #[.int .i64 0, .int .i64 0, .string ⟨#[]⟩], .int .i64 (volFault V)]) ∧ Below w.heap.size w w' := by
  obtain ⟨k, p, s, d⟩ := o
  unfold opCells
  have h' := h
  obtain ⟨vn, vs, rfl, _, _⟩ := h'
  obtain ⟨b0, b1, b2, b3, hb⟩ := boxes4 w 40 26 40 49 [vn, vs] [.int .i64 k, .int .i64 p, .int .i64 s, .string ⟨d.toArray⟩] [.slice none 0 0, .slice none 0 0] [.int .i64 0, .int .i64 0, .string ⟨#[]⟩]
  go_enter Tryd.func31, Tryd.ntmps31
  go_wp2_with fail
  refine (volCheck_any V _ _ (h.below hb)).mono ?_
  rintro e w1 ⟨rfl, hb1⟩
  generalize hx : volFault V = x at *
  have HX : Hid (volFault V = x) := hx
  clear hx
  have t1 : (x == 0) = false := by simpa using hv
  have t2 : (x != 0) = true := by simpa using hv
  clear hv
  have b2' := b2.below hb1 b2.lt
  have b3' := b3.below hb1 b3.lt
  have hbw := Below.seq hb hb1
  clear b0 b1 b2 b3 hb hb1
  have y0 := b2'.cell 0 _ rfl
  have y1 := b2'.cell 1 _ rfl
  have f0 := b2'.frozen 0
  have f1 := b2'.frozen 1
  have z0 := b3'.cell 0 _ rfl
  have z1 := b3'.cell 1 _ rfl
  have z2 := b3'.cell 2 _ rfl
  have g0 := b3'.frozen 0
  have g1 := b3'.frozen 1
  have g2 := b3'.frozen 2
  have HB : Hid (Below _ _ _) := ((((hbw.setCell (p := ⟨w.heap.size + 1 + 1, 0, none⟩) (by simp <;> omega) (.slice none 0 0)).setCell (p := ⟨w.heap.size + 1 + 1, 1, none⟩) (by simp <;> omega) (.slice none 0 0)).setCell (p := ⟨w.heap.size + 1 + 1 + 1, 0, none⟩) (by simp <;> omega) (.int .i64 0)).setCell (p := ⟨w.heap.size + 1 + 1 + 1, 1, none⟩) (by simp <;> omega) (.int .i64 0)).setCell (p := ⟨w.heap.size + 1 + 1 + 1, 2, none⟩) (by simp <;> omega) (.string ⟨#[]⟩)
  clear b2' b3' hbw
  go_wp2_with fail
  refine bodyPost_ret (v := .tuple #[.agg #[.slice none 0 0, .slice none 0 0], .agg #[.int .i64 0, .int .i64 0, .string ⟨#[]⟩], .int .i64 x]) ?_ rfl ?_
  · clear HB HX
    simp [results, Tryd.results31, go_sem, *]
  · exact ⟨by rw [HX.out], HB.out⟩

set_option maxHeartbeats 2000000 in
theorem do_badO (V : VolM) (o : OpM) (v : Value) (w : World) (h : VolAt w v V) (hl : o.data.length ≤ 281474976710656) (hv : volFault V = 0) (ho : opFault o ≠ 0) :
    Calls Tryd.prog 31 #[v, .agg (opCells o).toArray] w fun e w' => e = .returned (.tuple #[.agg #[.slice none 0 0, .slice none 0 0], .agg #[.int .i64 0, .int .i64 0, .string ⟨#[]⟩], .int .i64 (opFault o)]) ∧ Below w.heap.size w w' := by
  obtain ⟨k, p, s, d⟩ := o
  unfold opCells
  have h' := h
  obtain ⟨vn, vs, rfl, _, _⟩ := h'
  obtain ⟨b0, b1, b2, b3, hb⟩ := boxes4 w 40 26 40 49 [vn, vs] [.int .i64 k, .int .i64 p, .int .i64 s, .string ⟨d.toArray⟩] [.slice none 0 0, .slice none 0 0] [.int .i64 0, .int .i64 0, .string ⟨#[]⟩]
  go_enter Tryd.func31, Tryd.ntmps31
  go_wp2_with fail
  refine (volCheck_any V _ _ (h.below hb)).mono ?_
  rintro e w1 ⟨rfl, hb1⟩
  rw [hv]
  have b1' := b1.below hb1 b1.lt
  have b2 := b2.below hb1 b2.lt
  have b3 := b3.below hb1 b3.lt
  have hbw := Below.seq hb hb1
  clear b0 b1 hb hb1
  have x0 := b1'.cell 0 _ rfl
  have x1 := b1'.cell 1 _ rfl
  have x2 := b1'.cell 2 _ rfl
  have x3 := b1'.cell 3 _ rfl
  go_wp2_with fail
  refine (volCheckOp_any ⟨k, p, s, d⟩ _ hl).mono ?_
  rintro e w2 ⟨rfl, hb2⟩
  generalize hx : opFault ⟨k, p, s, d⟩ = x at *
  have HX : Hid (opFault ⟨k, p, s, d⟩ = x) := hx
  clear hx
  have t1 : (x == 0) = false := by simpa using ho
  have t2 : (x != 0) = true := by simpa using ho
  clear ho
  have b2' := b2.below hb2 b2.lt
  have b3' := b3.below hb2 b3.lt
  have hbw := Below.seq hbw hb2
  clear b1' b2 b3 hb2 x0 x1 x2 x3
  have y0 := b2'.cell 0 _ rfl
  have y1 := b2'.cell 1 _ rfl
  have f0 := b2'.frozen 0
  have f1 := b2'.frozen 1
  have z0 := b3'.cell 0 _ rfl
  have z1 := b3'.cell 1 _ rfl
  have z2 := b3'.cell 2 _ rfl
  have g0 := b3'.frozen 0
  have g1 := b3'.frozen 1
  have g2 := b3'.frozen 2
  have HB : Hid (Below _ _ _) := ((((hbw.setCell (p := ⟨w.heap.size + 1 + 1, 0, none⟩) (by simp <;> omega) (.slice none 0 0)).setCell (p := ⟨w.heap.size + 1 + 1, 1, none⟩) (by simp <;> omega) (.slice none 0 0)).setCell (p := ⟨w.heap.size + 1 + 1 + 1, 0, none⟩) (by simp <;> omega) (.int .i64 0)).setCell (p := ⟨w.heap.size + 1 + 1 + 1, 1, none⟩) (by simp <;> omega) (.int .i64 0)).setCell (p := ⟨w.heap.size + 1 + 1 + 1, 2, none⟩) (by simp <;> omega) (.string ⟨#[]⟩)
  clear b2' b3' hbw
  go_wp2_with fail
  refine bodyPost_ret (v := .tuple #[.agg #[.slice none 0 0, .slice none 0 0], .agg #[.int .i64 0, .int .i64 0, .string ⟨#[]⟩], .int .i64 x]) ?_ rfl ?_
  · clear HB HX
    simp [results, Tryd.results31, go_sem, *]
  · exact ⟨by rw [HX.out], HB.out⟩

theorem volDo_any (V : VolM) (o : OpM) (v : Value) (w : World) (h : VolAt w v V) (hl : o.data.length ≤ 281474976710656) :
    Calls Tryd.prog 31 #[v, .agg (opCells o).toArray] w fun e w' => ∃ v', e = .returned (.tuple #[v', repVal (doR V o), .int .i64 (doE V o)]) ∧ VolNew w' w.heap.size v' (doV V o) ∧ Below w.heap.size w w' := by
  by_cases hv : volFault V = 0
  · have e1 : doE V o = opFault o := by unfold doE; rw [if_pos hv]
    by_cases ho : opFault o = 0
    · unfold doR doV
      rw [e1, if_pos ho, if_pos ho, ho]
      exact do_ok V o v w h hv ho
    · unfold doR doV
      rw [e1, if_neg ho, if_neg ho]
      exact (do_badO V o v w h hl hv ho).mono fun e w' ⟨he, hb⟩ => ⟨_, he, VolNew.nil _ _, hb⟩
  · have e1 : doE V o = volFault V := by unfold doE; rw [if_neg hv]
    unfold doR doV
    rw [e1, if_neg hv, if_neg hv]
    exact (do_badV V o v w h hl hv).mono fun e w' ⟨he, hb⟩ => ⟨_, he, VolNew.nil _ _, hb⟩

end Go.Proofs.YtpbiojnmegemdadDoor
