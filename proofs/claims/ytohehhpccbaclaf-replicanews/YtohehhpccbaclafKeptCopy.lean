/- The walk of the document's answer KeptCopy. -/
import Derived.Test.YtohehhpccbaclafStageMem
import Derived.Test.YtohehhpccbaclafRowlaw
import Derived.BigQuiet
import Derived.Deep.QuietTactic
import Derived.Deep.DeepCutAuto
namespace Go.Proofs.Ytohehhpccbaclaf
open Go.RowKit
set_option linter.unusedVariables false
set_option linter.unusedSimpArgs false
attribute [local go_sem] app_list ext_list get_list byteAt_zero

set_option maxHeartbeats 1000000 in
theorem keptCopyOf_any (K : KeptM) (v : Value) (w : World) (h : KeptAt w v K) (hf : K.log.length * 16 ≤ 140737488355328) :
    Calls Try.prog 26 #[v] w fun e w' => ∃ v', e = .returned v' ∧ KeptNew w' w.heap.size v' K ∧ Below w.heap.size w w' := by
  obtain ⟨vl, rfl, hs⟩ := h
  obtain ⟨vw, nm, cm, l, ct⟩ := K
  simp only at hs hf ⊢
  have HS : Hid (Strs w vl l) := hs
  obtain ⟨a, c, rfl, hlx, hcx⟩ := hs
  obtain ⟨b0, b1, hb⟩ := boxes2 w 24 24 [.int .i64 vw, .int .i64 nm, .bool cm, .slice a l.length c, .int .i64 ct] [.int .i64 0, .int .i64 0, .bool false, .slice none 0 0, .int .i64 0]
  obtain ⟨w0, hw0⟩ : ∃ w0, w0 = (w.alloc (.cells #[.int .i64 vw, .int .i64 nm, .bool cm, .slice a l.length c, .int .i64 ct] 24)).alloc (.cells #[.int .i64 0, .int .i64 0, .bool false, .slice none 0 0, .int .i64 0] 24) := ⟨_, rfl⟩
  have HSZ : Hid (w0.heap.size = w.heap.size + 1 + 1) := by unfold Hid; rw [hw0]; simp
  go_enter Try.func26, Try.ntmps26
  go_upto_region 1 with fail
  rw [← hw0] at b0 b1 hb ⊢
  clear hw0
  have x3 := b0.cell 3 _ rfl
  have HR : Hid (RowAt w0 (.slice a l.length c) l.length 1 (l.map enc)) := (HS.out.below hb).row
  have HB0 : Hid (Box w0 w.heap.size _ _) := b0
  have HB1 : Hid (Box w0 (w.heap.size + 1) _ _) := b1
  have HBW : Hid (Below w.heap.size w w0) := hb
  clear b0 b1 hb hcx
  go_wp2_with (at_builtin; refine wpList_append_row _ rfl _ _ 22 rfl w0.heap.size 9 Try.t9 _ 1 16 Try.underlying22 infoStr zeroStr sizeStr bytesStr rfl (by decide) _ 0 [] rfl (World.ownsRow_nil _ _ _ _) _ l.length (l.map enc) rfl HR.out (by intro u hu; obtain ⟨x, _, rfl⟩ := List.mem_map.1 hu; rfl) (by unfold maxLen; omega) (by omega) (Nat.le_refl _) ?_)
  intro v5 wB hownB hgB hatB
  try rw [Nat.zero_add, List.nil_append] at hownB
  have hsz := HSZ.out
  have hbB : Below w0.heap.size w0 wB := (Below.refl _ _).grown hgB (Nat.le_refl _) (fun k e => by cases e)
  obtain ⟨a5, c5, rfl⟩ := own_formN hownB
  have e0 := HB0.out.below hbB HB0.out.lt
  have e1 := HB1.out.below hbB HB1.out.lt
  have hbb := Below.far HBW.out hbB
  clear x3 hgB hatB HR HS
  have x0 := e0.cell 0 _ rfl
  have x1 := e0.cell 1 _ rfl
  have x2 := e0.cell 2 _ rfl
  have x3 := e0.cell 3 _ rfl
  have x4 := e0.cell 4 _ rfl
  have z3 := e0.frozen 3
  have y0 := e1.cell 0 _ rfl
  have y1 := e1.cell 1 _ rfl
  have y2 := e1.cell 2 _ rfl
  have y3 := e1.cell 3 _ rfl
  have y4 := e1.cell 4 _ rfl
  have f0 := e1.frozen 0
  have f1 := e1.frozen 1
  have f2 := e1.frozen 2
  have f3 := e1.frozen 3
  have f4 := e1.frozen 4
  have HN : Hid (KeptNew _ w.heap.size _ ⟨vw, nm, cm, l, ct⟩) := (((((((show KeptNew wB w0.heap.size (.agg #[.int .i64 vw, .int .i64 nm, .bool cm, .slice a5 l.length c5, .int .i64 ct]) ⟨vw, nm, cm, l, ct⟩ from ⟨_, rfl, hownB⟩).other (a := ⟨w.heap.size, 3, none⟩) (by simp; omega) (.slice a5 l.length c5)).other (a := ⟨w.heap.size + 1, 0, none⟩) (by simp; omega) (.int .i64 vw)).other (a := ⟨w.heap.size + 1, 1, none⟩) (by simp; omega) (.int .i64 nm)).other (a := ⟨w.heap.size + 1, 2, none⟩) (by simp; omega) (.bool cm)).other (a := ⟨w.heap.size + 1, 3, none⟩) (by simp; omega) (.slice a5 l.length c5)).other (a := ⟨w.heap.size + 1, 4, none⟩) (by simp; omega) (.int .i64 ct)).base (by omega)
  have HB : Hid (Below w.heap.size w _) := (((((hbb.setCell (p := ⟨w.heap.size, 3, none⟩) (by simp) (.slice a5 l.length c5)).setCell (p := ⟨w.heap.size + 1, 0, none⟩) (by simp) (.int .i64 vw)).setCell (p := ⟨w.heap.size + 1, 1, none⟩) (by simp) (.int .i64 nm)).setCell (p := ⟨w.heap.size + 1, 2, none⟩) (by simp) (.bool cm)).setCell (p := ⟨w.heap.size + 1, 3, none⟩) (by simp) (.slice a5 l.length c5)).setCell (p := ⟨w.heap.size + 1, 4, none⟩) (by simp) (.int .i64 ct)
  clear hownB hbB e0 e1 hbb HB0 HB1 HBW hsz HSZ
  go_wp2_with fail
  refine bodyPost_ret (v := .agg #[.int .i64 vw, .int .i64 nm, .bool cm, .slice a5 l.length c5, .int .i64 ct]) ?_ rfl ⟨_, rfl, HN.out, HB.out⟩
  clear HN HB
  simp [results, Try.results26, go_sem, *]

end Go.Proofs.Ytohehhpccbaclaf
