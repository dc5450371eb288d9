/- The program's own replica.copied, of numbers and of bools. -/
import Derived.Test.YtohehhpccbaclafReplMem
import Derived.Laws.CopyOwn
import Derived.Laws.EntriesVeiled
import Derived.Deep.DeepCutAuto
namespace Go.Proofs.Ytohehhpccbaclaf
open Go.RowKit
set_option linter.unusedVariables false
set_option linter.unusedSimpArgs false

theorem made_one (z : Value) (n : Nat) : (madeCells #[z] n).toList = List.replicate n z := by
  unfold madeCells
  apply List.ext_getElem
  · simp
  · intro i h1 h2
    simp [Nat.mod_one]
theorem RowAt.below {w w' : World} {v : Value} {n size : Nat} {xs : List Value} (h : RowAt w v n size xs) (hb : Below w.heap.size w w') : RowAt w' v n size xs := by
  obtain ⟨a, cap, hv, hl, hc⟩ := h
  refine ⟨a, cap, hv, hl, fun j u hj => ?_⟩
  obtain ⟨ad, ha, hcell⟩ := hc j u hj
  refine ⟨ad, ha, ?_⟩
  have : (ad.add j).block < w.heap.size := World.block_lt_of_cell? w _ hcell
  rw [hb.cell this]
  exact hcell
theorem RowAt.ad {w : World} {a : Option Addr} {m c n size : Nat} {xs : List Value} (h : RowAt w (.slice a m c) n size xs) : 0 < xs.length → ∃ ad, a = some ad ∧ ∀ j u, xs[j]? = some u → w.cell? (ad.add j) = some u := by
  intro h0
  obtain ⟨a', c', hv, hl, hc⟩ := h
  cases hv
  obtain ⟨ad, had, _⟩ := hc 0 _ (List.getElem?_eq_getElem h0)
  refine ⟨ad, had, fun j u hj => ?_⟩
  obtain ⟨ad', had', h2⟩ := hc j u hj
  rw [had] at had'
  cases had'
  exact h2

theorem infoIntsC : Try.prog.info? 3 = some Try.t3 := by kernel_rfl
theorem zeroIntsC : Try.t3.zero = some (.int .i64 0) := by kernel_rfl
theorem sizeIntsC : Try.t3.size = 1 := by kernel_rfl
theorem bytesIntsC : Try.t3.bytes = 8 := by kernel_rfl

set_option maxHeartbeats 2000000 in
theorem copiedInts_any (x : List Int) (v : Value) (w : World) (h : RowAt w v x.length 1 (x.map encI)) (hz : x.length * 8 ≤ 140737488355328) :
    Calls Try.prog 30 #[v] w fun e w' => ∃ v', e = .returned v' ∧ w'.ownsRow w.heap.size 3 1 v' x.length (x.map encI) ∧ Below w.heap.size w w' := by
  have HRW : Hid (RowAt w v x.length 1 (x.map encI)) := h
  obtain ⟨a, c, rfl, hlx, hcx⟩ := h
  clear hcx
  go_enter Try.func30, Try.ntmps30
  go_wp2_with (at_make; refine wpList_make_full _ rfl _ _ 25 rfl w.heap.size 3 Try.t3 _ 1 Try.underlying25 infoIntsC zeroIntsC sizeIntsC .i64 .i64 x.length x.length x.length rfl rfl rfl rfl (by rw [bytesIntsC]; omega) (by unfold maxLen; omega) (Nat.le_refl _) ?_)
  intro w1 hown hg
  rw [made_one] at hown
  obtain ⟨g, cap, cur, hv, hbg, hgc, _, hm, hcur, hcc⟩ := hown.2.resolve_left (by rintro ⟨h, _⟩; cases h)
  cases hv
  have hb1 : Below w.heap.size w w1 := (Below.refl _ _).grown hg (Nat.le_refl _) (fun _ h => by cases h)
  have Hr1 : Hid (RowAt w1 (.slice a x.length c) x.length 1 (x.map encI)) := RowAt.below HRW.out hb1
  have hcs : cur.size = x.length := by simpa using hcur
  have HG : Hid (w1.heap[w.heap.size]? = some (.cells cur.toList.toArray 3 (0, 0))) := by unfold Hid; simpa using hgc
  have HL : Hid (cur.size = x.length) := hcs
  have HZ : Hid (0 + (x.map encI).length ≤ cur.toList.length) := by unfold Hid; simp; omega
  have HC : Hid (0 < (x.map encI).length → ∃ ad, a = some ad ∧ ∀ j u, (x.map encI)[j]? = some u → w1.cell? (ad.add j) = some u) := Hr1.out.ad
  have HM : Hid (x.length ≤ maxLen) := hm
  clear hcs hgc hm hcur hcc hown hg HRW
  go_wp2_with (refine show wpList _ _ _ ({ dst := _, op := .call { callee := .builtin .copy, args := _, argTypes := _ }, type := _, pos := _, after := _, guard := _ } :: _) _ _ from ?_; refine wpList_copy_splice rfl _ _ 25 25 rfl 3 Try.underlying25 (by kernel_rfl) _ _ _ _ _ _ rfl rfl w.heap.size 0 cur.toList 3 HG.out (x.map encI) (by rw [List.length_map]; exact (Nat.min_self _).symm) (fun h0 => ⟨rfl, HC.out h0⟩) HZ.out (encI_one _) w.heap.size w hb1 (Nat.le_refl _) ?_)
  intro w2 HW2 hb2
  have HO : Hid (World.ownsRow w2 w.heap.size 3 1 (.slice (some ⟨w.heap.size, 0, none⟩) x.length x.length) x.length (x.map encI)) := by
    refine ⟨by simp, Or.inr ⟨_, _, _, rfl, Nat.le_refl _, HW2.out, Nat.le_refl _, HM.out, ?_, ?_⟩⟩
    · have := HL.out
      simp [splice]; omega
    · have := HL.out
      simp [splice]
  have HB2 : Hid (Below w.heap.size w w2) := hb2
  clear HW2 HG Hr1 hb1 hb2 HC HZ
  go_wp2_with fail
  go_ret
  exact ⟨_, rfl, HO.out, HB2.out⟩

theorem infoBoolsC : Try.prog.info? 4 = some Try.t4 := by kernel_rfl
theorem zeroBoolsC : Try.t4.zero = some (.bool false) := by kernel_rfl
theorem sizeBoolsC : Try.t4.size = 1 := by kernel_rfl
theorem bytesBoolsC : Try.t4.bytes = 1 := by kernel_rfl

set_option maxHeartbeats 2000000 in
theorem copiedBools_any (x : List Bool) (v : Value) (w : World) (h : RowAt w v x.length 1 (x.map encB)) (hz : x.length * 1 ≤ 140737488355328) :
    Calls Try.prog 31 #[v] w fun e w' => ∃ v', e = .returned v' ∧ w'.ownsRow w.heap.size 4 1 v' x.length (x.map encB) ∧ Below w.heap.size w w' := by
  have HRW : Hid (RowAt w v x.length 1 (x.map encB)) := h
  obtain ⟨a, c, rfl, hlx, hcx⟩ := h
  clear hcx
  go_enter Try.func31, Try.ntmps31
  go_wp2_with (at_make; refine wpList_make_full _ rfl _ _ 26 rfl w.heap.size 4 Try.t4 _ 1 Try.underlying26 infoBoolsC zeroBoolsC sizeBoolsC .i64 .i64 x.length x.length x.length rfl rfl rfl rfl (by rw [bytesBoolsC]; omega) (by unfold maxLen; omega) (Nat.le_refl _) ?_)
  intro w1 hown hg
  rw [made_one] at hown
  obtain ⟨g, cap, cur, hv, hbg, hgc, _, hm, hcur, hcc⟩ := hown.2.resolve_left (by rintro ⟨h, _⟩; cases h)
  cases hv
  have hb1 : Below w.heap.size w w1 := (Below.refl _ _).grown hg (Nat.le_refl _) (fun _ h => by cases h)
  have Hr1 : Hid (RowAt w1 (.slice a x.length c) x.length 1 (x.map encB)) := RowAt.below HRW.out hb1
  have hcs : cur.size = x.length := by simpa using hcur
  have HG : Hid (w1.heap[w.heap.size]? = some (.cells cur.toList.toArray 4 (0, 0))) := by unfold Hid; simpa using hgc
  have HL : Hid (cur.size = x.length) := hcs
  have HZ : Hid (0 + (x.map encB).length ≤ cur.toList.length) := by unfold Hid; simp; omega
  have HC : Hid (0 < (x.map encB).length → ∃ ad, a = some ad ∧ ∀ j u, (x.map encB)[j]? = some u → w1.cell? (ad.add j) = some u) := Hr1.out.ad
  have HM : Hid (x.length ≤ maxLen) := hm
  clear hcs hgc hm hcur hcc hown hg HRW
  go_wp2_with (refine show wpList _ _ _ ({ dst := _, op := .call { callee := .builtin .copy, args := _, argTypes := _ }, type := _, pos := _, after := _, guard := _ } :: _) _ _ from ?_; refine wpList_copy_splice rfl _ _ 26 26 rfl 4 Try.underlying26 (by kernel_rfl) _ _ _ _ _ _ rfl rfl w.heap.size 0 cur.toList 4 HG.out (x.map encB) (by rw [List.length_map]; exact (Nat.min_self _).symm) (fun h0 => ⟨rfl, HC.out h0⟩) HZ.out (encB_one _) w.heap.size w hb1 (Nat.le_refl _) ?_)
  intro w2 HW2 hb2
  have HO : Hid (World.ownsRow w2 w.heap.size 4 1 (.slice (some ⟨w.heap.size, 0, none⟩) x.length x.length) x.length (x.map encB)) := by
    refine ⟨by simp, Or.inr ⟨_, _, _, rfl, Nat.le_refl _, HW2.out, Nat.le_refl _, HM.out, ?_, ?_⟩⟩
    · have := HL.out
      simp [splice]; omega
    · have := HL.out
      simp [splice]
  have HB2 : Hid (Below w.heap.size w w2) := hb2
  clear HW2 HG Hr1 hb1 hb2 HC HZ
  go_wp2_with fail
  go_ret
  exact ⟨_, rfl, HO.out, HB2.out⟩

end Go.Proofs.Ytohehhpccbaclaf
