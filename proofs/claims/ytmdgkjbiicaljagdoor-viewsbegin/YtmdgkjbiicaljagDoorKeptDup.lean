/- The program's own stage.Copy. -/
import Derived.Test.YtmdgkjbiicaljagDoorJointStageMem
import Derived.Laws.CopyOwn
import Derived.Laws.EntriesVeiled
import Derived.Deep.DeepCutAuto
namespace Go.Proofs.YtmdgkjbiicaljagDoor
open Go.RowKit
set_option linter.unusedVariables false
set_option linter.unusedSimpArgs false
attribute [local go_sem] app_list ext_list get_list byteAt_zero

theorem made_strs (z : Value) (n : Nat) : (madeCells #[z] n).toList = List.replicate n z := by
  unfold madeCells
  apply List.ext_getElem
  · simp
  · intro i h1 h2
    simp [Nat.mod_one]

set_option maxHeartbeats 2000000 in
theorem stageCopy_any (K : KeptM) (v : Value) (w : World) (h : KeptAt w v K) (hz : K.log.length * 16 ≤ 140737488355328) :
    Calls Tryd.prog 21 #[v] w fun e w' => ∃ v', e = .returned v' ∧ KeptNew w' w.heap.size v' K ∧ Below w.heap.size w w' := by
  obtain ⟨vl, rfl, hs⟩ := h
  obtain ⟨vw, nm, cm, x, ct⟩ := K
  simp only at hs hz ⊢
  have hx0 : Hid (Strs w vl x) := hs
  obtain ⟨a, c, rfl, hlx, hcx⟩ := hs
  obtain ⟨b0, b1, hb⟩ := boxes2 w 25 25 [.int .i64 vw, .int .i64 nm, .bool cm, .slice a x.length c, .int .i64 ct] [.int .i64 0, .int .i64 0, .bool false, .slice none 0 0, .int .i64 0]
  obtain ⟨w0, hw0⟩ : ∃ w0, w0 = (w.alloc (.cells #[.int .i64 vw, .int .i64 nm, .bool cm, .slice a x.length c, .int .i64 ct] 25)).alloc (.cells #[.int .i64 0, .int .i64 0, .bool false, .slice none 0 0, .int .i64 0] 25) := ⟨_, rfl⟩
  have HSZ : Hid (w0.heap.size = w.heap.size + 1 + 1) := by unfold Hid; rw [hw0]; simp
  go_enter Tryd.func21, Tryd.ntmps21
  go_upto_region 1 with fail
  rw [← hw0] at b0 b1 hb ⊢
  clear hw0
  have x3 := b0.cell 3 _ rfl
  have HS0 : Hid (Strs w0 (.slice a x.length c) x) := hx0.out.below hb
  have HB0 : Hid (Box w0 w.heap.size _ _) := b0
  have HB1 : Hid (Box w0 (w.heap.size + 1) _ _) := b1
  have HBW : Hid (Below w.heap.size w w0) := hb
  clear b0 b1 hb hcx hx0
  go_wp2_with (at_make; refine wpList_make_full _ rfl _ _ 23 rfl w0.heap.size 9 Tryd.t9 _ 1 Tryd.underlying23 infoStr zeroStr sizeStr .i64 .i64 x.length x.length x.length rfl rfl rfl rfl (by rw [bytesStr]; omega) (by unfold maxLen; omega) (Nat.le_refl _) ?_)
  intro w1 hown hg
  rw [made_strs] at hown
  obtain ⟨g, cap, cur, hv, hbg, hgc, _, hm, hcur, hcc⟩ := hown.2.resolve_left (by rintro ⟨h, _⟩; cases h)
  cases hv
  have hb1 : Below w0.heap.size w0 w1 := (Below.refl _ _).grown hg (Nat.le_refl _) (fun _ h => by cases h)
  have Hr1 : Hid (RowAt w1 (.slice a x.length c) x.length 1 (x.map enc)) := (HS0.out.below hb1).row
  have hcs : cur.size = x.length := by simpa using hcur
  have HG : Hid (w1.heap[w0.heap.size]? = some (.cells cur.toList.toArray 9 (0, 0))) := by unfold Hid; simpa using hgc
  have HL : Hid (cur.size = x.length) := hcs
  have HZ : Hid (0 + (x.map enc).length ≤ cur.toList.length) := by unfold Hid; simp; omega
  have HC : Hid (0 < (x.map enc).length → ∃ ad, a = some ad ∧ ∀ j u, (x.map enc)[j]? = some u → w1.cell? (ad.add j) = some u) := by
    intro h0
    obtain ⟨a', c', hv, hl, hc⟩ := Hr1.out
    cases hv
    obtain ⟨ad, had, _⟩ := hc 0 _ (List.getElem?_eq_getElem h0)
    refine ⟨ad, had, fun j u hj => ?_⟩
    obtain ⟨ad', had', h2⟩ := hc j u hj
    rw [had] at had'
    cases had'
    exact h2
  have HM : Hid (x.length ≤ maxLen) := hm
  have y3 := (HB0.out.below hb1 HB0.out.lt).cell 3 _ rfl
  clear hcs hgc hm hcur hcc hown hg HS0 x3
  go_wp2_with (refine show wpList _ _ _ ({ dst := _, op := .call { callee := .builtin .copy, args := _, argTypes := _ }, type := _, pos := _, after := _, guard := _ } :: _) _ _ from ?_; refine wpList_copy_splice rfl _ _ 23 23 rfl 9 Tryd.underlying23 (by kernel_rfl) _ _ _ _ _ _ rfl rfl w0.heap.size 0 cur.toList 9 HG.out (x.map enc) (by rw [List.length_map]; exact (Nat.min_self _).symm) (fun h0 => ⟨rfl, HC.out h0⟩) HZ.out (enc_one _) w0.heap.size w0 hb1 (Nat.le_refl _) ?_)
  intro w2 HW2 hb2
  have hown : World.ownsRow w2 w0.heap.size 9 1 (.slice (some ⟨w0.heap.size, 0, none⟩) x.length x.length) x.length (x.map enc) := by
    refine ⟨by simp, Or.inr ⟨_, _, _, rfl, Nat.le_refl _, HW2.out, Nat.le_refl _, HM.out, ?_, ?_⟩⟩
    · have := HL.out
      simp [splice]; omega
    · have := HL.out
      simp [splice]
  have hsz := HSZ.out
  obtain ⟨g0, hg0⟩ : ∃ g0, w0.heap.size = g0 := ⟨_, rfl⟩
  have e0 := HB0.out.below hb2 HB0.out.lt
  have e1 := HB1.out.below hb2 HB1.out.lt
  have hbb := Below.far HBW.out hb2
  rw [hg0] at hown hsz ⊢
  clear hg0 HW2 HG Hr1 HB0 HB1 HBW hb1 hb2 y3 HC HZ
  have x0 := e0.cell 0 _ rfl
  have x1 := e0.cell 1 _ rfl
  have x2 := e0.cell 2 _ rfl
  have x3 := e0.cell 3 _ rfl
  have x4 := e0.cell 4 _ rfl
  have z3 := e0.frozen 3
  have y0 := e1.cell 0 _ rfl
  have y1 := e1.cell 1 _ rfl
  have y2 := e1.cell 2 _ rfl
  have y3 := e1.cell 3 _ rfl
  have y4 := e1.cell 4 _ rfl
  have f0 := e1.frozen 0
  have f1 := e1.frozen 1
  have f2 := e1.frozen 2
  have f3 := e1.frozen 3
  have f4 := e1.frozen 4
  have HN : Hid (KeptNew _ w.heap.size _ ⟨vw, nm, cm, x, ct⟩) := (((((((show KeptNew w2 g0 (.agg #[.int .i64 vw, .int .i64 nm, .bool cm, .slice (some ⟨g0, 0, none⟩) x.length x.length, .int .i64 ct]) ⟨vw, nm, cm, x, ct⟩ from ⟨_, rfl, hown⟩).other (a := ⟨w.heap.size, 3, none⟩) (by simp; omega) (.slice (some ⟨g0, 0, none⟩) x.length x.length)).other (a := ⟨w.heap.size + 1, 0, none⟩) (by simp; omega) (.int .i64 vw)).other (a := ⟨w.heap.size + 1, 1, none⟩) (by simp; omega) (.int .i64 nm)).other (a := ⟨w.heap.size + 1, 2, none⟩) (by simp; omega) (.bool cm)).other (a := ⟨w.heap.size + 1, 3, none⟩) (by simp; omega) (.slice (some ⟨g0, 0, none⟩) x.length x.length)).other (a := ⟨w.heap.size + 1, 4, none⟩) (by simp; omega) (.int .i64 ct)).base (by omega)
  have HB : Hid (Below w.heap.size w _) := (((((hbb.setCell (p := ⟨w.heap.size, 3, none⟩) (by simp) (.slice (some ⟨g0, 0, none⟩) x.length x.length)).setCell (p := ⟨w.heap.size + 1, 0, none⟩) (by simp) (.int .i64 vw)).setCell (p := ⟨w.heap.size + 1, 1, none⟩) (by simp) (.int .i64 nm)).setCell (p := ⟨w.heap.size + 1, 2, none⟩) (by simp) (.bool cm)).setCell (p := ⟨w.heap.size + 1, 3, none⟩) (by simp) (.slice (some ⟨g0, 0, none⟩) x.length x.length)).setCell (p := ⟨w.heap.size + 1, 4, none⟩) (by simp) (.int .i64 ct)
  clear hown e0 e1 hbb hsz HSZ
  go_wp2_with fail
  refine bodyPost_ret (v := .agg #[.int .i64 vw, .int .i64 nm, .bool cm, .slice (some ⟨g0, 0, none⟩) x.length x.length, .int .i64 ct]) ?_ rfl ⟨_, rfl, HN.out, HB.out⟩
  clear HN HB
  simp [results, Tryd.results21, go_sem, *]

end Go.Proofs.YtmdgkjbiicaljagDoor
