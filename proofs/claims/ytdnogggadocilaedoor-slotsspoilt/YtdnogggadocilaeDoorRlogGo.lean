/- The program's own stage.readLog. -/
import Derived.Test.YtdnogggadocilaeDoorKdecGo
namespace Go.Proofs.YtdnogggadocilaeDoor
open Go.RowKit
set_option linter.unusedVariables false
set_option linter.unusedSimpArgs false
attribute [local go_sem] app_list ext_list get_list byteAt_zero

def rlogD (m : Nat) (t : List UInt8) : List (List UInt8) := if txtsE m t = 0 then txtsD m t else []
def rlogR (m : Nat) (t : List UInt8) : List UInt8 := if txtsE m t = 0 then txtsR m t else []

theorem made_str (n : Nat) : (madeCells #[Value.string ⟨#[]⟩] n).toList = List.replicate n (Value.string ⟨#[]⟩) := by
  unfold madeCells
  apply List.ext_getElem
  · simp
  · intro i h1 h2
    simp [Nat.mod_one]

theorem txts_fill (k m : Nat) (t : List UInt8) (h : k < m) : ((txtsD k t).map enc ++ List.replicate (m - k) (Value.string ⟨#[]⟩)).set k (.string ⟨(txtD (txtsR k t)).toArray⟩) = (txtsD (k + 1) t).map enc ++ List.replicate (m - (k + 1)) (Value.string ⟨#[]⟩) := by
  have hk : m - k = (m - (k + 1)) + 1 := by omega
  have hl : ((txtsD k t).map enc).length = k := by simp [txtsD_len]
  rw [hk, List.replicate_succ, List.set_append_right _ _ (by rw [hl]; omega), hl, Nat.sub_self, List.set_cons_zero, txtsD_succ]
  simp [enc]

set_option maxHeartbeats 2000000 in
theorem readLog_any (T : List UInt8) (m : Nat) (w : World) (hl : T.length ≤ 4000) (hm : m ≤ 60) :
    Calls Tryd.prog 26 #[.string ⟨T.toArray⟩, .int .i64 m] w fun e w' => ∃ v', e = .returned (.tuple #[v', .string ⟨(rlogR m T).toArray⟩, .int .i64 (txtsE m T)]) ∧ w'.ownsRow w.heap.size 9 1 v' (rlogD m T).length ((rlogD m T).map enc) ∧ Below w.heap.size w w' := by
  go_enter Tryd.func26, Tryd.ntmps26
  go_wp2_with (at_make; refine wpList_make_full _ rfl _ _ 23 rfl w.heap.size 9 Tryd.t9 _ 1 Tryd.underlying23 infoStr zeroStr sizeStr .i64 .i64 m m m rfl rfl rfl rfl (by rw [bytesStr]; omega) (by unfold maxLen; omega) (Nat.le_refl _) ?_)
  intro w1 hown hg
  rw [made_str] at hown
  have hb1 : Below w.heap.size w w1 := (Below.refl _ _).grown hg (Nat.le_refl _) (fun _ h => by cases h)
  have HI : Hid (Below w.heap.size w w1 ∧ w1.ownsRow w.heap.size 9 1 (.slice (some ⟨w.heap.size, 0, none⟩) m m) m ((txtsD 0 T).map enc ++ List.replicate (m - 0) (Value.string ⟨#[]⟩))) := ⟨hb1, hown⟩
  clear hown hg hb1
  go_wp2_with fail
  go_loopw [0, 16] (fun x i wr => ∃ k : Nat, k ≤ m ∧ i = .int .i64 k ∧ x = .string ⟨(txtsR k T).toArray⟩ ∧ txtsE k T = 0 ∧ Below w.heap.size w wr ∧ wr.ownsRow w.heap.size 9 1 (.slice (some ⟨w.heap.size, 0, none⟩) m m) m ((txtsD k T).map enc ++ List.replicate (m - k) (Value.string ⟨#[]⟩))) (fun _ i wr => m - (intOf i).toNat)
  case atStart => exact ⟨0, by omega, rfl, rfl, rfl, HI.out.1, HI.out.2⟩
  case round =>
    clear HI
    obtain ⟨k, hk, rfl, rfl, hE0, hbr, hown⟩ := hrel
    by_cases hlt : k < m
    · have HNI : Hid (∀ w, Calls _ _ _ w _) := fun w => readText_is (txtsR k T) w (by have := txtsR_le k T; omega)
      have HFL : Hid (((txtsD k T).map enc ++ List.replicate (m - k) (Value.string ⟨#[]⟩)).set k (.string ⟨(txtD (txtsR k T)).toArray⟩) = (txtsD (k + 1) T).map enc ++ List.replicate (m - (k + 1)) (Value.string ⟨#[]⟩)) := txts_fill k m T hlt
      have HR1 : Hid (txtsR (k + 1) T = txtR (txtsR k T)) := txtsR_succ k T
      have HE1 : Hid (txtsE (k + 1) T = txtE (txtsR k T)) := by unfold Hid; rw [txtsE_succ, if_pos hE0]
      have HOW : Hid (wr.ownsRow _ _ _ _ _ _) := hown
      have HBR : Hid (Below w.heap.size w wr) := hbr
      clear hE0 hown hbr
      obtain ⟨NS, HNS⟩ : ∃ NS, (txtsD k T).map enc ++ List.replicate (m - k) (Value.string ⟨#[]⟩) = NS := ⟨_, rfl⟩
      rw [HNS] at HOW HFL
      clear HNS
      obtain ⟨x, hx⟩ : ∃ x, txtD (txtsR k T) = x := ⟨_, rfl⟩
      obtain ⟨y, hy⟩ : ∃ y, txtR (txtsR k T) = y := ⟨_, rfl⟩
      obtain ⟨z, hz⟩ : ∃ z, txtE (txtsR k T) = z := ⟨_, rfl⟩
      rw [hx, hy, hz] at HNI
      rw [hx] at HFL
      rw [hy] at HR1
      rw [hz] at HE1
      clear hx hy hz
      obtain ⟨R, hR⟩ : ∃ R, txtsR k T = R := ⟨_, rfl⟩
      rw [hR] at HNI ⊢
      clear hR
      have k0 : (0 : Int) ≤ (k : Int) := by omega
      have k1 : (k : Int) < (m : Int) := by omega
      go_wp2_with fail
      refine (HNI.out _).mono ?_
      rintro e w4 ⟨rfl, hb4⟩
      have HB4 : Hid (Below w.heap.size w w4) := Below.far HBR.out hb4
      have J := own_below HOW.out hb4 (own_lt HOW.out)
      obtain ⟨g', cap', hv', _, _, t0, t1⟩ := own_cellN J (by decide) k (by omega)
      cases hv'
      have hxl : NS.length = m := by have := J.1; simpa using this
      have t0' : w4.cell? ⟨w.heap.size, k, none⟩ = some (NS[k]'(by omega)) := by rw [t0, List.getElem?_eq_getElem]
      have HJ : Hid (World.ownsRow _ _ _ _ _ _ _) := own_set J k (.string ⟨x.toArray⟩)
      have HBJ : Hid (Below w.heap.size w _) := HB4.out.setCell (p := ⟨w.heap.size, k, none⟩) (by simp) (.string ⟨x.toArray⟩)
      obtain ⟨u, hu⟩ : ∃ u, NS[k]'(by omega) = u := ⟨_, rfl⟩
      rw [hu] at t0'
      clear J HNI HOW hb4 t0 hu
      by_cases hz0 : z = 0
      · subst hz0
        go_wp2_with fail
        go_roundw
        case rel => exact ⟨k + 1, by omega, by go_num, by rw [HR1.out], HE1.out, HBJ.out, by rw [← HFL.out]; exact HJ.out⟩
        case measure => simp [intOf]; omega
      · have c1 : (z == 0) = false := by simpa using hz0
        have c2 : (z != 0) = true := by simpa using hz0
        have HX : Hid (txtsE m T = z ∧ rlogD m T = [] ∧ rlogR m T = []) := by
          have e6 := txtsE_stop (k + 1) m T (by rw [HE1.out]; exact hz0) (by omega)
          have e : txtsE m T = z := by rw [e6, HE1.out]
          have ne : ¬ txtsE m T = 0 := by rw [e]; exact hz0
          exact ⟨e, by unfold rlogD; rw [if_neg ne], by unfold rlogR; rw [if_neg ne]⟩
        clear t0' t1 hz0 HJ HBJ
        go_wp2_with fail
        go_ret3
        rw [HX.out.1, HX.out.2.1, HX.out.2.2]
        exact ⟨_, rfl, World.ownsRow_nil _ _ _ _, HB4.out⟩
    · obtain rfl : k = m := by omega
      have HX : Hid (txtsE k T = 0 ∧ rlogD k T = txtsD k T ∧ rlogR k T = txtsR k T) := by
        exact ⟨hE0, by unfold rlogD; rw [if_pos hE0], by unfold rlogR; rw [if_pos hE0]⟩
      have HOW : Hid (wr.ownsRow w.heap.size 9 1 (.slice (some ⟨w.heap.size, 0, none⟩) k k) k ((txtsD k T).map enc)) := by
        unfold Hid
        rw [Nat.sub_self] at hown
        simpa using hown
      have HBR : Hid (Below w.heap.size w wr) := hbr
      clear hE0 hown hbr
      go_wp2_with fail
      go_ret3
      rw [HX.out.1, HX.out.2.1, HX.out.2.2]
      exact ⟨_, rfl, by rw [txtsD_len]; exact HOW.out, HBR.out⟩

end Go.Proofs.YtdnogggadocilaeDoor
