/- The program's own stage.writeEach, of numbers and of texts. -/
import Derived.Test.YtdnogggadocilaeDoorBuildGo
import Derived.Test.YtdnogggadocilaeDoorCodecGo
import Derived.Test.YtdnogggadocilaeDoorStageMem
import Derived.Test.YtdnogggadocilaeDoorNumCells
namespace Go.Proofs.YtdnogggadocilaeDoor
open Go.RowKit
set_option linter.unusedVariables false
set_option linter.unusedSimpArgs false
attribute [local go_sem] app_list ext_list get_list byteAt_zero

theorem strCells_list (l : List UInt8) : Lib.strCells ⟨l.toArray⟩ = Lib.byteCells l := rfl
theorem byteCells_append (a b : List UInt8) : Lib.byteCells (a ++ b) = Lib.byteCells a ++ Lib.byteCells b := by simp [Lib.byteCells]

/-- A builder of the call's own stays one while new memory is laid. -/
theorem isBuilder_below {T e : TypeId} {B b : Nat} {bs : List Value} {w w' : World} (h : Lib.IsBuilder T e B b bs w) (hb : Below w.heap.size w w') : Lib.IsBuilder T e B b bs w' := by
  have one : ∀ p, Lib.BuilderAt T e B b p bs w → Lib.BuilderAt T e B b p bs w' := by
    rintro p ⟨hB, v, hbk, hown, hne⟩
    have hlt : b < w.heap.size := (Array.getElem?_eq_some_iff.1 hbk).1
    exact ⟨hB, v, by rw [hb.block b hlt]; exact hbk, own_below hown hb (own_lt hown), hne⟩
  rcases h with h | h
  · exact Or.inl (one _ h)
  · exact Or.inr (one _ h)

set_option maxHeartbeats 2000000 in
theorem writeNums_ok (ns : List Int) (b o c : Nat) (w : World) (hn : ns.length ≤ 60) (hr : ∀ x ∈ ns, 0 ≤ x ∧ x ≤ 1073741824) (hc : ∀ i, i < ns.length → w.cell? ⟨b, o + i, none⟩ = some (.int .i64 (ns.getD i 0))) :
    Calls Tryd.prog 18 #[.slice (some ⟨b, o, none⟩) ns.length c, .func (.func 19) #[] #[]] w fun e w' => e = .returned (.tuple #[.string ⟨(ns.flatMap numBytes).toArray⟩, .int .i64 0]) ∧ Below w.heap.size w w' := by
  have HI : Hid (Lib.IsBuilder 74 5 w.heap.size w.heap.size (Lib.byteCells ((ns.take 0).flatMap numBytes)) _ ∧ Below w.heap.size w _) := ⟨Lib.fresh_isBuilder 74 5 w, below_alloc w (.cells #[.pointer none, .slice none 0 0] 74)⟩
  go_enter Tryd.func18, Tryd.ntmps18
  go_wp2_with fail
  go_loopw [13] (fun i wr => ∃ k : Nat, k ≤ ns.length ∧ i = .int .i64 k ∧ Lib.IsBuilder 74 5 w.heap.size w.heap.size (Lib.byteCells ((ns.take k).flatMap numBytes)) wr ∧ Below w.heap.size w wr) (fun i wr => ns.length - (intOf i).toNat)
  case atStart => exact ⟨0, by omega, rfl, HI.out.1, HI.out.2⟩
  case round =>
    clear HI
    obtain ⟨k, hk, rfl, hbu, hbr⟩ := hrel
    by_cases hlt : k < ns.length
    · have t0 := (hbr.cell (p := ⟨b, _, none⟩) (lt_of_cell (hc k hlt))).trans (hc k hlt)
      have hx := hr (ns.getD k 0) (by rw [show ns.getD k 0 = ns[k] by simp [List.getD, hlt]]; exact List.getElem_mem hlt)
      have HTK : Hid (Lib.byteCells ((ns.take (k + 1)).flatMap numBytes) = Lib.byteCells ((ns.take k).flatMap numBytes) ++ Lib.byteCells (numBytes (ns.getD k 0))) := by
        unfold Hid
        rw [List.take_succ_eq_append_getElem hlt, List.flatMap_append, byteCells_append, show ns.getD k 0 = ns[k] by simp [List.getD, hlt]]
        simp
      have HNB : Hid (∀ w, Calls _ _ _ w _) := fun w => number_ok (ns.getD k 0) w hx.1 hx.2
      have HBU : Hid (Lib.IsBuilder _ _ _ _ _ wr) := hbu
      have HBR : Hid (Below w.heap.size w wr) := hbr
      have k0 : (0 : Int) ≤ (k : Int) := by omega
      have k1 : (k : Int) < (ns.length : Int) := by omega
      have hTl : (Lib.byteCells ((ns.take k).flatMap numBytes)).length ≤ 240 := by rw [Lib.byteCells_length, flatNum_len, List.length_take]; omega
      clear hbr hx hc hbu hr
      generalize ns.getD k 0 = nn at *
      have hUl : (numBytes nn).length = 4 := length_num nn
      obtain ⟨U, HU⟩ : ∃ U, numBytes nn = U := ⟨_, rfl⟩
      rw [HU] at HNB HTK hUl
      clear HU
      obtain ⟨T, HT⟩ : ∃ T, Lib.byteCells ((ns.take k).flatMap numBytes) = T := ⟨_, rfl⟩
      rw [HT] at HTK hTl HBU
      clear HT
      go_wp2_with fail
      refine (HNB.out _).mono ?_
      rintro e w4 ⟨rfl, hb4⟩
      have HB4 : Hid (Below w.heap.size w w4) := Below.far HBR.out hb4
      have HU4 : Hid (Lib.IsBuilder _ _ _ _ _ w4) := isBuilder_below HBU.out hb4
      clear hb4 t0 HNB HBU HBR
      go_wp2_with fail
      refine (bWriteString _ _ _ _ _ HU4.out (by rw [show (⟨U.toArray⟩ : ByteArray).size = U.length by simp [ByteArray.size]]; omega) HB4.out.size).mono ?_
      rintro e w5 ⟨rfl, hU5, hb5⟩
      have HU5 : Hid (Lib.IsBuilder 74 5 w.heap.size w.heap.size (Lib.byteCells ((ns.take (k + 1)).flatMap numBytes)) w5) := by
        unfold Hid
        rw [HTK.out]
        exact Or.inr hU5
      have HB5 : Hid (Below w.heap.size w w5) := HB4.out.trans hb5
      clear hU5 hb5 HU4 HB4 HTK
      go_wp2_with fail
      go_roundw
      case rel => exact ⟨k + 1, by omega, by go_num, HU5.out, HB5.out⟩
      case measure => simp [intOf]; omega
    · obtain rfl : k = ns.length := by omega
      rw [List.take_length] at hbu
      have HBU : Hid (Lib.IsBuilder _ _ _ _ _ wr) := hbu
      have HBR : Hid (Below w.heap.size w wr) := hbr
      clear hbr hbu hc hr
      obtain ⟨T, HT⟩ : ∃ T, Hid (ns.flatMap numBytes = T) := ⟨_, rfl⟩
      rw [HT.out] at HBU
      go_wp2_with fail
      refine (Tryd.Builder_String_any _ _ _ _ HBU.out HBR.out.size).mono ?_
      rintro e w5 ⟨rfl, hb5⟩
      have HB5 : Hid (Below w.heap.size w w5) := HBR.out.trans hb5
      clear hb5 HBU HBR
      go_wp2_with fail
      go_ret2
      rw [HT.out]
      exact ⟨rfl, HB5.out⟩

set_option maxHeartbeats 2000000 in
theorem writeNums_no (n : Int) (ns : List Int) (b o c : Nat) (w : World) (hn : ns.length ≤ 60) (hr : n < 0 ∨ 1073741824 < n) (hc : w.cell? ⟨b, o, none⟩ = some (.int .i64 n)) :
    Calls Tryd.prog 18 #[.slice (some ⟨b, o, none⟩) (n :: ns).length c, .func (.func 19) #[] #[]] w fun e w' => e = .returned (.tuple #[.string ⟨#[]⟩, .int .i64 2]) ∧ Below w.heap.size w w' := by
  have HI : Hid (Below w.heap.size w _) := below_alloc w (.cells #[.pointer none, .slice none 0 0] 74)
  have hcl := lt_of_cell hc
  have HNB : Hid (∀ w, Calls _ _ _ w _) := fun w => number_no n w hr
  have hlen : (n :: ns).length = ns.length + 1 := rfl
  obtain ⟨L, hL⟩ : ∃ L, (n :: ns).length = L := ⟨_, rfl⟩
  rw [hL] at hlen ⊢
  clear hL
  have hL0 : (0 : Int) < (L : Int) := by omega
  clear hlen hr
  go_enter Tryd.func18, Tryd.ntmps18
  go_wp2_with fail
  go_loopw [13] (fun i wr => i = .int .i64 0 ∧ Below w.heap.size w wr) (fun i wr => 0)
  case atStart => exact ⟨rfl, HI.out⟩
  case round =>
    clear HI
    obtain ⟨rfl, hbr⟩ := hrel
    have t0 := (hbr.cell (p := ⟨b, _, none⟩) hcl).trans hc
    have HBR : Hid (Below w.heap.size w wr) := hbr
    clear hbr hc
    go_wp2_with fail
    refine (HNB.out _).mono ?_
    rintro e w4 ⟨rfl, hb4⟩
    have HB4 : Hid (Below w.heap.size w w4) := Below.far HBR.out hb4
    clear hb4 t0 HNB HBR
    go_wp2_with fail
    go_ret2
    exact ⟨rfl, HB4.out⟩

set_option maxHeartbeats 2000000 in
theorem writeTexts_ok (l : List (List UInt8)) (v : Value) (w : World) (h : Strs w v l) (hn : l.length ≤ 60) (hr : ∀ s ∈ l, s.length ≤ 40) :
    Calls Tryd.prog 20 #[v, .func (.func 21) #[] #[]] w fun e w' => e = .returned (.tuple #[.string ⟨(l.flatMap txtB).toArray⟩, .int .i64 0]) ∧ Below w.heap.size w w' := by
  obtain ⟨a, c, rfl, hlx, hc⟩ := h
  have HI : Hid (Lib.IsBuilder 74 5 w.heap.size w.heap.size (Lib.byteCells ((l.take 0).flatMap txtB)) _ ∧ Below w.heap.size w _) := ⟨Lib.fresh_isBuilder 74 5 w, below_alloc w (.cells #[.pointer none, .slice none 0 0] 74)⟩
  go_enter Tryd.func20, Tryd.ntmps20
  go_wp2_with fail
  go_loopw [13] (fun i wr => ∃ k : Nat, k ≤ l.length ∧ i = .int .i64 k ∧ Lib.IsBuilder 74 5 w.heap.size w.heap.size (Lib.byteCells ((l.take k).flatMap txtB)) wr ∧ Below w.heap.size w wr) (fun i wr => l.length - (intOf i).toNat)
  case atStart => exact ⟨0, by omega, rfl, HI.out.1, HI.out.2⟩
  case round =>
    clear HI
    obtain ⟨k, hk, rfl, hbu, hbr⟩ := hrel
    by_cases hlt : k < l.length
    · obtain ⟨b, o, rfl, h1, h2⟩ := hc k hlt
      have t0 := (hbr.cell (p := ⟨b, _, none⟩) (lt_of_cell h1)).trans h1
      have hx := hr (l.getD k []) (by rw [show l.getD k [] = l[k] by simp [List.getD, hlt]]; exact List.getElem_mem hlt)
      have HTK : Hid (Lib.byteCells ((l.take (k + 1)).flatMap txtB) = Lib.byteCells ((l.take k).flatMap txtB) ++ Lib.byteCells (txtB (l.getD k []))) := by
        unfold Hid
        rw [List.take_succ_eq_append_getElem hlt, List.flatMap_append, byteCells_append, show l.getD k [] = l[k] by simp [List.getD, hlt]]
        simp
      have HNB : Hid (∀ w, Calls _ _ _ w _) := fun w => text_ok (l.getD k []) w (by omega)
      have HBU : Hid (Lib.IsBuilder _ _ _ _ _ wr) := hbu
      have HBR : Hid (Below w.heap.size w wr) := hbr
      have k0 : (0 : Int) ≤ (k : Int) := by omega
      have k1 : (k : Int) < (l.length : Int) := by omega
      have hTl : (Lib.byteCells ((l.take k).flatMap txtB)).length ≤ 2460 := by
        have := flatTxt_len (l.take k) (fun s hs => hr s (List.mem_of_mem_take hs))
        have := List.length_take_le k l
        rw [Lib.byteCells_length]
        omega
      have hUl : (txtB (l.getD k [])).length ≤ 41 := by unfold txtB; rw [List.length_cons]; omega
      clear hbr hx hc hbu hr h1 h2
      generalize l.getD k [] = nn at *
      have HU : Hid (b8 nn.length :: nn = txtB nn) := rfl
      rw [HU.out] at HNB
      obtain ⟨U, HU2⟩ : ∃ U, txtB nn = U := ⟨_, rfl⟩
      rw [HU2] at HNB HTK hUl
      clear HU HU2
      obtain ⟨T, HT⟩ : ∃ T, Lib.byteCells ((l.take k).flatMap txtB) = T := ⟨_, rfl⟩
      rw [HT] at HTK hTl HBU
      clear HT
      go_wp2_with fail
      refine (HNB.out _).mono ?_
      rintro e w4 ⟨rfl, hb4⟩
      have HB4 : Hid (Below w.heap.size w w4) := Below.far HBR.out hb4
      have HU4 : Hid (Lib.IsBuilder _ _ _ _ _ w4) := isBuilder_below HBU.out hb4
      clear hb4 t0 HNB HBU HBR
      go_wp2_with fail
      refine (bWriteString _ _ _ _ _ HU4.out (by rw [show (⟨U.toArray⟩ : ByteArray).size = U.length by simp [ByteArray.size]]; omega) HB4.out.size).mono ?_
      rintro e w5 ⟨rfl, hU5, hb5⟩
      have HU5 : Hid (Lib.IsBuilder 74 5 w.heap.size w.heap.size (Lib.byteCells ((l.take (k + 1)).flatMap txtB)) w5) := by
        unfold Hid
        rw [HTK.out]
        exact Or.inr hU5
      have HB5 : Hid (Below w.heap.size w w5) := HB4.out.trans hb5
      clear hU5 hb5 HU4 HB4 HTK
      go_wp2_with fail
      go_roundw
      case rel => exact ⟨k + 1, by omega, by go_num, HU5.out, HB5.out⟩
      case measure => simp [intOf]; omega
    · obtain rfl : k = l.length := by omega
      rw [List.take_length] at hbu
      have HBU : Hid (Lib.IsBuilder _ _ _ _ _ wr) := hbu
      have HBR : Hid (Below w.heap.size w wr) := hbr
      clear hbr hbu hc hr
      obtain ⟨T, HT⟩ : ∃ T, Hid (l.flatMap txtB = T) := ⟨_, rfl⟩
      rw [HT.out] at HBU
      go_wp2_with fail
      refine (Tryd.Builder_String_any _ _ _ _ HBU.out HBR.out.size).mono ?_
      rintro e w5 ⟨rfl, hb5⟩
      have HB5 : Hid (Below w.heap.size w w5) := HBR.out.trans hb5
      clear hb5 HBU HBR
      go_wp2_with fail
      go_ret2
      rw [HT.out]
      exact ⟨rfl, HB5.out⟩

end Go.Proofs.YtdnogggadocilaeDoor
