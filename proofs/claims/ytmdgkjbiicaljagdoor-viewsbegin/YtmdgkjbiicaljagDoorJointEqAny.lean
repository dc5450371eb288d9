/- The walk of the laws' function entries. -/
import Derived.Test.YtmdgkjbiicaljagDoorJointMachBack
import Derived.Test.YtmdgkjbiicaljagDoorJointStageMem
import Derived.BigQuiet
import Derived.Deep.QuietTactic
namespace Go.Proofs.YtmdgkjbiicaljagDoor
open Go.RowKit
set_option linter.unusedVariables false
set_option linter.unusedSimpArgs false
attribute [local go_sem] app_list ext_list get_list byteAt_zero

theorem reqsCells_get : ∀ (l : List ReqM) (i j : Nat), i < l.length → j < 6 → (reqsCells l)[i * 6 + j]? = (reqCells (l.getD i zeroReq))[j]?
  | x :: l, 0, j, _, hj => by
    show (reqCells x ++ reqsCells l)[0 * 6 + j]? = _
    rw [List.getElem?_append_left (by simp [reqCells]; omega)]
    simp
  | x :: l, i + 1, j, hi, hj => by
    show (reqCells x ++ reqsCells l)[(i + 1) * 6 + j]? = _
    rw [List.getElem?_append_right (by simp [reqCells]; omega)]
    have : (i + 1) * 6 + j - (reqCells x).length = i * 6 + j := by simp [reqCells]; omega
    rw [this, reqsCells_get l i j (by simpa using hi) hj]
    simp

/-- A list of requests in memory. -/
def ReqsAt (w : World) (v : Value) (l : List ReqM) : Prop :=
  ∃ a cap, v = .slice a l.length cap ∧ l.length ≤ 1000 ∧ ∀ i, i < l.length → ∃ b o, a = some ⟨b, o, none⟩ ∧ ∀ j u, (reqCells (l.getD i zeroReq))[j]? = some u → w.cell? ⟨b, o + i * 6 + j, none⟩ = some u
theorem ReqsAt.below {w w' : World} {v : Value} {l : List ReqM} (h : ReqsAt w v l) (hb : Below w.heap.size w w') : ReqsAt w' v l := by
  obtain ⟨a, cap, hv, hl, hc⟩ := h
  refine ⟨a, cap, hv, hl, fun i hi => ?_⟩
  obtain ⟨b, o, ha, hcell⟩ := hc i hi
  exact ⟨b, o, ha, fun j u hu => (hb.cell (p := ⟨b, _, none⟩) (lt_of_cell (hcell j u hu))).trans (hcell j u hu)⟩
theorem ReqsAt.of_own {w : World} {base : Nat} {e : TypeId} {v : Value} {l : List ReqM} (h : w.ownsRow base e 6 v l.length (reqsCells l)) (hl : l.length ≤ 1000) : ReqsAt w v l := by
  obtain ⟨a, cap, hv⟩ := own_formN h
  refine ⟨a, cap, hv, hl, fun i hi => ?_⟩
  obtain ⟨g, cap', hv', _, _, _, _⟩ := own_cellN h (by decide) (i * 6) (by omega)
  rw [hv] at hv'
  cases hv'
  refine ⟨g, 0, rfl, fun j u hu => ?_⟩
  have hj : j < 6 := by have := (List.getElem?_eq_some_iff.1 hu).1; simpa [reqCells] using this
  obtain ⟨g', cap', hv', _, _, hc, _⟩ := own_cellN h (by decide) (i * 6 + j) (by omega)
  rw [hv] at hv'
  cases hv'
  rw [Nat.zero_add, hc, reqsCells_get l i j hi hj, hu]

set_option maxHeartbeats 2000000 in
theorem entries_any (l : List ReqM) (v : Value) (w : World) (h : ReqsAt w v l) (hok : ∀ r ∈ l, reqFault r = 0) :
    Calls Tryd.prog 7 #[v] w fun e w' => ∃ v', e = .returned v' ∧ w'.ownsRow w.heap.size 9 1 v' l.length ((l.map entryB).map enc) ∧ Below w.heap.size w w' := by
  obtain ⟨a, c, rfl, hl, hc⟩ := h
  go_enter Tryd.func7, Tryd.ntmps7
  go_wp2_with fail
  go_loopw [3, 10] (fun v i wr => ∃ k : Nat, k ≤ l.length ∧ i = .int .i64 k ∧ Below w.heap.size w wr ∧ wr.ownsRow w.heap.size 9 1 v k (((l.take k).map entryB).map enc)) (fun _ i wr => l.length - (intOf i).toNat)
  case atStart => exact ⟨0, by omega, rfl, Below.refl _ _, World.ownsRow_nil _ _ _ _⟩
  case round =>
    obtain ⟨k, hk, rfl, hb, hown⟩ := hrel
    obtain ⟨au, cu, rfl⟩ := own_formN hown
    by_cases hlt : k < l.length
    · obtain ⟨b, o, rfl, hcell⟩ := hc k hlt
      have hmem : l.getD k zeroReq ∈ l := by
        rw [show l.getD k zeroReq = l[k] by simp [List.getD, hlt]]; exact List.getElem_mem hlt
      have hrf := hok _ hmem
      have HTK : Hid (((l.take (k + 1)).map entryB).map enc = ((l.take k).map entryB).map enc ++ [enc (entryB (l.getD k zeroReq))]) := by
        unfold Hid
        rw [List.take_succ_eq_append_getElem hlt, List.map_append, List.map_append, show l.getD k zeroReq = l[k] by simp [List.getD, hlt]]
        rfl
      clear hc hmem
      obtain ⟨xs, HXS⟩ : ∃ xs, Hid (((l.take k).map entryB).map enc = xs) := ⟨_, rfl⟩
      rw [HXS.out] at hown HTK
      generalize l.getD k zeroReq = r at *
      have hd8 := (opMay_of r.op (reqMay_of r hrf).2.2).2.2.2
      have HE : Hid (∀ w, Calls _ _ _ w _) := fun w => machEnc_any r w (by omega)
      rw [show encS r = entryB r by unfold encS; rw [if_pos hrf], hrf] at HE
      obtain ⟨cl, n, kd, p, s, d⟩ := r
      unfold reqVal at HE
      have r0 := hcell 0 _ rfl
      have hbl := lt_of_cell r0
      have t0 := (hb.cell (p := ⟨b, _, none⟩) hbl).trans (hcell 0 _ rfl)
      have t1 := (hb.cell (p := ⟨b, _, none⟩) hbl).trans (hcell 1 _ rfl)
      have t2 := (hb.cell (p := ⟨b, _, none⟩) hbl).trans (hcell 2 _ rfl)
      have t3 := (hb.cell (p := ⟨b, _, none⟩) hbl).trans (hcell 3 _ rfl)
      have t4 := (hb.cell (p := ⟨b, _, none⟩) hbl).trans (hcell 4 _ rfl)
      have t5 := (hb.cell (p := ⟨b, _, none⟩) hbl).trans (hcell 5 _ rfl)
      rw [Nat.add_zero] at t0
      have hbr : b < wr.heap.size := by have := hb.size; omega
      have k0 : (0 : Int) ≤ (k : Int) := by omega
      have k1 : (k : Int) < (l.length : Int) := by omega
      have HOW : Hid (wr.ownsRow _ _ _ _ _ _) := hown
      have HB : Hid (Below w.heap.size w wr) := hb
      clear hcell hown hb r0 hrf
      go_wp2_with fail
      refine (HE.out _).mono ?_
      rintro e w1 ⟨rfl, hb1⟩
      have hb2 : Below wr.heap.size wr w1 := Below.far (below_alloc wr _) hb1
      have HW1 : Hid (Below w.heap.size w w1) := Below.far HB.out hb2
      have HO1 : Hid (w1.ownsRow w.heap.size 9 1 (.slice au k cu) k xs) := own_below HOW.out hb2 (own_lt HOW.out)
      have hz1 := HB.out.size
      have hz2 := hb2.size
      clear hb1 hb2 HE t0 t1 t2 t3 t4 t5 HOW HB
      generalize entryB ⟨cl, n, ⟨kd, p, s, d⟩⟩ = t at *
      go_wp2_with (at_builtin; refine wpList_append_row _ rfl _ _ 23 rfl w.heap.size 9 Tryd.t9 _ 1 16 Tryd.underlying23 infoStr zeroStr sizeStr bytesStr rfl (by decide) _ k _ rfl (own_below HO1.out (below_alloc w1 _) (own_lt HO1.out)) _ 1 [.string ⟨t.toArray⟩] rfl (RowAt.one _ _ _) (by simp [Value.oneCell']) (by unfold maxLen; omega) (by omega) (by simp <;> omega) ?_)
      intro v5 wB hownB hgB hatB
      have HN : Hid (wB.ownsRow w.heap.size 9 1 v5 (k + 1) (((l.take (k + 1)).map entryB).map enc)) := by unfold Hid; rw [HTK.out]; exact hownB
      have HBB : Hid (Below w.heap.size w wB) := (Below.up HW1.out (.cells #[.string ⟨t.toArray⟩] 9)).grown hgB (by simp; omega) (fun k e => by have := own_ge HO1.out k e; omega)
      obtain ⟨a5, c5, rfl⟩ := own_formN hownB
      clear hownB hgB hatB HO1 HW1 HTK
      go_wp2_with fail
      go_roundw
      case rel => exact ⟨k + 1, by omega, by go_num, HBB.out, HN.out⟩
      case measure => simp [intOf]; omega
    · obtain rfl : k = l.length := by omega
      rw [List.take_length] at hown
      have HOW : Hid (wr.ownsRow _ _ _ _ _ _) := hown
      have HB : Hid (Below w.heap.size w wr) := hb
      clear hown hb hc
      go_wp2_with fail
      go_ret
      exact ⟨_, rfl, HOW.out, HB.out⟩

end Go.Proofs.YtmdgkjbiicaljagDoor

/- The laws' function entries: some list of entries, each of which is read. -/
namespace Go.Proofs.YtmdgkjbiicaljagDoor
open Go.RowKit
set_option linter.unusedVariables false
set_option linter.unusedSimpArgs false

theorem entries_is (q : List ReqM) (v : Value) (w : World) (h : ReqsAt w v q) (hok : ∀ r ∈ q, reqFault r = 0) :
    ∃ E : List (List UInt8), E = q.map entryB ∧ E.length = q.length ∧ (∀ s ∈ E, decE s = 0) ∧ (∀ s ∈ E, s.length ≤ 40) ∧
      Calls Tryd.prog 7 #[v] w fun e w' => ∃ v', e = .returned v' ∧ w'.ownsRow w.heap.size 9 1 v' E.length (E.map enc) ∧ Below w.heap.size w w' := by
  refine ⟨q.map entryB, rfl, by simp, fun s hs => ?_, fun s hs => ?_, ?_⟩
  · obtain ⟨r, hr, rfl⟩ := List.mem_map.1 hs
    exact (dec_enc r (hok r hr)).1
  · obtain ⟨r, hr, rfl⟩ := List.mem_map.1 hs
    have := entryB_len r
    have := (opMay_of r.op (reqMay_of r (hok r hr)).2.2).2.2.2
    omega
  · have := entries_any q v w h hok
    rw [List.length_map]
    exact this

end Go.Proofs.YtmdgkjbiicaljagDoor

/- slices.Equal of lists of texts. -/
namespace Go.Proofs.YtmdgkjbiicaljagDoor
open Go.RowKit
set_option linter.unusedVariables false
set_option linter.unusedSimpArgs false
attribute [local go_sem] app_list ext_list get_list byteAt_zero

theorem lists_ne {x y : List (List UInt8)} (k : Nat) (h : x.getD k [] ≠ y.getD k []) : x ≠ y := fun e => h (by rw [e])
theorem lists_eq {x y : List (List UInt8)} (hl : x.length = y.length) (h : ∀ j, j < x.length → x.getD j [] = y.getD j []) : x = y := by
  apply List.ext_getElem hl
  intro i h1 h2
  have := h i h1
  simpa [List.getD, h1, h2] using this
set_option maxRecDepth 4000 in
set_option maxHeartbeats 1000000 in
theorem equalStrs_any (x y : List (List UInt8)) (v v' : Value) (w : World) (hx : Strs w v x) (hy : Strs w v' y) :
    Calls Tryd.prog 16 #[v, v'] w fun e w' => e = .returned (.bool (decide (x = y))) ∧ Below w.heap.size w w' := by
  have HN : Hid (∀ k, x.getD k [] ≠ y.getD k [] → decide (x = y) = false) := fun k h => decide_eq_false (lists_ne k h)
  have HQ : Hid (x.length = y.length → (∀ j, j < x.length → x.getD j [] = y.getD j []) → decide (x = y) = true) := fun h h' => decide_eq_true (lists_eq h h')
  have HL : Hid (x.length ≠ y.length → decide (x = y) = false) := fun h => decide_eq_false fun e => h (by rw [e])
  generalize decide (x = y) = D at *
  obtain ⟨a, c, rfl, hlx, hcx⟩ := hx
  obtain ⟨a', c', rfl, hly, hcy⟩ := hy
  by_cases hl : x.length = y.length
  · have q0 : ((x.length : Int) == (y.length : Int)) = true := beq_iff_eq.mpr (by omega)
    have q1 : ((x.length : Int) != (y.length : Int)) = false := by simp only [bne, q0, Bool.not_true]
    have HLE : Hid (x.length = y.length) := hl
    clear hl
    go_enter Tryd.func16, Tryd.ntmps16
    go_wp2_with fail
    go_loopw [13] (fun i wr => ∃ k : Nat, k ≤ x.length ∧ i = .int .i64 k ∧ Below w.heap.size w wr ∧ (∀ j, j < k → x.getD j [] = y.getD j [])) (fun i wr => x.length - (intOf i).toNat)
    case atStart => exact ⟨0, by omega, rfl, Below.refl _ _, fun j h => absurd h (by omega)⟩
    case round =>
      obtain ⟨k, hk, rfl, hbr, hal⟩ := hrel
      have HBR : Hid (Below w.heap.size w wr) := hbr
      have HAL : Hid (∀ j, j < k → x.getD j [] = y.getD j []) := hal
      clear hal
      by_cases hlt : k < x.length
      · obtain ⟨b, o, rfl, h1, _⟩ := hcx k hlt
        obtain ⟨b', o', rfl, h1', _⟩ := hcy k (by have := HLE.out; omega)
        have t0 := (HBR.out.cell (p := ⟨b, _, none⟩) (lt_of_cell h1)).trans h1
        have t1 := (HBR.out.cell (p := ⟨b', _, none⟩) (lt_of_cell h1')).trans h1'
        have k0 : (0 : Int) ≤ (k : Int) := by omega
        have k1 : (k : Int) < (x.length : Int) := by omega
        have k2 : (k : Int) < (y.length : Int) := by have := HLE.out; omega
        clear hcx hcy h1 h1' hbr
        have HS : Hid (x.getD k [] ≠ y.getD k [] → D = false) := HN.out k
        have HE : Hid (x.getD k [] = y.getD k [] → ∀ j, j < k + 1 → x.getD j [] = y.getD j []) := fun e j hj => by
          by_cases hjk : j = k
          · rw [hjk]; exact e
          · exact HAL.out j (by omega)
        generalize x.getD k [] = s at *
        generalize y.getD k [] = t at *
        by_cases hst : s = t
        · subst hst
          have hq : (s == s) = true := by simp
          go_wp2_with fail
          go_quiet (fail)
          go_wp2_with fail
          go_roundw
          case rel => exact ⟨k + 1, by omega, by go_num, Below.far HBR.out (below_drew_n _ _), HE.out trivial⟩
          case measure => simp [intOf]; omega
        · have hq : (s == t) = false := by simpa using hst
          have HD : Hid (D = false) := HS.out hst
          go_wp2_with fail
          go_quiet (fail)
          go_wp2_with fail
          go_ret
          exact ⟨by rw [HD.out]; rfl, Below.far HBR.out (below_drew_n _ _)⟩
      · clear hcx hcy hbr
        have HD : Hid (D = true) := HQ.out HLE.out fun j hj => HAL.out j (by omega)
        go_wp2_with fail
        go_ret
        exact ⟨by rw [HD.out]; rfl, HBR.out⟩
  · have q0 : ((x.length : Int) == (y.length : Int)) = false := beq_eq_false_iff_ne.mpr (by omega)
    have q1 : ((x.length : Int) != (y.length : Int)) = true := by simp only [bne, q0, Bool.not_false]
    clear hcx hcy
    go_enter Tryd.func16, Tryd.ntmps16
    go_wp2_with fail
    go_ret
    exact ⟨by rw [HL.out hl]; rfl, Below.refl _ _⟩

end Go.Proofs.YtmdgkjbiicaljagDoor
