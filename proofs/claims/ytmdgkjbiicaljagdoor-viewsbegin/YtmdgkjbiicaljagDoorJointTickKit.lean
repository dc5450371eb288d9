/- slices.IndexFunc over messages: where the one for a replica lies. -/
import Derived.Test.YtmdgkjbiicaljagDoorTickGo
namespace Go.Proofs.YtmdgkjbiicaljagDoor
open Go.RowKit
set_option linter.unusedVariables false
set_option linter.unusedSimpArgs false

/-- The place of the first message that p takes; -1: there is none. -/
def idxOf (p : MsgM → Bool) : List MsgM → Int
  | [] => -1
  | m :: r => if p m = true then 0 else if idxOf p r < 0 then -1 else idxOf p r + 1
theorem idxOf_drop (p : MsgM → Bool) : ∀ (L : List MsgM) (k : Nat) (h : k < L.length), (∀ j (hj : j < L.length), j < k → p L[j] = false) → p L[k] = true → idxOf p L = k
  | m :: r, 0, h, _, hk => by
    have hk' : p m = true := hk
    unfold idxOf; rw [if_pos hk']; rfl
  | m :: r, k + 1, h, h0, hk => by
    have e := idxOf_drop p r k (by simpa using h) (fun j hj hjk => h0 (j + 1) (by simpa using hj) (by omega)) hk
    have hm : ¬ p m = true := by have := h0 0 (by simp) (by omega); simpa using this
    unfold idxOf
    rw [if_neg hm, e, if_neg (by omega)]
    rfl
theorem idxOf_none (p : MsgM → Bool) : ∀ (L : List MsgM), (∀ j (hj : j < L.length), p L[j] = false) → idxOf p L = -1
  | [], _ => rfl
  | m :: r, h0 => by
    have e := idxOf_none p r fun j hj => h0 (j + 1) (by simpa using hj)
    have hm : ¬ p m = true := by have := h0 0 (by simp); simpa using this
    unfold idxOf
    rw [if_neg hm, e, if_pos (by decide)]

/-- The law's own closure: is it for the other? -/
theorem lead_closure (c : Nat) (o : Int) (M : MsgM) (v : Value) (w : World) (hm : MsgAt w v M) (hc : Box w c 3 [.int .i64 o]) :
    Calls Tryd.prog 11 #[v, .pointer (some ⟨c, 0, none⟩)] w fun e w' => e = .returned (.bool (M.dst == o)) ∧ Below w.heap.size w w' := by
  obtain ⟨vm, rfl, hs⟩ := hm
  obtain ⟨am, cm, rfl, _, _⟩ := hs
  simp only [msgCells]
  have hb := below_alloc w (.cells #[.int .i64 M.kind, .int .i64 M.frm, .int .i64 M.dst, .int .i64 M.view, .int .i64 M.normal, .int .i64 M.commit, .int .i64 M.n, .slice am M.log.length cm] 43)
  have hx := hc.below hb hc.lt
  have x0 := hx.cell 0 _ rfl
  have HB : Hid (Below w.heap.size w _) := hb
  clear hb hx
  go_enter Tryd.func11, Tryd.ntmps11
  go_wp2_with fail
  go_ret
  exact ⟨rfl, HB.out⟩

set_option maxRecDepth 4000 in
set_option maxHeartbeats 4000000 in
theorem idxMsg_any (B c : Nat) (o : Int) (v : Value) (ps : List (MsgM × Value)) (w : World) (h : MsgsOwn w B v ps) (ht : ∀ p ∈ ps, TextsIn p.1.log) (hl : ps.length ≤ 1000) (hc : Box w c 3 [.int .i64 o]) :
    Calls Tryd.prog 10 #[v, .func (.func 11) #[] #[.pointer (some ⟨c, 0, none⟩)]] w fun e w' => e = .returned (.int .i64 (idxOf (fun M => M.dst == o) (ps.map Prod.fst))) ∧ Below w.heap.size w w' := by
  obtain ⟨a, cap, rfl⟩ := own_formN h.1
  have HC : Hid (∀ W k (hk : k < ps.length), Below w.heap.size w W → Calls _ _ _ W _) := fun W k hk hW => lead_closure c o ps[k].1 (.agg (msgRow ps[k]).toArray) W ⟨ps[k].2, rfl, Strs.of_own (own_below (h.2 _ (List.getElem_mem hk)) hW (own_lt (h.2 _ (List.getElem_mem hk)))) (by have := (ht _ (List.getElem_mem hk)).1; omega) (ht _ (List.getElem_mem hk)).2⟩ (hc.below hW hc.lt)
  have HL : Hid (∀ k (hk : k < ps.length) j, j < 8 → ∃ g cp, (Value.slice a ps.length cap) = .slice (some ⟨g, 0, none⟩) ps.length cp ∧ w.cell? ⟨g, k * 8 + j, none⟩ = (msgRow ps[k])[j]?) := fun k hk j hj => by
    obtain ⟨g, cp, hv', _, _, hc, _⟩ := own_cellN h.1 (by decide) (k * 8 + j) (by omega)
    refine ⟨g, cp, hv', ?_⟩
    rw [hc, flat_get msgRow 8 msgRow_len ps k j ps[k] (List.getElem?_eq_getElem hk) hj]
  clear h ht hc
  go_enter Tryd.func10, Tryd.ntmps10
  go_wp2_with fail
  go_loopw [5, 8] (fun s5 i wr => ∃ k : Nat, k ≤ ps.length ∧ i = .int .i64 k ∧ (∀ j (hj : j < ps.length), j < k → (ps[j].1.dst == o) = false) ∧ Below w.heap.size w wr) (fun s5 i wr => ps.length - (intOf i).toNat)
  case atStart => exact ⟨0, by omega, rfl, fun j hj hk => absurd hk (by omega), Below.refl _ _⟩
  case round =>
    obtain ⟨k, hk, rfl, hno, hbr⟩ := hrel
    have HBR : Hid (Below w.heap.size w wr) := hbr
    have HNO : Hid (∀ j (hj : j < ps.length), j < k → (ps[j].1.dst == o) = false) := hno
    clear hbr hno
    by_cases hlt : k < ps.length
    · have k0 : (0 : Int) ≤ (k : Int) := by omega
      have k1 : (k : Int) < (ps.length : Int) := by omega
      obtain ⟨g, c', e0, d0⟩ := HL.out k hlt 0 (by omega)
      obtain ⟨g1, c1, e1, d1⟩ := HL.out k hlt 1 (by omega)
      obtain ⟨g2, c2, e2, d2⟩ := HL.out k hlt 2 (by omega)
      obtain ⟨g3, c3, e3, d3⟩ := HL.out k hlt 3 (by omega)
      obtain ⟨g4, c4, e4, d4⟩ := HL.out k hlt 4 (by omega)
      obtain ⟨g5, c5, e5, d5⟩ := HL.out k hlt 5 (by omega)
      obtain ⟨g6, c6, e6, d6⟩ := HL.out k hlt 6 (by omega)
      obtain ⟨g7, c7, e7, d7⟩ := HL.out k hlt 7 (by omega)
      simp only [Value.slice.injEq, true_and] at e0
      obtain ⟨rfl, rfl⟩ := e0
      simp only [Value.slice.injEq, true_and, Option.some.injEq, Addr.mk.injEq, and_true] at e1 e2 e3 e4 e5 e6 e7
      obtain ⟨rfl, rfl⟩ := e1
      obtain ⟨rfl, rfl⟩ := e2
      obtain ⟨rfl, rfl⟩ := e3
      obtain ⟨rfl, rfl⟩ := e4
      obtain ⟨rfl, rfl⟩ := e5
      obtain ⟨rfl, rfl⟩ := e6
      obtain ⟨rfl, rfl⟩ := e7
      have HCK : Hid (Calls _ _ _ wr _) := HC.out wr k hlt HBR.out
      obtain ⟨p, hp⟩ : ∃ p, p = ps[k] := ⟨_, rfl⟩
      have HP : Hid (p = ps[k]) := hp
      rw [← hp] at d0 d1 d2 d3 d4 d5 d6 d7 HCK
      clear hp
      obtain ⟨M, vm⟩ := p
      simp only [msgRow, msgCells, List.getElem?_cons_zero, List.getElem?_cons_succ, Nat.add_zero] at d0 d1 d2 d3 d4 d5 d6 d7 HCK
      have d0 := keep_cell9 HBR.out d0
      have d1 := keep_cell9 HBR.out d1
      have d2 := keep_cell9 HBR.out d2
      have d3 := keep_cell9 HBR.out d3
      have d4 := keep_cell9 HBR.out d4
      have d5 := keep_cell9 HBR.out d5
      have d6 := keep_cell9 HBR.out d6
      have d7 := keep_cell9 HBR.out d7
      go_wp2_with fail
      refine HCK.out.mono ?_
      rintro e w2 ⟨rfl, hb2⟩
      have HB2 : Hid (Below w.heap.size w w2) := Below.far HBR.out hb2
      clear d0 d1 d2 d3 d4 d5 d6 d7 hb2 HCK
      by_cases hq : (M.dst == o) = true
      · have HE : Hid (idxOf (fun M => M.dst == o) (ps.map Prod.fst) = k) := by
          refine idxOf_drop _ _ k (by simpa using hlt) (fun j hj hjk => ?_) ?_
          · rw [List.getElem_map]; exact HNO.out j (by simpa using hj) hjk
          · rw [List.getElem_map, ← HP.out]; exact hq
        rw [hq]
        go_wp2_with fail
        go_ret
        exact ⟨by rw [HE.out]; rfl, HB2.out⟩
      · have hq' : (M.dst == o) = false := by simpa using hq
        rw [hq']
        go_wp2_with fail
        go_roundw
        case rel => exact ⟨k + 1, by omega, by go_num, fun j hj hjk => by
          by_cases e : j = k
          · subst e; rw [← HP.out]; exact hq'
          · exact HNO.out j hj (by omega), HB2.out⟩
        case measure => simp [intOf]; omega
    · have HE : Hid (idxOf (fun M => M.dst == o) (ps.map Prod.fst) = -1) := by
        refine idxOf_none _ _ fun j hj => ?_
        rw [List.getElem_map]; exact HNO.out j (by simpa using hj) (by simp at hj; omega)
      go_wp2_with fail
      go_ret
      exact ⟨by rw [HE.out]; rfl, HBR.out⟩

end Go.Proofs.YtmdgkjbiicaljagDoor

/- What a turn keeps. -/
namespace Go.Proofs.YtmdgkjbiicaljagDoor
open Go.RowKit
set_option linter.unusedVariables false
set_option linter.unusedSimpArgs false

theorem repl_wants (R : ReplM) (h : replFault R = 0) : R.wants.length = 3 := by
  unfold replFault at h
  split at h
  · split at h
    · rename_i hk
      unfold fours at hk
      simp only [Bool.and_eq_true, beq_iff_eq] at hk
      exact hk.1.1.2
    · omega
  · omega
theorem turn_below {w w' : World} {b B : Nat} {R : ReplM} {L : List MsgM} (h : TurnAt w b B R L) (hb : Below w.heap.size w w') : TurnAt w' b B R L := by
  obtain ⟨vl, vh, vw, vg, vn, vs, ps, hx, ho, qs, hL, hq⟩ := h
  exact ⟨vl, vh, vw, vg, vn, vs, ps, hx.below hb hx.lt, ho.below hb, qs, hL, hq.below hb⟩

end Go.Proofs.YtmdgkjbiicaljagDoor
