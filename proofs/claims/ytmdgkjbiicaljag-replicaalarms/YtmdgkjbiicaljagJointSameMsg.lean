/- The laws' own sameTexts. -/
import Derived.Test.YtmdgkjbiicaljagJointMath
import Derived.BigQuiet
import Derived.Deep.QuietTactic
import Derived.Test.YtmdgkjbiicaljagReplSame
namespace Go.Proofs.Ytmdgkjbiicaljag
open Go.RowKit
set_option linter.unusedVariables false
attribute [local go_sem] app_list ext_list get_list byteAt_zero

set_option maxHeartbeats 1000000 in
theorem sameTexts_any (x y : List (List UInt8)) (vx vy : Value) (w : World) (hx : Strs w vx x) (hy : Strs w vy y) :
    Calls Try.prog 29 #[vx, vy] w fun e w' => e = .returned (.bool (decide (x = y))) ∧ ∃ n, w' = w.drewN n := by
  obtain ⟨a, c, rfl, hlx, hcx⟩ := hx
  obtain ⟨a', c', rfl, hly, hcy⟩ := hy
  by_cases hl : x.length = y.length
  · have q : ((x.length : Int) != (y.length : Int)) = false := by simp; omega
    have Hl : Hid (x.length = y.length) := hl
    clear hl
    go_enter Try.func29, Try.ntmps29
    go_wp2
    go_loopw [5] (fun i wr => ∃ k n : Nat, k ≤ x.length ∧ i = .int .i64 k ∧ x.take k = y.take k ∧ wr = w.drewN n) (fun i wr => x.length - (intOf i).toNat)
    case atStart => exact ⟨0, 0, by omega, rfl, rfl, rfl⟩
    case round =>
      obtain ⟨k, n, hk, rfl, he, rfl⟩ := hrel
      have He : Hid (x.take k = y.take k) := he
      clear he
      by_cases hlt : k < x.length
      · obtain ⟨b, o, rfl, h1, h2⟩ := hcx k hlt
        obtain ⟨b', o', rfl, h1', h2'⟩ := hcy k (by have := Hl.out; omega)
        have hlt' : k < y.length := by have := Hl.out; omega
        by_cases e : x.getD k [] = y.getD k []
        · have HE : Hid (x.take (k + 1) = y.take (k + 1)) := take_next He.out hlt hlt' e
          rw [e] at h1 h2
          clear e
          generalize y.getD k [] = s at *
          go_wp2
          go_quiet (fail)
          go_wp2
          go_roundw
          case rel => exact ⟨k + 1, _, by omega, by go_num, HE.out, rfl⟩
          case measure => simp [intOf]; omega
        · have HE : Hid (¬ x = y) := fun h => e (by rw [h])
          have hne : ((x.getD k []) == (y.getD k [])) = false := beq_eq_false_iff_ne.2 e
          clear e
          generalize y.getD k [] = s at *
          generalize x.getD k [] = t at *
          go_wp2
          go_quiet (fail)
          go_wp2
          go_ret
          exact ⟨by rw [decide_eq_false HE.out]; rfl, n + nq, by simp⟩
      · have HE : Hid (x = y) := by
          have := He.out
          rw [List.take_of_length_le (by omega), List.take_of_length_le (by have := Hl.out; omega)] at this
          exact this
        go_wp2
        go_ret
        exact ⟨by rw [decide_eq_true HE.out]; rfl, _, rfl⟩
  · have q : ((x.length : Int) != (y.length : Int)) = true := by simp; omega
    go_enter Try.func29, Try.ntmps29
    go_wp2
    go_ret
    refine ⟨?_, 0, rfl⟩
    have : ¬ x = y := fun h => hl (by rw [h])
    simp [this]

end Go.Proofs.Ytmdgkjbiicaljag

/- The laws' own sameMessages, of what is the same. -/
namespace Go.Proofs.Ytmdgkjbiicaljag
open Go.RowKit
set_option linter.unusedVariables false
set_option linter.unusedSimpArgs false

def nullM : MsgM := ⟨0, 0, 0, 0, 0, 0, 0, []⟩
/-- Messages in memory. -/
def MsgsAt (w : World) (v : Value) (l : List MsgM) : Prop :=
  ∃ a cap, v = .slice a l.length cap ∧ l.length * 80 ≤ 140737488355328 ∧ ∀ i, i < l.length → ∃ b o vl, a = some ⟨b, o, none⟩ ∧ (∀ j u, (msgCells (l.getD i nullM) vl)[j]? = some u → w.cell? ⟨b, o + i * 8 + j, none⟩ = some u) ∧ Strs w vl (l.getD i nullM).log
theorem MsgsAt.below {w w' : World} {v : Value} {l : List MsgM} (h : MsgsAt w v l) (hb : Below w.heap.size w w') : MsgsAt w' v l := by
  obtain ⟨a, cap, hv, hl, hc⟩ := h
  refine ⟨a, cap, hv, hl, fun i hi => ?_⟩
  obtain ⟨b, o, vl, ha, hcell, hs⟩ := hc i hi
  exact ⟨b, o, vl, ha, fun j u hj => by rw [hb.cell (p := ⟨b, o + i * 8 + j, none⟩) (lt_of_cell (hcell j u hj))]; exact hcell j u hj, hs.below hb⟩
theorem MsgsAt.of_own {w : World} {B : Nat} {v : Value} {ps : List (MsgM × Value)} (h : MsgsOwn w B v ps) (h1 : ps.length * 80 ≤ 140737488355328) (h2 : ∀ p ∈ ps, TextsIn p.1.log) : MsgsAt w v (ps.map Prod.fst) := by
  obtain ⟨h, hs⟩ := h
  obtain ⟨a, cap, hv⟩ := own_formN h
  refine ⟨a, cap, by rw [List.length_map]; exact hv, by rw [List.length_map]; exact h1, fun i hi => ?_⟩
  rw [List.length_map] at hi
  have e1 : (ps.map Prod.fst).getD i nullM = ps[i].1 := by simp [List.getD, hi]
  have key : ∀ j, j < 8 → ∃ g, a = some ⟨g, 0, none⟩ ∧ w.cell? ⟨g, 0 + i * 8 + j, none⟩ = (msgRow ps[i])[j]? := fun j hj => by
    obtain ⟨g, cap', hv', _, _, hc, _⟩ := own_cellN h (by decide) (i * 8 + j) (by omega)
    rw [hv] at hv'
    cases hv'
    exact ⟨g, rfl, by rw [Nat.zero_add, hc, flat_get msgRow 8 msgRow_len ps i j ps[i] (List.getElem?_eq_getElem hi) hj]⟩
  obtain ⟨g, ha, _⟩ := key 0 (by decide)
  have hp : ps[i] ∈ ps := List.getElem_mem hi
  refine ⟨g, 0, ps[i].2, ha, fun j u hj => ?_, ?_⟩
  · rw [e1] at hj
    have hj5 : j < 8 := by have := (List.getElem?_eq_some_iff.1 hj).1; simpa [msgCells] using this
    obtain ⟨g', ha', hc⟩ := key j hj5
    rw [ha] at ha'
    cases ha'
    rw [hc]
    exact hj
  · rw [e1]
    have := h2 _ hp
    exact Strs.of_own (hs _ hp) (by have := this.1; omega) this.2

set_option maxRecDepth 4000 in
set_option maxHeartbeats 8000000 in
theorem sameMessages_same (L : List MsgM) (v v' : Value) (w : World) (h : MsgsAt w v L) (h' : MsgsAt w v' L) :
    Calls Try.prog 11 #[v, v'] w fun e w' => e = .returned (.bool true) ∧ Below w.heap.size w w' := by
  obtain ⟨a, c, rfl, hz, hc⟩ := h
  obtain ⟨a', c', rfl, _, hc'⟩ := h'
  go_enter Try.func11, Try.ntmps11
  go_wp2_with fail
  go_loopw [5] (fun i wr => ∃ k : Nat, k ≤ L.length ∧ i = .int .i64 k ∧ Below w.heap.size w wr) (fun i wr => L.length - (intOf i).toNat)
  case atStart => exact ⟨0, by omega, rfl, Below.refl _ _⟩
  case round =>
    obtain ⟨k, hk, rfl, hbr⟩ := hrel
    have HBR : Hid (Below w.heap.size w wr) := hbr
    by_cases hlt : k < L.length
    · obtain ⟨b, o, vl, rfl, hd, hs⟩ := hc k hlt
      obtain ⟨b', o', vl', rfl, hd', hs'⟩ := hc' k hlt
      have HST : Hid (∀ W, Below w.heap.size w W → Calls _ _ _ W _) := fun W hW => sameTexts_any _ _ _ _ W (hs.below hW) (hs'.below hW)
      obtain ⟨av, cv, rfl, _, _⟩ := hs
      obtain ⟨av', cv', rfl, _, _⟩ := hs'
      have k0 : (0 : Int) ≤ (k : Int) := by omega
      have k1 : (k : Int) < (L.length : Int) := by omega
      clear hc hc' hbr
      generalize L.getD k nullM = q at *
      obtain ⟨q0, q1, q2, q3, q4, q5, q6, ql⟩ := q
      simp only [msgCells] at hd hd' HST
      have d0 := keepCell HBR.out (hd 0 _ rfl)
      have d1 := keepCell HBR.out (hd 1 _ rfl)
      have d2 := keepCell HBR.out (hd 2 _ rfl)
      have d3 := keepCell HBR.out (hd 3 _ rfl)
      have d4 := keepCell HBR.out (hd 4 _ rfl)
      have d5 := keepCell HBR.out (hd 5 _ rfl)
      have d6 := keepCell HBR.out (hd 6 _ rfl)
      have d7 := keepCell HBR.out (hd 7 _ rfl)
      have e0 := keepCell HBR.out (hd' 0 _ rfl)
      have e1 := keepCell HBR.out (hd' 1 _ rfl)
      have e2 := keepCell HBR.out (hd' 2 _ rfl)
      have e3 := keepCell HBR.out (hd' 3 _ rfl)
      have e4 := keepCell HBR.out (hd' 4 _ rfl)
      have e5 := keepCell HBR.out (hd' 5 _ rfl)
      have e6 := keepCell HBR.out (hd' 6 _ rfl)
      have e7 := keepCell HBR.out (hd' 7 _ rfl)
      rw [Nat.add_zero] at d0 e0
      clear hd hd'
      have bx := Box.new wr 31 [.int .i64 q0, .int .i64 q1, .int .i64 q2, .int .i64 q3, .int .i64 q4, .int .i64 q5, .int .i64 q6, .slice av ql.length cv]
      obtain ⟨w1, hw1⟩ : ∃ w1, w1 = wr.alloc (.cells #[.int .i64 q0, .int .i64 q1, .int .i64 q2, .int .i64 q3, .int .i64 q4, .int .i64 q5, .int .i64 q6, .slice av ql.length cv] 31) := ⟨_, rfl⟩
      have hb1 : Below wr.heap.size wr w1 := by rw [hw1]; exact below_alloc _ _
      go_upto_region 7 with fail
      rw [← hw1] at bx ⊢
      clear hw1
      have f0 := keepCell hb1 e0
      have f1 := keepCell hb1 e1
      have f2 := keepCell hb1 e2
      have f3 := keepCell hb1 e3
      have f4 := keepCell hb1 e4
      have f5 := keepCell hb1 e5
      have f6 := keepCell hb1 e6
      have f7 := keepCell hb1 e7
      clear d0 d1 d2 d3 d4 d5 d6 d7 e0 e1 e2 e3 e4 e5 e6 e7
      have HB1 : Hid (Below w.heap.size w w1) := Below.far HBR.out hb1
      have by' := Box.new w1 31 [.int .i64 q0, .int .i64 q1, .int .i64 q2, .int .i64 q3, .int .i64 q4, .int .i64 q5, .int .i64 q6, .slice av' ql.length cv']
      obtain ⟨w2, hw2⟩ : ∃ w2, w2 = w1.alloc (.cells #[.int .i64 q0, .int .i64 q1, .int .i64 q2, .int .i64 q3, .int .i64 q4, .int .i64 q5, .int .i64 q6, .slice av' ql.length cv'] 31) := ⟨_, rfl⟩
      have hb2 : Below w1.heap.size w1 w2 := by rw [hw2]; exact below_alloc _ _
      go_upto_region 8 with fail
      rw [← hw2] at by' ⊢
      clear hw2 f0 f1 f2 f3 f4 f5 f6 f7
      have bx2 := bx.below hb2 bx.lt
      have HB2 : Hid (Below w.heap.size w w2) := Below.far HB1.out hb2
      clear bx hb1 hb2 HB1
      have x0 := bx2.cell 0 _ rfl
      have x1 := bx2.cell 1 _ rfl
      have x2 := bx2.cell 2 _ rfl
      have x3 := bx2.cell 3 _ rfl
      have x4 := bx2.cell 4 _ rfl
      have x5 := bx2.cell 5 _ rfl
      have x6 := bx2.cell 6 _ rfl
      have x7 := bx2.cell 7 _ rfl
      have y0 := by'.cell 0 _ rfl
      have y1 := by'.cell 1 _ rfl
      have y2 := by'.cell 2 _ rfl
      have y3 := by'.cell 3 _ rfl
      have y4 := by'.cell 4 _ rfl
      have y5 := by'.cell 5 _ rfl
      have y6 := by'.cell 6 _ rfl
      have y7 := by'.cell 7 _ rfl
      clear bx2 by'
      go_wp2_with fail
      refine (HST.out _ HB2.out).mono ?_
      rintro e w3 ⟨rfl, n, rfl⟩
      simp only [decide_true]
      clear HST x0 x1 x2 x3 x4 x5 x6 x7 y0 y1 y2 y3 y4 y5 y6 y7
      go_wp2_with fail
      go_roundw
      case rel => exact ⟨k + 1, by omega, by go_num, ⟨HB2.out.os, HB2.out.tape, HB2.out.output, HB2.out.size, HB2.out.block⟩⟩
      case measure => simp [intOf]; omega
    · obtain rfl : k = L.length := by omega
      clear hc hc' hbr
      go_wp2_with fail
      go_ret
      exact ⟨rfl, HBR.out⟩

end Go.Proofs.Ytmdgkjbiicaljag
