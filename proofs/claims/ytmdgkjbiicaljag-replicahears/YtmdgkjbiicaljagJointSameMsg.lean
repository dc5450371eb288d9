/- The laws' own sameReplica, of what is the same. -/
import Derived.Test.YtmdgkjbiicaljagJointReplMem
import Derived.Test.YtmdgkjbiicaljagJointKeptSame
import Derived.BigQuiet
import Derived.Deep.QuietTactic
import Derived.Deep.RegionHeld3
import Derived.Deep.DeepCutAuto
import Derived.Test.YtmdgkjbiicaljagJointMachMath
namespace Go.Proofs.Ytmdgkjbiicaljag
open Go.RowKit
set_option linter.unusedVariables false
set_option linter.unusedSimpArgs false

theorem keepCell {W w' : World} {b o : Nat} {v : Value} (hb : Below W.heap.size W w') (h : W.cell? ⟨b, o, none⟩ = some v) : w'.cell? ⟨b, o, none⟩ = some v := (hb.cell (p := ⟨b, o, none⟩) (lt_of_cell h)).trans h

set_option maxRecDepth 4000 in
set_option maxHeartbeats 8000000 in
theorem sameReplica_same (R : ReplM) (v v' : Value) (w : World) (h : ReplAt w v R) (h' : ReplAt w v' R) :
    Calls Try.prog 10 #[v, v'] w fun e w' => e = .returned (.bool true) ∧ Below w.heap.size w w' := by
  obtain ⟨vl, vh, vw, vg, vn, rfl, hl, hh, hw, hg, hn⟩ := h
  obtain ⟨vl', vh', vw', vg', vn', rfl, hl', hh', hw', hg', hn'⟩ := h'
  have HSK : Hid (∀ W, Below w.heap.size w W → Calls _ _ _ W _) := fun W hW => sameKept_same R.kept _ _ W ⟨vl, rfl, hl.below hW⟩ ⟨vl', rfl, hl'.below hW⟩
  obtain ⟨me, ⟨vi, nm, cm, l, ct⟩, hav, wants, gives, given⟩ := R
  simp only [replCells] at *
  obtain ⟨al, cl, rfl, hl1, _⟩ := hl
  obtain ⟨ah, ch, rfl, hh1, hh2⟩ := hh
  obtain ⟨aw, cw, rfl, hw1, hw2⟩ := hw
  obtain ⟨ag, cg, rfl, hg1, hg2⟩ := hg
  obtain ⟨an, cn, rfl, hn1, hn2⟩ := hn
  obtain ⟨al', cl', rfl, _, _⟩ := hl'
  obtain ⟨ah', ch', rfl, _, hh2'⟩ := hh'
  obtain ⟨aw', cw', rfl, _, hw2'⟩ := hw'
  obtain ⟨ag', cg', rfl, _, hg2'⟩ := hg'
  obtain ⟨an', cn', rfl, _, hn2'⟩ := hn'
  obtain ⟨b0, b1, hb⟩ := boxes2 w 29 29 [.int .i64 me, .int .i64 vi, .int .i64 nm, .bool cm, .slice al l.length cl, .int .i64 ct, .slice ah hav.length ch, .slice aw wants.length cw, .slice ag gives.length cg, .slice an given.length cn] [.int .i64 me, .int .i64 vi, .int .i64 nm, .bool cm, .slice al' l.length cl', .int .i64 ct, .slice ah' hav.length ch', .slice aw' wants.length cw', .slice ag' gives.length cg', .slice an' given.length cn']
  obtain ⟨w0, hw0⟩ : ∃ w0, w0 = (w.alloc (.cells #[.int .i64 me, .int .i64 vi, .int .i64 nm, .bool cm, .slice al l.length cl, .int .i64 ct, .slice ah hav.length ch, .slice aw wants.length cw, .slice ag gives.length cg, .slice an given.length cn] 29)).alloc (.cells #[.int .i64 me, .int .i64 vi, .int .i64 nm, .bool cm, .slice al' l.length cl', .int .i64 ct, .slice ah' hav.length ch', .slice aw' wants.length cw', .slice ag' gives.length cg', .slice an' given.length cn'] 29) := ⟨_, rfl⟩
  go_enter Try.func10, Try.ntmps10
  go_upto_region 1 with fail
  rw [← hw0] at b0 b1 hb ⊢
  clear hw0
  have x0 := b0.cell 0 _ rfl
  have x1 := b0.cell 1 _ rfl
  have x2 := b0.cell 2 _ rfl
  have x3 := b0.cell 3 _ rfl
  have x4 := b0.cell 4 _ rfl
  have x5 := b0.cell 5 _ rfl
  have x6 := b0.cell 6 _ rfl
  have x7 := b0.cell 7 _ rfl
  have x8 := b0.cell 8 _ rfl
  have x9 := b0.cell 9 _ rfl
  have y0 := b1.cell 0 _ rfl
  have y1 := b1.cell 1 _ rfl
  have y2 := b1.cell 2 _ rfl
  have y3 := b1.cell 3 _ rfl
  have y4 := b1.cell 4 _ rfl
  have y5 := b1.cell 5 _ rfl
  have y6 := b1.cell 6 _ rfl
  have y7 := b1.cell 7 _ rfl
  have y8 := b1.cell 8 _ rfl
  have y9 := b1.cell 9 _ rfl
  have HBW : Hid (Below w.heap.size w w0) := hb
  go_wp2_with fail
  refine (HSK.out _ HBW.out).mono ?_
  rintro e w1 ⟨rfl, hb1⟩
  have HB0 : Hid (Box w1 w.heap.size _ _) := b0.below hb1 b0.lt
  have HB1 : Hid (Box w1 (w.heap.size + 1) _ _) := b1.below hb1 b1.lt
  have HW1 : Hid (Below w.heap.size w w1) := Below.far HBW.out hb1
  clear x0 x1 x2 x3 x4 x5 x6 x7 x8 x9 y0 y1 y2 y3 y4 y5 y6 y7 y8 y9 b0 b1 hb hb1 HBW HSK
  have x0 := HB0.out
  have y0 := HB1.out
  have x0 := HB0.out.cell 0 _ rfl
  have x1 := HB0.out.cell 1 _ rfl
  have x2 := HB0.out.cell 2 _ rfl
  have x3 := HB0.out.cell 3 _ rfl
  have x4 := HB0.out.cell 4 _ rfl
  have x5 := HB0.out.cell 5 _ rfl
  have x6 := HB0.out.cell 6 _ rfl
  have x7 := HB0.out.cell 7 _ rfl
  have x8 := HB0.out.cell 8 _ rfl
  have x9 := HB0.out.cell 9 _ rfl
  have y0 := HB1.out.cell 0 _ rfl
  have y1 := HB1.out.cell 1 _ rfl
  have y2 := HB1.out.cell 2 _ rfl
  have y3 := HB1.out.cell 3 _ rfl
  have y4 := HB1.out.cell 4 _ rfl
  have y5 := HB1.out.cell 5 _ rfl
  have y6 := HB1.out.cell 6 _ rfl
  have y7 := HB1.out.cell 7 _ rfl
  have y8 := HB1.out.cell 8 _ rfl
  have y9 := HB1.out.cell 9 _ rfl
  go_wp2_with fail
  go_loopw [5] (fun i wr => ∃ k : Nat, k ≤ hav.length ∧ i = .int .i64 k ∧ Below w1.heap.size w1 wr) (fun i wr => hav.length - (intOf i).toNat)
  case atStart => exact ⟨0, by omega, rfl, Below.refl _ _⟩
  case round =>
    clear x0 x1 x2 x3 x4 x5 x6 x7 x8 x9 y0 y1 y2 y3 y4 y5 y6 y7 y8 y9
    obtain ⟨k, hk, rfl, hbr⟩ := hrel
    have x3 := (HB0.out.below hbr HB0.out.lt).cell 6 _ rfl
    have y3 := (HB1.out.below hbr HB1.out.lt).cell 6 _ rfl
    have HBR : Hid (Below w.heap.size w wr) := Below.far HW1.out hbr
    by_cases hlt : k < hav.length
    · obtain ⟨b, o, rfl, h1⟩ := hh2 k hlt
      obtain ⟨b', o', rfl, h1'⟩ := hh2' k hlt
      have t0 := keepCell HBR.out h1
      have t1 := keepCell HBR.out h1'
      have k0 : (0 : Int) ≤ (k : Int) := by omega
      have k1 : (k : Int) < (hav.length : Int) := by omega
      have HR : Hid (Below w1.heap.size w1 wr) := hbr
      clear hh2 hh2' hw2 hw2' hg2 hg2' hn2 hn2' h1 h1' hbr
      generalize hav.getD k 0 = s at *
      go_wp2_with fail
      go_quiet (fail)
      go_wp2_with fail
      go_roundw
      case rel => exact ⟨k + 1, by omega, by go_num, Below.far HR.out (below_drew_n _ _)⟩
      case measure => simp [intOf]; omega
    · clear hh2 hh2'
      obtain rfl : k = hav.length := by omega
      have HR : Hid (Below w1.heap.size w1 wr) := hbr
      have x7 := (HB0.out.below hbr HB0.out.lt).cell 7 _ rfl
      have y7 := (HB1.out.below hbr HB1.out.lt).cell 7 _ rfl
      clear hbr
      go_wp2_with fail
      go_loopw [6] (fun i wr => ∃ k : Nat, k ≤ wants.length ∧ i = .int .i64 k ∧ Below w1.heap.size w1 wr) (fun i wr => wants.length - (intOf i).toNat)
      case atStart => exact ⟨0, by omega, rfl, HR.out⟩
      case round =>
        clear x3 y3 x7 y7 HBR HR
        obtain ⟨k, hk, rfl, hbr⟩ := hrel
        have x3 := (HB0.out.below hbr HB0.out.lt).cell 7 _ rfl
        have y3 := (HB1.out.below hbr HB1.out.lt).cell 7 _ rfl
        have HBR : Hid (Below w.heap.size w wr) := Below.far HW1.out hbr
        have HR : Hid (Below w1.heap.size w1 wr) := hbr
        by_cases hlt : k < wants.length
        · obtain ⟨b, o, rfl, h1⟩ := hw2 k hlt
          obtain ⟨b', o', rfl, h1'⟩ := hw2' k hlt
          have t0 := keepCell HBR.out h1
          have t1 := keepCell HBR.out h1'
          have k0 : (0 : Int) ≤ (k : Int) := by omega
          have k1 : (k : Int) < (wants.length : Int) := by omega
          clear hw2 hw2' hg2 hg2' hn2 hn2' h1 h1' hbr
          generalize wants.getD k false = s at *
          go_wp2_with fail
          go_quiet (fail)
          have en : (s != s) = false := by cases s <;> rfl
          go_wp2_with fail
          go_roundw
          case rel => exact ⟨k + 1, by omega, by go_num, Below.far HR.out (below_drew_n _ _)⟩
          case measure => simp [intOf]; omega
        · clear hw2 hw2'
          obtain rfl : k = wants.length := by omega
          have x8 := (HB0.out.below hbr HB0.out.lt).cell 8 _ rfl
          have y8 := (HB1.out.below hbr HB1.out.lt).cell 8 _ rfl
          clear hbr
          go_wp2_with fail
          go_loopw [7] (fun i wr => ∃ k : Nat, k ≤ gives.length ∧ i = .int .i64 k ∧ Below w1.heap.size w1 wr) (fun i wr => gives.length - (intOf i).toNat)
          case atStart => exact ⟨0, by omega, rfl, HR.out⟩
          case round =>
            clear x3 y3 x8 y8 HBR HR
            obtain ⟨k, hk, rfl, hbr⟩ := hrel
            have x3 := (HB0.out.below hbr HB0.out.lt).cell 8 _ rfl
            have y3 := (HB1.out.below hbr HB1.out.lt).cell 8 _ rfl
            have HBR : Hid (Below w.heap.size w wr) := Below.far HW1.out hbr
            have HR : Hid (Below w1.heap.size w1 wr) := hbr
            by_cases hlt : k < gives.length
            · obtain ⟨b, o, vl, rfl, hc, hs⟩ := hg2 k hlt
              obtain ⟨b', o', vl', rfl, hc', hs'⟩ := hg2' k hlt
              have HSK : Hid (∀ W, Below w.heap.size w W → Calls _ _ _ W _) := fun W hW => sameKept_same (gives.getD k zeroKept) _ _ W ⟨vl, rfl, hs.below hW⟩ ⟨vl', rfl, hs'.below hW⟩
              have k0 : (0 : Int) ≤ (k : Int) := by omega
              have k1 : (k : Int) < (gives.length : Int) := by omega
              obtain ⟨av, cv, rfl, _, _⟩ := hs
              obtain ⟨av', cv', rfl, _, _⟩ := hs'
              clear hg2 hg2' hn2 hn2' hbr
              generalize gives.getD k zeroKept = q at *
              obtain ⟨v1, n1, c1, l1, t1⟩ := q
              simp only [keptCells] at hc hc' HSK
              have d0 := keepCell HBR.out (hc 0 _ rfl)
              have d1 := keepCell HBR.out (hc 1 _ rfl)
              have d2 := keepCell HBR.out (hc 2 _ rfl)
              have d3 := keepCell HBR.out (hc 3 _ rfl)
              have d4 := keepCell HBR.out (hc 4 _ rfl)
              have e0 := keepCell HBR.out (hc' 0 _ rfl)
              have e1 := keepCell HBR.out (hc' 1 _ rfl)
              have e2 := keepCell HBR.out (hc' 2 _ rfl)
              have e3 := keepCell HBR.out (hc' 3 _ rfl)
              have e4 := keepCell HBR.out (hc' 4 _ rfl)
              rw [Nat.add_zero] at d0 e0
              clear hc hc'
              go_upto_region 16 with fail
              go_region_held3 (fun w' => w'.cell? ⟨w.heap.size, 8, none⟩ = some (.slice (some ⟨b, o, none⟩) gives.length cg) ∧ w'.cell? ⟨w.heap.size + 1, 8, none⟩ = some (.slice (some ⟨b', o', none⟩) gives.length cg') ∧
                  w'.cell? ⟨b, o + k * 5, none⟩ = some (.int .i64 v1) ∧ w'.cell? ⟨b, o + k * 5 + 1, none⟩ = some (.int .i64 n1) ∧ w'.cell? ⟨b, o + k * 5 + 2, none⟩ = some (.bool c1) ∧ w'.cell? ⟨b, o + k * 5 + 3, none⟩ = some (.slice av l1.length cv) ∧ w'.cell? ⟨b, o + k * 5 + 4, none⟩ = some (.int .i64 t1) ∧
                  w'.cell? ⟨b', o' + k * 5, none⟩ = some (.int .i64 v1) ∧ w'.cell? ⟨b', o' + k * 5 + 1, none⟩ = some (.int .i64 n1) ∧ w'.cell? ⟨b', o' + k * 5 + 2, none⟩ = some (.bool c1) ∧ w'.cell? ⟨b', o' + k * 5 + 3, none⟩ = some (.slice av' l1.length cv') ∧ w'.cell? ⟨b', o' + k * 5 + 4, none⟩ = some (.int .i64 t1))
                (first
                  | exact ⟨x3, y3, d0, d1, d2, d3, d4, e0, e1, e2, e3, e4⟩
                  | exact ⟨keepCell hb9 x3, keepCell hb9 y3, keepCell hb9 d0, keepCell hb9 d1, keepCell hb9 d2, keepCell hb9 d3, keepCell hb9 d4, keepCell hb9 e0, keepCell hb9 e1, keepCell hb9 e2, keepCell hb9 e3, keepCell hb9 e4⟩)
                (first | (go_at_call 28; refine (HSK.out _ HBR.out.drew).mono ?_; rintro e w' ⟨rfl, hb9⟩))
              have HBB : Hid (Below w1.heap.size w1 _) := Below.far (Below.far HR.out (Below.refl _ _).drew) hb9
              clear hb9 HSK x3 y3 d0 d1 d2 d3 d4 e0 e1 e2 e3 e4
              go_wp2_with fail
              go_roundw
              case rel => exact ⟨k + 1, by omega, by go_num, HBB.out⟩
              case measure => simp [intOf]; omega
            · clear hg2 hg2'
              obtain rfl : k = gives.length := by omega
              have x9 := (HB0.out.below hbr HB0.out.lt).cell 9 _ rfl
              have y9 := (HB1.out.below hbr HB1.out.lt).cell 9 _ rfl
              clear hbr
              go_wp2_with fail
              go_loopw [8] (fun i wr => ∃ k : Nat, k ≤ given.length ∧ i = .int .i64 k ∧ Below w1.heap.size w1 wr) (fun i wr => given.length - (intOf i).toNat)
              case atStart => exact ⟨0, by omega, rfl, HR.out⟩
              case round =>
                clear x3 y3 x9 y9 HBR HR
                obtain ⟨k, hk, rfl, hbr⟩ := hrel
                have x3 := (HB0.out.below hbr HB0.out.lt).cell 9 _ rfl
                have y3 := (HB1.out.below hbr HB1.out.lt).cell 9 _ rfl
                have HBR : Hid (Below w.heap.size w wr) := Below.far HW1.out hbr
                have HR : Hid (Below w1.heap.size w1 wr) := hbr
                by_cases hlt : k < given.length
                · obtain ⟨b, o, rfl, h1⟩ := hn2 k hlt
                  obtain ⟨b', o', rfl, h1'⟩ := hn2' k hlt
                  have t0 := keepCell HBR.out h1
                  have t1 := keepCell HBR.out h1'
                  have k0 : (0 : Int) ≤ (k : Int) := by omega
                  have k1 : (k : Int) < (given.length : Int) := by omega
                  clear hn2 hn2' h1 h1' hbr
                  generalize given.getD k false = s at *
                  go_wp2_with fail
                  go_quiet (fail)
                  have en : (s != s) = false := by cases s <;> rfl
                  go_wp2_with fail
                  go_roundw
                  case rel => exact ⟨k + 1, by omega, by go_num, Below.far HR.out (below_drew_n _ _)⟩
                  case measure => simp [intOf]; omega
                · clear hn2 hn2' hbr
                  go_wp2_with fail
                  go_ret
                  exact ⟨rfl, HBR.out⟩

end Go.Proofs.Ytmdgkjbiicaljag

/- The laws' own sameTexts. -/
namespace Go.Proofs.Ytmdgkjbiicaljag
open Go.RowKit
set_option linter.unusedVariables false
attribute [local go_sem] app_list ext_list get_list byteAt_zero

set_option maxHeartbeats 1000000 in
theorem sameTexts_any (x y : List (List UInt8)) (vx vy : Value) (w : World) (hx : Strs w vx x) (hy : Strs w vy y) :
    Calls Try.prog 29 #[vx, vy] w fun e w' => e = .returned (.bool (decide (x = y))) ∧ ∃ n, w' = w.drewN n := by
  obtain ⟨a, c, rfl, hlx, hcx⟩ := hx
  obtain ⟨a', c', rfl, hly, hcy⟩ := hy
  by_cases hl : x.length = y.length
  · have q : ((x.length : Int) != (y.length : Int)) = false := by simp; omega
    have Hl : Hid (x.length = y.length) := hl
    clear hl
    go_enter Try.func29, Try.ntmps29
    go_wp2
    go_loopw [5] (fun i wr => ∃ k n : Nat, k ≤ x.length ∧ i = .int .i64 k ∧ x.take k = y.take k ∧ wr = w.drewN n) (fun i wr => x.length - (intOf i).toNat)
    case atStart => exact ⟨0, 0, by omega, rfl, rfl, rfl⟩
    case round =>
      obtain ⟨k, n, hk, rfl, he, rfl⟩ := hrel
      have He : Hid (x.take k = y.take k) := he
      clear he
      by_cases hlt : k < x.length
      · obtain ⟨b, o, rfl, h1, h2⟩ := hcx k hlt
        obtain ⟨b', o', rfl, h1', h2'⟩ := hcy k (by have := Hl.out; omega)
        have hlt' : k < y.length := by have := Hl.out; omega
        by_cases e : x.getD k [] = y.getD k []
        · have HE : Hid (x.take (k + 1) = y.take (k + 1)) := take_next He.out hlt hlt' e
          rw [e] at h1 h2
          clear e
          generalize y.getD k [] = s at *
          go_wp2
          go_quiet (fail)
          go_wp2
          go_roundw
          case rel => exact ⟨k + 1, _, by omega, by go_num, HE.out, rfl⟩
          case measure => simp [intOf]; omega
        · have HE : Hid (¬ x = y) := fun h => e (by rw [h])
          have hne : ((x.getD k []) == (y.getD k [])) = false := beq_eq_false_iff_ne.2 e
          clear e
          generalize y.getD k [] = s at *
          generalize x.getD k [] = t at *
          go_wp2
          go_quiet (fail)
          go_wp2
          go_ret
          exact ⟨by rw [decide_eq_false HE.out]; rfl, n + nq, by simp⟩
      · have HE : Hid (x = y) := by
          have := He.out
          rw [List.take_of_length_le (by omega), List.take_of_length_le (by have := Hl.out; omega)] at this
          exact this
        go_wp2
        go_ret
        exact ⟨by rw [decide_eq_true HE.out]; rfl, _, rfl⟩
  · have q : ((x.length : Int) != (y.length : Int)) = true := by simp; omega
    go_enter Try.func29, Try.ntmps29
    go_wp2
    go_ret
    refine ⟨?_, 0, rfl⟩
    have : ¬ x = y := fun h => hl (by rw [h])
    simp [this]

end Go.Proofs.Ytmdgkjbiicaljag

/- The laws' own sameMessages, of what is the same. -/
namespace Go.Proofs.Ytmdgkjbiicaljag
open Go.RowKit
set_option linter.unusedVariables false
set_option linter.unusedSimpArgs false

def nullM : MsgM := ⟨0, 0, 0, 0, 0, 0, 0, []⟩
/-- Messages in memory. -/
def MsgsAt (w : World) (v : Value) (l : List MsgM) : Prop :=
  ∃ a cap, v = .slice a l.length cap ∧ l.length * 80 ≤ 140737488355328 ∧ ∀ i, i < l.length → ∃ b o vl, a = some ⟨b, o, none⟩ ∧ (∀ j u, (msgCells (l.getD i nullM) vl)[j]? = some u → w.cell? ⟨b, o + i * 8 + j, none⟩ = some u) ∧ Strs w vl (l.getD i nullM).log
theorem MsgsAt.below {w w' : World} {v : Value} {l : List MsgM} (h : MsgsAt w v l) (hb : Below w.heap.size w w') : MsgsAt w' v l := by
  obtain ⟨a, cap, hv, hl, hc⟩ := h
  refine ⟨a, cap, hv, hl, fun i hi => ?_⟩
  obtain ⟨b, o, vl, ha, hcell, hs⟩ := hc i hi
  exact ⟨b, o, vl, ha, fun j u hj => by rw [hb.cell (p := ⟨b, o + i * 8 + j, none⟩) (lt_of_cell (hcell j u hj))]; exact hcell j u hj, hs.below hb⟩
theorem MsgsAt.of_own {w : World} {B : Nat} {v : Value} {ps : List (MsgM × Value)} (h : MsgsOwn w B v ps) (h1 : ps.length * 80 ≤ 140737488355328) (h2 : ∀ p ∈ ps, TextsIn p.1.log) : MsgsAt w v (ps.map Prod.fst) := by
  obtain ⟨h, hs⟩ := h
  obtain ⟨a, cap, hv⟩ := own_formN h
  refine ⟨a, cap, by rw [List.length_map]; exact hv, by rw [List.length_map]; exact h1, fun i hi => ?_⟩
  rw [List.length_map] at hi
  have e1 : (ps.map Prod.fst).getD i nullM = ps[i].1 := by simp [List.getD, hi]
  have key : ∀ j, j < 8 → ∃ g, a = some ⟨g, 0, none⟩ ∧ w.cell? ⟨g, 0 + i * 8 + j, none⟩ = (msgRow ps[i])[j]? := fun j hj => by
    obtain ⟨g, cap', hv', _, _, hc, _⟩ := own_cellN h (by decide) (i * 8 + j) (by omega)
    rw [hv] at hv'
    cases hv'
    exact ⟨g, rfl, by rw [Nat.zero_add, hc, flat_get msgRow 8 msgRow_len ps i j ps[i] (List.getElem?_eq_getElem hi) hj]⟩
  obtain ⟨g, ha, _⟩ := key 0 (by decide)
  have hp : ps[i] ∈ ps := List.getElem_mem hi
  refine ⟨g, 0, ps[i].2, ha, fun j u hj => ?_, ?_⟩
  · rw [e1] at hj
    have hj5 : j < 8 := by have := (List.getElem?_eq_some_iff.1 hj).1; simpa [msgCells] using this
    obtain ⟨g', ha', hc⟩ := key j hj5
    rw [ha] at ha'
    cases ha'
    rw [hc]
    exact hj
  · rw [e1]
    have := h2 _ hp
    exact Strs.of_own (hs _ hp) (by have := this.1; omega) this.2

set_option maxRecDepth 4000 in
set_option maxHeartbeats 8000000 in
theorem sameMessages_same (L : List MsgM) (v v' : Value) (w : World) (h : MsgsAt w v L) (h' : MsgsAt w v' L) :
    Calls Try.prog 11 #[v, v'] w fun e w' => e = .returned (.bool true) ∧ Below w.heap.size w w' := by
  obtain ⟨a, c, rfl, hz, hc⟩ := h
  obtain ⟨a', c', rfl, _, hc'⟩ := h'
  go_enter Try.func11, Try.ntmps11
  go_wp2_with fail
  go_loopw [5] (fun i wr => ∃ k : Nat, k ≤ L.length ∧ i = .int .i64 k ∧ Below w.heap.size w wr) (fun i wr => L.length - (intOf i).toNat)
  case atStart => exact ⟨0, by omega, rfl, Below.refl _ _⟩
  case round =>
    obtain ⟨k, hk, rfl, hbr⟩ := hrel
    have HBR : Hid (Below w.heap.size w wr) := hbr
    by_cases hlt : k < L.length
    · obtain ⟨b, o, vl, rfl, hd, hs⟩ := hc k hlt
      obtain ⟨b', o', vl', rfl, hd', hs'⟩ := hc' k hlt
      have HST : Hid (∀ W, Below w.heap.size w W → Calls _ _ _ W _) := fun W hW => sameTexts_any _ _ _ _ W (hs.below hW) (hs'.below hW)
      obtain ⟨av, cv, rfl, _, _⟩ := hs
      obtain ⟨av', cv', rfl, _, _⟩ := hs'
      have k0 : (0 : Int) ≤ (k : Int) := by omega
      have k1 : (k : Int) < (L.length : Int) := by omega
      clear hc hc' hbr
      generalize L.getD k nullM = q at *
      obtain ⟨q0, q1, q2, q3, q4, q5, q6, ql⟩ := q
      simp only [msgCells] at hd hd' HST
      have d0 := keepCell HBR.out (hd 0 _ rfl)
      have d1 := keepCell HBR.out (hd 1 _ rfl)
      have d2 := keepCell HBR.out (hd 2 _ rfl)
      have d3 := keepCell HBR.out (hd 3 _ rfl)
      have d4 := keepCell HBR.out (hd 4 _ rfl)
      have d5 := keepCell HBR.out (hd 5 _ rfl)
      have d6 := keepCell HBR.out (hd 6 _ rfl)
      have d7 := keepCell HBR.out (hd 7 _ rfl)
      have e0 := keepCell HBR.out (hd' 0 _ rfl)
      have e1 := keepCell HBR.out (hd' 1 _ rfl)
      have e2 := keepCell HBR.out (hd' 2 _ rfl)
      have e3 := keepCell HBR.out (hd' 3 _ rfl)
      have e4 := keepCell HBR.out (hd' 4 _ rfl)
      have e5 := keepCell HBR.out (hd' 5 _ rfl)
      have e6 := keepCell HBR.out (hd' 6 _ rfl)
      have e7 := keepCell HBR.out (hd' 7 _ rfl)
      rw [Nat.add_zero] at d0 e0
      clear hd hd'
      have bx := Box.new wr 31 [.int .i64 q0, .int .i64 q1, .int .i64 q2, .int .i64 q3, .int .i64 q4, .int .i64 q5, .int .i64 q6, .slice av ql.length cv]
      obtain ⟨w1, hw1⟩ : ∃ w1, w1 = wr.alloc (.cells #[.int .i64 q0, .int .i64 q1, .int .i64 q2, .int .i64 q3, .int .i64 q4, .int .i64 q5, .int .i64 q6, .slice av ql.length cv] 31) := ⟨_, rfl⟩
      have hb1 : Below wr.heap.size wr w1 := by rw [hw1]; exact below_alloc _ _
      go_upto_region 7 with fail
      rw [← hw1] at bx ⊢
      clear hw1
      have f0 := keepCell hb1 e0
      have f1 := keepCell hb1 e1
      have f2 := keepCell hb1 e2
      have f3 := keepCell hb1 e3
      have f4 := keepCell hb1 e4
      have f5 := keepCell hb1 e5
      have f6 := keepCell hb1 e6
      have f7 := keepCell hb1 e7
      clear d0 d1 d2 d3 d4 d5 d6 d7 e0 e1 e2 e3 e4 e5 e6 e7
      have HB1 : Hid (Below w.heap.size w w1) := Below.far HBR.out hb1
      have by' := Box.new w1 31 [.int .i64 q0, .int .i64 q1, .int .i64 q2, .int .i64 q3, .int .i64 q4, .int .i64 q5, .int .i64 q6, .slice av' ql.length cv']
      obtain ⟨w2, hw2⟩ : ∃ w2, w2 = w1.alloc (.cells #[.int .i64 q0, .int .i64 q1, .int .i64 q2, .int .i64 q3, .int .i64 q4, .int .i64 q5, .int .i64 q6, .slice av' ql.length cv'] 31) := ⟨_, rfl⟩
      have hb2 : Below w1.heap.size w1 w2 := by rw [hw2]; exact below_alloc _ _
      go_upto_region 8 with fail
      rw [← hw2] at by' ⊢
      clear hw2 f0 f1 f2 f3 f4 f5 f6 f7
      have bx2 := bx.below hb2 bx.lt
      have HB2 : Hid (Below w.heap.size w w2) := Below.far HB1.out hb2
      clear bx hb1 hb2 HB1
      have x0 := bx2.cell 0 _ rfl
      have x1 := bx2.cell 1 _ rfl
      have x2 := bx2.cell 2 _ rfl
      have x3 := bx2.cell 3 _ rfl
      have x4 := bx2.cell 4 _ rfl
      have x5 := bx2.cell 5 _ rfl
      have x6 := bx2.cell 6 _ rfl
      have x7 := bx2.cell 7 _ rfl
      have y0 := by'.cell 0 _ rfl
      have y1 := by'.cell 1 _ rfl
      have y2 := by'.cell 2 _ rfl
      have y3 := by'.cell 3 _ rfl
      have y4 := by'.cell 4 _ rfl
      have y5 := by'.cell 5 _ rfl
      have y6 := by'.cell 6 _ rfl
      have y7 := by'.cell 7 _ rfl
      clear bx2 by'
      go_wp2_with fail
      refine (HST.out _ HB2.out).mono ?_
      rintro e w3 ⟨rfl, n, rfl⟩
      simp only [decide_true]
      clear HST x0 x1 x2 x3 x4 x5 x6 x7 y0 y1 y2 y3 y4 y5 y6 y7
      go_wp2_with fail
      go_roundw
      case rel => exact ⟨k + 1, by omega, by go_num, ⟨HB2.out.os, HB2.out.tape, HB2.out.output, HB2.out.size, HB2.out.block⟩⟩
      case measure => simp [intOf]; omega
    · obtain rfl : k = L.length := by omega
      clear hc hc' hbr
      go_wp2_with fail
      go_ret
      exact ⟨rfl, HBR.out⟩

end Go.Proofs.Ytmdgkjbiicaljag
