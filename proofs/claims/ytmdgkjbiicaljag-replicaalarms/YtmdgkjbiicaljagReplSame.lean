/- The laws' own sameReplica, of what is the same. -/
import Derived.Test.YtmdgkjbiicaljagReplMem
import Derived.Test.YtmdgkjbiicaljagJointKeptSame
import Derived.BigQuiet
import Derived.Deep.QuietTactic
import Derived.Deep.RegionHeld3
import Derived.Deep.DeepCutAuto
namespace Go.Proofs.Ytmdgkjbiicaljag
open Go.RowKit
set_option linter.unusedVariables false
set_option linter.unusedSimpArgs false

theorem keepCell {W w' : World} {b o : Nat} {v : Value} (hb : Below W.heap.size W w') (h : W.cell? ⟨b, o, none⟩ = some v) : w'.cell? ⟨b, o, none⟩ = some v := (hb.cell (p := ⟨b, o, none⟩) (lt_of_cell h)).trans h

set_option maxRecDepth 4000 in
set_option maxHeartbeats 8000000 in
theorem sameReplica_same (R : ReplM) (v v' : Value) (w : World) (h : ReplAt w v R) (h' : ReplAt w v' R) :
    Calls Try.prog 10 #[v, v'] w fun e w' => e = .returned (.bool true) ∧ Below w.heap.size w w' := by
  obtain ⟨vl, vh, vw, vg, vn, rfl, hl, hh, hw, hg, hn⟩ := h
  obtain ⟨vl', vh', vw', vg', vn', rfl, hl', hh', hw', hg', hn'⟩ := h'
  have HSK : Hid (∀ W, Below w.heap.size w W → Calls _ _ _ W _) := fun W hW => sameKept_same R.kept _ _ W ⟨vl, rfl, hl.below hW⟩ ⟨vl', rfl, hl'.below hW⟩
  obtain ⟨me, ⟨vi, nm, cm, l, ct⟩, hav, wants, gives, given⟩ := R
  simp only [replCells] at *
  obtain ⟨al, cl, rfl, hl1, _⟩ := hl
  obtain ⟨ah, ch, rfl, hh1, hh2⟩ := hh
  obtain ⟨aw, cw, rfl, hw1, hw2⟩ := hw
  obtain ⟨ag, cg, rfl, hg1, hg2⟩ := hg
  obtain ⟨an, cn, rfl, hn1, hn2⟩ := hn
  obtain ⟨al', cl', rfl, _, _⟩ := hl'
  obtain ⟨ah', ch', rfl, _, hh2'⟩ := hh'
  obtain ⟨aw', cw', rfl, _, hw2'⟩ := hw'
  obtain ⟨ag', cg', rfl, _, hg2'⟩ := hg'
  obtain ⟨an', cn', rfl, _, hn2'⟩ := hn'
  obtain ⟨b0, b1, hb⟩ := boxes2 w 29 29 [.int .i64 me, .int .i64 vi, .int .i64 nm, .bool cm, .slice al l.length cl, .int .i64 ct, .slice ah hav.length ch, .slice aw wants.length cw, .slice ag gives.length cg, .slice an given.length cn] [.int .i64 me, .int .i64 vi, .int .i64 nm, .bool cm, .slice al' l.length cl', .int .i64 ct, .slice ah' hav.length ch', .slice aw' wants.length cw', .slice ag' gives.length cg', .slice an' given.length cn']
  obtain ⟨w0, hw0⟩ : ∃ w0, w0 = (w.alloc (.cells #[.int .i64 me, .int .i64 vi, .int .i64 nm, .bool cm, .slice al l.length cl, .int .i64 ct, .slice ah hav.length ch, .slice aw wants.length cw, .slice ag gives.length cg, .slice an given.length cn] 29)).alloc (.cells #[.int .i64 me, .int .i64 vi, .int .i64 nm, .bool cm, .slice al' l.length cl', .int .i64 ct, .slice ah' hav.length ch', .slice aw' wants.length cw', .slice ag' gives.length cg', .slice an' given.length cn'] 29) := ⟨_, rfl⟩
  go_enter Try.func10, Try.ntmps10
  go_upto_region 1 with fail
  rw [← hw0] at b0 b1 hb ⊢
  clear hw0
  have x0 := b0.cell 0 _ rfl
  have x1 := b0.cell 1 _ rfl
  have x2 := b0.cell 2 _ rfl
  have x3 := b0.cell 3 _ rfl
  have x4 := b0.cell 4 _ rfl
  have x5 := b0.cell 5 _ rfl
  have x6 := b0.cell 6 _ rfl
  have x7 := b0.cell 7 _ rfl
  have x8 := b0.cell 8 _ rfl
  have x9 := b0.cell 9 _ rfl
  have y0 := b1.cell 0 _ rfl
  have y1 := b1.cell 1 _ rfl
  have y2 := b1.cell 2 _ rfl
  have y3 := b1.cell 3 _ rfl
  have y4 := b1.cell 4 _ rfl
  have y5 := b1.cell 5 _ rfl
  have y6 := b1.cell 6 _ rfl
  have y7 := b1.cell 7 _ rfl
  have y8 := b1.cell 8 _ rfl
  have y9 := b1.cell 9 _ rfl
  have HBW : Hid (Below w.heap.size w w0) := hb
  go_wp2_with fail
  refine (HSK.out _ HBW.out).mono ?_
  rintro e w1 ⟨rfl, hb1⟩
  have HB0 : Hid (Box w1 w.heap.size _ _) := b0.below hb1 b0.lt
  have HB1 : Hid (Box w1 (w.heap.size + 1) _ _) := b1.below hb1 b1.lt
  have HW1 : Hid (Below w.heap.size w w1) := Below.far HBW.out hb1
  clear x0 x1 x2 x3 x4 x5 x6 x7 x8 x9 y0 y1 y2 y3 y4 y5 y6 y7 y8 y9 b0 b1 hb hb1 HBW HSK
  have x0 := HB0.out
  have y0 := HB1.out
  have x0 := HB0.out.cell 0 _ rfl
  have x1 := HB0.out.cell 1 _ rfl
  have x2 := HB0.out.cell 2 _ rfl
  have x3 := HB0.out.cell 3 _ rfl
  have x4 := HB0.out.cell 4 _ rfl
  have x5 := HB0.out.cell 5 _ rfl
  have x6 := HB0.out.cell 6 _ rfl
  have x7 := HB0.out.cell 7 _ rfl
  have x8 := HB0.out.cell 8 _ rfl
  have x9 := HB0.out.cell 9 _ rfl
  have y0 := HB1.out.cell 0 _ rfl
  have y1 := HB1.out.cell 1 _ rfl
  have y2 := HB1.out.cell 2 _ rfl
  have y3 := HB1.out.cell 3 _ rfl
  have y4 := HB1.out.cell 4 _ rfl
  have y5 := HB1.out.cell 5 _ rfl
  have y6 := HB1.out.cell 6 _ rfl
  have y7 := HB1.out.cell 7 _ rfl
  have y8 := HB1.out.cell 8 _ rfl
  have y9 := HB1.out.cell 9 _ rfl
  go_wp2_with fail
  go_loopw [5] (fun i wr => ∃ k : Nat, k ≤ hav.length ∧ i = .int .i64 k ∧ Below w1.heap.size w1 wr) (fun i wr => hav.length - (intOf i).toNat)
  case atStart => exact ⟨0, by omega, rfl, Below.refl _ _⟩
  case round =>
    clear x0 x1 x2 x3 x4 x5 x6 x7 x8 x9 y0 y1 y2 y3 y4 y5 y6 y7 y8 y9
    obtain ⟨k, hk, rfl, hbr⟩ := hrel
    have x3 := (HB0.out.below hbr HB0.out.lt).cell 6 _ rfl
    have y3 := (HB1.out.below hbr HB1.out.lt).cell 6 _ rfl
    have HBR : Hid (Below w.heap.size w wr) := Below.far HW1.out hbr
    by_cases hlt : k < hav.length
    · obtain ⟨b, o, rfl, h1⟩ := hh2 k hlt
      obtain ⟨b', o', rfl, h1'⟩ := hh2' k hlt
      have t0 := keepCell HBR.out h1
      have t1 := keepCell HBR.out h1'
      have k0 : (0 : Int) ≤ (k : Int) := by omega
      have k1 : (k : Int) < (hav.length : Int) := by omega
      have HR : Hid (Below w1.heap.size w1 wr) := hbr
      clear hh2 hh2' hw2 hw2' hg2 hg2' hn2 hn2' h1 h1' hbr
      generalize hav.getD k 0 = s at *
      go_wp2_with fail
      go_quiet (fail)
      go_wp2_with fail
      go_roundw
      case rel => exact ⟨k + 1, by omega, by go_num, Below.far HR.out (below_drew_n _ _)⟩
      case measure => simp [intOf]; omega
    · clear hh2 hh2'
      obtain rfl : k = hav.length := by omega
      have HR : Hid (Below w1.heap.size w1 wr) := hbr
      have x7 := (HB0.out.below hbr HB0.out.lt).cell 7 _ rfl
      have y7 := (HB1.out.below hbr HB1.out.lt).cell 7 _ rfl
      clear hbr
      go_wp2_with fail
      go_loopw [6] (fun i wr => ∃ k : Nat, k ≤ wants.length ∧ i = .int .i64 k ∧ Below w1.heap.size w1 wr) (fun i wr => wants.length - (intOf i).toNat)
      case atStart => exact ⟨0, by omega, rfl, HR.out⟩
      case round =>
        clear x3 y3 x7 y7 HBR HR
        obtain ⟨k, hk, rfl, hbr⟩ := hrel
        have x3 := (HB0.out.below hbr HB0.out.lt).cell 7 _ rfl
        have y3 := (HB1.out.below hbr HB1.out.lt).cell 7 _ rfl
        have HBR : Hid (Below w.heap.size w wr) := Below.far HW1.out hbr
        have HR : Hid (Below w1.heap.size w1 wr) := hbr
        by_cases hlt : k < wants.length
        · obtain ⟨b, o, rfl, h1⟩ := hw2 k hlt
          obtain ⟨b', o', rfl, h1'⟩ := hw2' k hlt
          have t0 := keepCell HBR.out h1
          have t1 := keepCell HBR.out h1'
          have k0 : (0 : Int) ≤ (k : Int) := by omega
          have k1 : (k : Int) < (wants.length : Int) := by omega
          clear hw2 hw2' hg2 hg2' hn2 hn2' h1 h1' hbr
          generalize wants.getD k false = s at *
          go_wp2_with fail
          go_quiet (fail)
          have en : (s != s) = false := by cases s <;> rfl
          go_wp2_with fail
          go_roundw
          case rel => exact ⟨k + 1, by omega, by go_num, Below.far HR.out (below_drew_n _ _)⟩
          case measure => simp [intOf]; omega
        · clear hw2 hw2'
          obtain rfl : k = wants.length := by omega
          have x8 := (HB0.out.below hbr HB0.out.lt).cell 8 _ rfl
          have y8 := (HB1.out.below hbr HB1.out.lt).cell 8 _ rfl
          clear hbr
          go_wp2_with fail
          go_loopw [7] (fun i wr => ∃ k : Nat, k ≤ gives.length ∧ i = .int .i64 k ∧ Below w1.heap.size w1 wr) (fun i wr => gives.length - (intOf i).toNat)
          case atStart => exact ⟨0, by omega, rfl, HR.out⟩
          case round =>
            clear x3 y3 x8 y8 HBR HR
            obtain ⟨k, hk, rfl, hbr⟩ := hrel
            have x3 := (HB0.out.below hbr HB0.out.lt).cell 8 _ rfl
            have y3 := (HB1.out.below hbr HB1.out.lt).cell 8 _ rfl
            have HBR : Hid (Below w.heap.size w wr) := Below.far HW1.out hbr
            have HR : Hid (Below w1.heap.size w1 wr) := hbr
            by_cases hlt : k < gives.length
            · obtain ⟨b, o, vl, rfl, hc, hs⟩ := hg2 k hlt
              obtain ⟨b', o', vl', rfl, hc', hs'⟩ := hg2' k hlt
              have HSK : Hid (∀ W, Below w.heap.size w W → Calls _ _ _ W _) := fun W hW => sameKept_same (gives.getD k zeroKept) _ _ W ⟨vl, rfl, hs.below hW⟩ ⟨vl', rfl, hs'.below hW⟩
              have k0 : (0 : Int) ≤ (k : Int) := by omega
              have k1 : (k : Int) < (gives.length : Int) := by omega
              obtain ⟨av, cv, rfl, _, _⟩ := hs
              obtain ⟨av', cv', rfl, _, _⟩ := hs'
              clear hg2 hg2' hn2 hn2' hbr
              generalize gives.getD k zeroKept = q at *
              obtain ⟨v1, n1, c1, l1, t1⟩ := q
              simp only [keptCells] at hc hc' HSK
              have d0 := keepCell HBR.out (hc 0 _ rfl)
              have d1 := keepCell HBR.out (hc 1 _ rfl)
              have d2 := keepCell HBR.out (hc 2 _ rfl)
              have d3 := keepCell HBR.out (hc 3 _ rfl)
              have d4 := keepCell HBR.out (hc 4 _ rfl)
              have e0 := keepCell HBR.out (hc' 0 _ rfl)
              have e1 := keepCell HBR.out (hc' 1 _ rfl)
              have e2 := keepCell HBR.out (hc' 2 _ rfl)
              have e3 := keepCell HBR.out (hc' 3 _ rfl)
              have e4 := keepCell HBR.out (hc' 4 _ rfl)
              rw [Nat.add_zero] at d0 e0
              clear hc hc'
              go_upto_region 16 with fail
              go_region_held3 (fun w' => w'.cell? ⟨w.heap.size, 8, none⟩ = some (.slice (some ⟨b, o, none⟩) gives.length cg) ∧ w'.cell? ⟨w.heap.size + 1, 8, none⟩ = some (.slice (some ⟨b', o', none⟩) gives.length cg') ∧
                  w'.cell? ⟨b, o + k * 5, none⟩ = some (.int .i64 v1) ∧ w'.cell? ⟨b, o + k * 5 + 1, none⟩ = some (.int .i64 n1) ∧ w'.cell? ⟨b, o + k * 5 + 2, none⟩ = some (.bool c1) ∧ w'.cell? ⟨b, o + k * 5 + 3, none⟩ = some (.slice av l1.length cv) ∧ w'.cell? ⟨b, o + k * 5 + 4, none⟩ = some (.int .i64 t1) ∧
                  w'.cell? ⟨b', o' + k * 5, none⟩ = some (.int .i64 v1) ∧ w'.cell? ⟨b', o' + k * 5 + 1, none⟩ = some (.int .i64 n1) ∧ w'.cell? ⟨b', o' + k * 5 + 2, none⟩ = some (.bool c1) ∧ w'.cell? ⟨b', o' + k * 5 + 3, none⟩ = some (.slice av' l1.length cv') ∧ w'.cell? ⟨b', o' + k * 5 + 4, none⟩ = some (.int .i64 t1))
                (first
                  | exact ⟨x3, y3, d0, d1, d2, d3, d4, e0, e1, e2, e3, e4⟩
                  | exact ⟨keepCell hb9 x3, keepCell hb9 y3, keepCell hb9 d0, keepCell hb9 d1, keepCell hb9 d2, keepCell hb9 d3, keepCell hb9 d4, keepCell hb9 e0, keepCell hb9 e1, keepCell hb9 e2, keepCell hb9 e3, keepCell hb9 e4⟩)
                (first | (go_at_call 28; refine (HSK.out _ HBR.out.drew).mono ?_; rintro e w' ⟨rfl, hb9⟩))
              have HBB : Hid (Below w1.heap.size w1 _) := Below.far (Below.far HR.out (Below.refl _ _).drew) hb9
              clear hb9 HSK x3 y3 d0 d1 d2 d3 d4 e0 e1 e2 e3 e4
              go_wp2_with fail
              go_roundw
              case rel => exact ⟨k + 1, by omega, by go_num, HBB.out⟩
              case measure => simp [intOf]; omega
            · clear hg2 hg2'
              obtain rfl : k = gives.length := by omega
              have x9 := (HB0.out.below hbr HB0.out.lt).cell 9 _ rfl
              have y9 := (HB1.out.below hbr HB1.out.lt).cell 9 _ rfl
              clear hbr
              go_wp2_with fail
              go_loopw [8] (fun i wr => ∃ k : Nat, k ≤ given.length ∧ i = .int .i64 k ∧ Below w1.heap.size w1 wr) (fun i wr => given.length - (intOf i).toNat)
              case atStart => exact ⟨0, by omega, rfl, HR.out⟩
              case round =>
                clear x3 y3 x9 y9 HBR HR
                obtain ⟨k, hk, rfl, hbr⟩ := hrel
                have x3 := (HB0.out.below hbr HB0.out.lt).cell 9 _ rfl
                have y3 := (HB1.out.below hbr HB1.out.lt).cell 9 _ rfl
                have HBR : Hid (Below w.heap.size w wr) := Below.far HW1.out hbr
                have HR : Hid (Below w1.heap.size w1 wr) := hbr
                by_cases hlt : k < given.length
                · obtain ⟨b, o, rfl, h1⟩ := hn2 k hlt
                  obtain ⟨b', o', rfl, h1'⟩ := hn2' k hlt
                  have t0 := keepCell HBR.out h1
                  have t1 := keepCell HBR.out h1'
                  have k0 : (0 : Int) ≤ (k : Int) := by omega
                  have k1 : (k : Int) < (given.length : Int) := by omega
                  clear hn2 hn2' h1 h1' hbr
                  generalize given.getD k false = s at *
                  go_wp2_with fail
                  go_quiet (fail)
                  have en : (s != s) = false := by cases s <;> rfl
                  go_wp2_with fail
                  go_roundw
                  case rel => exact ⟨k + 1, by omega, by go_num, Below.far HR.out (below_drew_n _ _)⟩
                  case measure => simp [intOf]; omega
                · clear hn2 hn2' hbr
                  go_wp2_with fail
                  go_ret
                  exact ⟨rfl, HBR.out⟩

end Go.Proofs.Ytmdgkjbiicaljag
