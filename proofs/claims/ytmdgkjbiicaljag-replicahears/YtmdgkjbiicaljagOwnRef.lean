/- The document's own: what a replica gives. -/
import Derived.Test.YtmdgkjbiicaljagTickRef
namespace Go.Proofs.Ytmdgkjbiicaljag
open Go.RowKit
set_option linter.unusedVariables false
set_option linter.unusedSimpArgs false

set_option maxRecDepth 4000 in
set_option maxHeartbeats 4000000 in
theorem ownOf_any (R : ReplM) (v : Value) (w : World) (h : ReplAt w v R) (hf : TextsIn R.kept.log) :
    Calls Try.prog 57 #[v] w fun e w' => ∃ a c, e = .returned (.agg #[.int .i64 R.kept.view, .int .i64 R.kept.normal, .bool false, .slice a R.kept.log.length c, .int .i64 R.kept.commit]) ∧ w'.ownsRow w.heap.size 9 1 (.slice a R.kept.log.length c) R.kept.log.length (R.kept.log.map enc) ∧ Below w.heap.size w w' := by
  obtain ⟨vl, vh, vw, vg, vn, rfl, hl, hh, hw, hg, hn⟩ := h
  have HS : Hid (Strs w vl R.kept.log) := hl
  obtain ⟨al, cl, rfl, _, _⟩ := hl
  obtain ⟨ah, ch, rfl, _, _⟩ := hh
  obtain ⟨aw, cw, rfl, _, _⟩ := hw
  obtain ⟨ag, cg, rfl, _, _⟩ := hg
  obtain ⟨an, cn, rfl, _, _⟩ := hn
  simp only [replCells] at *
  have hz := hf.1
  clear hf
  obtain ⟨b0, b1, hb⟩ := boxes2 w 29 24 [.int .i64 R.me, .int .i64 R.kept.view, .int .i64 R.kept.normal, .bool R.kept.calm, .slice al R.kept.log.length cl, .int .i64 R.kept.commit, .slice ah R.hav.length ch, .slice aw R.wants.length cw, .slice ag R.gives.length cg, .slice an R.given.length cn] [.int .i64 0, .int .i64 0, .bool false, .slice none 0 0, .int .i64 0]
  obtain ⟨w0, hw0⟩ : ∃ w0, w0 = (w.alloc (.cells #[.int .i64 R.me, .int .i64 R.kept.view, .int .i64 R.kept.normal, .bool R.kept.calm, .slice al R.kept.log.length cl, .int .i64 R.kept.commit, .slice ah R.hav.length ch, .slice aw R.wants.length cw, .slice ag R.gives.length cg, .slice an R.given.length cn] 29)).alloc (.cells #[.int .i64 0, .int .i64 0, .bool false, .slice none 0 0, .int .i64 0] 24) := ⟨_, rfl⟩
  have HSZ : Hid (w0.heap.size = w.heap.size + 1 + 1) := by unfold Hid; rw [hw0]; simp
  go_enter Try.func57, Try.ntmps57
  go_upto_region 1 with fail
  rw [← hw0] at b0 b1 hb ⊢
  clear hw0
  have HR : Hid (∀ W, Below w0.heap.size w0 W → RowAt W (.slice al R.kept.log.length cl) R.kept.log.length 1 (R.kept.log.map enc)) := fun W hW => ((HS.out.below hb).below hW).row
  have HB0 : Hid (Box w0 w.heap.size _ _) := b0
  have HB1 : Hid (Box w0 (w.heap.size + 1) _ _) := b1
  have HBW : Hid (Below w.heap.size w w0) := hb
  clear b0 b1 hb
  refine wp_region_free [0, 0, 0, 0, 0, 0, 0, 0, 0, 0, 0, 0, 1, 2, 2] (by kernel_rfl) (by kernel_rfl) (fun h => h) (Below w0.heap.size w0) (Below.refl _ _) (fun V n hV => below_drewN n hV) ?_
  apply Exists.intro
  refine ⟨?_, ?_⟩
  · intro V hV
    have bx := HB0.out.below hV HB0.out.lt
    have x0 := bx.cell 0 _ rfl
    have x1 := bx.cell 1 _ rfl
    have x2 := bx.cell 2 _ rfl
    have x3 := bx.cell 3 _ rfl
    have x4 := bx.cell 4 _ rfl
    have x5 := bx.cell 5 _ rfl
    have x6 := bx.cell 6 _ rfl
    have x7 := bx.cell 7 _ rfl
    have x8 := bx.cell 8 _ rfl
    have x9 := bx.cell 9 _ rfl
    simp only [sel, ↓reduceIte, Nat.reduceEqDiff]
    repeat (go_big_quiet_step (fail))
    refine wpQuiet_nil ?_
    rfl
  · intro n
    simp only [sel, ↓reduceIte, Nat.reduceEqDiff]
    refine wpEarly_cons ?_
    go_wp2_with (at_builtin; refine wpList_append_row _ rfl _ _ 22 rfl w0.heap.size 9 Try.t9 _ 1 16 Try.underlying22 infoStrR zeroStrR sizeStrR bytesStrR rfl (by decide) _ 0 [] rfl (World.ownsRow_nil _ _ _ _) _ R.kept.log.length (R.kept.log.map enc) rfl (HR.out _ (below_drewN n (Below.refl _ _))) (by intro u hu; obtain ⟨x, _, rfl⟩ := List.mem_map.1 hu; rfl) (by unfold maxLen; omega) (by omega) (Nat.le_refl _) ?_)
    intro v5 wB hownB hgB hatB
    try rw [Nat.zero_add, List.nil_append] at hownB
    have hbB : Below w0.heap.size w0 wB := (below_drewN n (Below.refl w0.heap.size w0)).trans ((Below.refl _ _).grown hgB (Nat.le_refl _) (fun k e => by cases e))
    obtain ⟨a5, c5, rfl⟩ := own_formN hownB
    have HBB : Hid (Below w0.heap.size w0 wB) := hbB
    have HOB : Hid (wB.ownsRow w0.heap.size _ _ _ _ _) := hownB
    clear hownB hgB hatB
    refine wpEarly_next hbB fun m => ?_
    refine wpEarly_nil ?_
    clear hbB
    obtain ⟨w6, hw6⟩ : ∃ w6, w6 = wB.drewN m := ⟨_, rfl⟩
    rw [← hw6]
    have hb6 : Below w0.heap.size w0 w6 := by rw [hw6]; exact below_drewN m HBB.out
    have ho6 : w6.ownsRow w0.heap.size 9 1 (.slice a5 R.kept.log.length c5) R.kept.log.length (R.kept.log.map enc) := by rw [hw6]; exact own_drewN m HOB.out
    have e1 := HB1.out.below hb6 HB1.out.lt
    have HEN : Hid (Box (setAll w6 (w.heap.size + 1) 0 [.int .i64 R.kept.view, .int .i64 R.kept.normal, .bool false, .slice a5 R.kept.log.length c5, .int .i64 R.kept.commit]) (w.heap.size + 1) 24 [.int .i64 R.kept.view, .int .i64 R.kept.normal, .bool false, .slice a5 R.kept.log.length c5, .int .i64 R.kept.commit] ∧
        World.ownsRow (setAll w6 (w.heap.size + 1) 0 [.int .i64 R.kept.view, .int .i64 R.kept.normal, .bool false, .slice a5 R.kept.log.length c5, .int .i64 R.kept.commit]) w.heap.size 9 1 (.slice a5 R.kept.log.length c5) R.kept.log.length (R.kept.log.map enc) ∧
        Below w.heap.size w (setAll w6 (w.heap.size + 1) 0 [.int .i64 R.kept.view, .int .i64 R.kept.normal, .bool false, .slice a5 R.kept.log.length c5, .int .i64 R.kept.commit])) := by
      have hs := HSZ.out
      refine ⟨setAll_box e1 _ rfl, setAll_own _ _ _ (own_base ho6 (by omega)) (own_type ho6 e1 (by decide)), ?_⟩
      exact (setAll_beside _ _ _ _ (Beside.of (Below.far HBW.out hb6))).below (Nat.le_refl _) (by omega)
    simp only [setAll] at HEN
    have y0 := e1.cell 0 _ rfl
    have y1 := e1.cell 1 _ rfl
    have y2 := e1.cell 2 _ rfl
    have y3 := e1.cell 3 _ rfl
    have y4 := e1.cell 4 _ rfl
    have f0 := e1.frozen 0
    have f1 := e1.frozen 1
    have f2 := e1.frozen 2
    have f3 := e1.frozen 3
    have f4 := e1.frozen 4
    clear hw6 hb6 ho6 e1 HBB HOB
    go_wp2_with fail
    generalize (((((w6.setCell ⟨w.heap.size + 1, 0, none⟩ (.int .i64 R.kept.view)).setCell ⟨w.heap.size + 1, 1, none⟩ (.int .i64 R.kept.normal)).setCell ⟨w.heap.size + 1, 2, none⟩ (.bool false)).setCell ⟨w.heap.size + 1, 3, none⟩ (.slice a5 R.kept.log.length c5)).setCell ⟨w.heap.size + 1, 4, none⟩ (.int .i64 R.kept.commit)) = w7 at HEN ⊢
    have hR := HEN.out.1
    clear y0 y1 y2 y3 y4 f0 f1 f2 f3 f4
    have y0 := hR.cell 0 _ rfl
    have y1 := hR.cell 1 _ rfl
    have y2 := hR.cell 2 _ rfl
    have y3 := hR.cell 3 _ rfl
    have y4 := hR.cell 4 _ rfl
    clear hR
    exact bodyPost_ret (v := .agg #[.int .i64 R.kept.view, .int .i64 R.kept.normal, .bool false, .slice a5 R.kept.log.length c5, .int .i64 R.kept.commit]) (by clear HEN; simp [results, Try.results57, go_sem, *]) rfl ⟨_, _, rfl, HEN.out.2⟩

end Go.Proofs.Ytmdgkjbiicaljag
