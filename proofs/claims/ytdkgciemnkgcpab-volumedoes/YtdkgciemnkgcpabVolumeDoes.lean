/- For every volume v and every operation o, the law VolumeDoes answers true: volume.Do answers what the document says, and leaves v as it was. No conditions but the form of the claim itself. -/
import Derived.Test.YtdkgciemnkgcpabVolDev
namespace Go.Proofs.Ytdkgciemnkgcpab
open Go.ChangeShapes Go.WideShapes Go.ChangeAt Go.RowKit Go.Deep
open Go.ChangeMaps (open_string shut_string)
set_option linter.unusedVariables false
set_option linter.unusedSimpArgs false
attribute [local go_sem] app_list ext_list get_list byteAt_zero

set_option maxHeartbeats 1000000 in
theorem volumeDoes_walk (w : World) (V : VolM) {cs : Array Value} (h : VolAt w (.agg cs) V ∧ VolFits V) (o : OpM) {co : Array Value} (h' : co = (opCells o).toArray ∧ o.data.length ≤ 140737488351232) :
    Calls Try.prog 7 #[.agg cs, .agg co] w fun e w' => e = .returned (.bool true) ∧ Below w.heap.size w w' := by
  obtain ⟨hv, hf⟩ := h
  obtain ⟨rfl, hl⟩ := h'
  have hv' := hv
  obtain ⟨vn, vs, hcs, _, _⟩ := hv'
  cases hcs
  unfold opCells
  have b0 : Box ((w.alloc (.cells #[vn, vs] 25)).alloc (.cells (opCells o).toArray 38)) w.heap.size 25 [vn, vs] := (Box.new w _ [vn, vs]).alloc _
  have b1 : Box ((w.alloc (.cells #[vn, vs] 25)).alloc (.cells (opCells o).toArray 38)) (w.heap.size + 1) 38 (opCells o) := by
    have := Box.new (w.alloc (.cells #[vn, vs] 25)) 38 (opCells o)
    simpa using this
  go_enter Try.func7, Try.ntmps7
  go_wp2_with fail
  refine (volumeCopy_any V _ _ (hv.below (below_alloc2 _ _ _)) hf).mono ?_
  rintro e w1 ⟨v1, rfl, hn1, hb1⟩
  have hk1 := hn1.at hf hv.texts.1 hv.texts.2
  obtain ⟨a1, c1, a2, c2, rfl⟩ := hn1.form
  have b0' := b0.below hb1 (by simp; omega)
  have b1' := b1.below hb1 (by simp)
  have hbw := Below.seq (below_alloc2 w (.cells #[vn, vs] 25) (.cells (opCells o).toArray 38)) hb1
  have l0 := b0'.lt
  have l1 := b1'.lt
  have x0 := b1'.cell 0 _ rfl
  have x1 := b1'.cell 1 _ rfl
  have x2 := b1'.cell 2 _ rfl
  have x3 := b1'.cell 3 _ rfl
  clear b0 b1 hn1 hb1
  go_wp2_with fail
  have b2 := Box.new w1 25 [.slice a1 V.now.length c1, .slice a2 V.snaps.length c2]
  refine (volDo_any V o _ _ (hk1.below (below_alloc _ _)) (by omega)).mono ?_
  rintro e w2 ⟨v2, rfl, hn2, hb2⟩
  have hr2 := doV_at hn2
  obtain ⟨a3, c3, a4, c4, rfl⟩ := hn2.form
  have d0 := (b0'.alloc (.cells #[.slice a1 V.now.length c1, .slice a2 V.snaps.length c2] 25)).below hb2 (by simp; omega)
  have d1 := (b1'.alloc (.cells #[.slice a1 V.now.length c1, .slice a2 V.snaps.length c2] 25)).below hb2 (by simp; omega)
  have d2 := b2.below hb2 (by simp)
  have hk2 := hk1.below ((below_alloc w1 _).trans (hb2.mono (by simp)))
  have hbw2 := Below.seq (Below.seq hbw (below_alloc w1 _)) hb2
  clear b0' b1' b2 x0 x1 x2 x3 hn2 hb2 hk1 hbw l0 l1
  have y0 := d0.cell 0 _ rfl
  have y1 := d0.cell 1 _ rfl
  have x0 := d1.cell 0 _ rfl
  have x1 := d1.cell 1 _ rfl
  have x2 := d1.cell 2 _ rfl
  have x3 := d1.cell 3 _ rfl
  have l0 := d0.lt
  have l1 := d1.lt
  have l2 := d2.lt
  unfold repVal
  go_wp2_with fail
  have b3 : Box ((w2.alloc (.cells #[.slice a3 (doV V o).now.length c3, .slice a4 (doV V o).snaps.length c4] 25)).alloc (.cells #[.int .i64 (doR V o).code, .int .i64 (doR V o).n, .string ⟨(doR V o).data.toArray⟩] 42)) w2.heap.size 25 [.slice a3 (doV V o).now.length c3, .slice a4 (doV V o).snaps.length c4] := (Box.new w2 _ _).alloc _
  have b4 : Box ((w2.alloc (.cells #[.slice a3 (doV V o).now.length c3, .slice a4 (doV V o).snaps.length c4] 25)).alloc (.cells #[.int .i64 (doR V o).code, .int .i64 (doR V o).n, .string ⟨(doR V o).data.toArray⟩] 42)) (w2.heap.size + 1) 42 [.int .i64 (doR V o).code, .int .i64 (doR V o).n, .string ⟨(doR V o).data.toArray⟩] := by
    have := Box.new (w2.alloc (.cells #[.slice a3 (doV V o).now.length c3, .slice a4 (doV V o).snaps.length c4] 25)) 42 [.int .i64 (doR V o).code, .int .i64 (doR V o).n, .string ⟨(doR V o).data.toArray⟩]
    simpa using this
  refine (didOf_any V o _ _ ((hv.below hbw2).below (below_alloc2 _ _ _)) (by omega)).mono ?_
  rintro e w3 ⟨v3, rfl, hn3, hb3⟩
  have hr3 := doV_at hn3
  obtain ⟨a5, c5, a6, c6, rfl⟩ := hn3.form
  have ab := below_alloc2 w2 (.cells #[.slice a3 (doV V o).now.length c3, .slice a4 (doV V o).snaps.length c4] 25) (.cells #[.int .i64 (doR V o).code, .int .i64 (doR V o).n, .string ⟨(doR V o).data.toArray⟩] 42)
  have hb23 : Below w2.heap.size w2 w3 := ab.trans (hb3.mono (by simp; omega))
  have f0 := d0.below hb23 l0
  have f2 := d2.below hb23 l2
  have f3 := b3.below hb3 (by simp; omega)
  have f4 := b4.below hb3 (by simp)
  have hr23 := hr2.below hb23
  have hk3 := hk2.below hb23
  have hv3 := hv.below (Below.seq hbw2 hb23)
  have hbw3 := Below.seq hbw2 hb23
  clear d0 d1 d2 b3 b4 ab hb3 hb23 hbw2 hk2 hr2 hn3 x0 x1 x2 x3 y0 y1 l0 l1 l2
  have y0 := f0.cell 0 _ rfl
  have y1 := f0.cell 1 _ rfl
  have y2 := f2.cell 0 _ rfl
  have y3 := f2.cell 1 _ rfl
  have y4 := f3.cell 0 _ rfl
  have y5 := f3.cell 1 _ rfl
  have y6 := f4.cell 0 _ rfl
  have y7 := f4.cell 1 _ rfl
  have y8 := f4.cell 2 _ rfl
  have l0 := f0.lt
  have l2 := f2.lt
  have l3 := f3.lt
  have l4 := f4.lt
  unfold repVal
  go_wp2_with fail
  have ab := below_alloc2 w3 (.cells #[.slice a5 (doV V o).now.length c5, .slice a6 (doV V o).snaps.length c6] 25) (.cells #[.int .i64 (doR V o).code, .int .i64 (doR V o).n, .string ⟨(doR V o).data.toArray⟩] 42)
  refine (sameVolume_any (doV V o) (doV V o) _ _ _ (by exact hr23.below ab) (by exact hr3.below ab)).mono ?_
  rintro e w4 ⟨rfl, hb4⟩
  rw [show (decide ((doV V o).now = (doV V o).now) && decide ((doV V o).snaps = (doV V o).snaps)) = true by simp]
  have hb34 := ab.trans (hb4.mono (by simp; omega))
  have g0 := f0.below hb34 l0
  have g2 := f2.below hb34 l2
  have hk4 := hk3.below hb34
  have hv4 := hv3.below hb34
  have hbw4 := Below.seq hbw3 hb34
  clear f0 f2 f3 f4 ab hb4 hb34 hbw3 hk3 hv3 hr23 hr3 y0 y1 y2 y3 y4 y5 y6 y7 y8 l0 l2 l3 l4
  have y0 := g0.cell 0 _ rfl
  have y1 := g0.cell 1 _ rfl
  have y2 := g2.cell 0 _ rfl
  have y3 := g2.cell 1 _ rfl
  go_wp2_with fail
  refine (sameVolume_any V V _ _ _ (by exact hk4) (by exact hv4)).mono ?_
  rintro e w5 ⟨rfl, hb5⟩
  rw [show (decide (V.now = V.now) && decide (V.snaps = V.snaps)) = true by simp]
  go_wp2_with fail
  go_ret
  exact ⟨rfl, Below.seq hbw4 hb5⟩

theorem volumeDoes_own : ownKnob Try.prog.godebug = none := by kernel_rfl
theorem volumeDoes_laidOut : laidOutB Try.prog = true := by kernel_rfl

set_option maxRecDepth 100000 in
theorem volumeDoes_lifted (os : Os) (started : os.Started) (H : Type) (enc : TypeId × Value → H) :
    ReturnsInHanded {} Try.checked os 7 .any (Rows.volumeDoesSpec.pre6 enc Try.prog Try.f7 Rows.volumeDoesRow.domain false) (Rows.volumeDoesSpec.post enc Try.prog Try.f7 false true false false) := by
  refine returnsInHanded_of_change_sized (C := Try.checked) volumeDoes_own started (by kernel_rfl) Try.func7
    (ChangeSpec.witness6 (enc := enc) (C := Try.checked) false ⟨#[], #[.agg #[.slice none 0 0, .slice none 0 0], .agg #[.int .i64 0, .int .i64 0, .int .i64 0, .string ByteArray.empty]], []⟩ 8 (by kernel_rfl) (by kernel_rfl) (by kernel_rfl) (by kernel_rfl)) ?_
  intro W base args ds gs before hval0 hW hcnd hsz0 _
  have hval : ∀ (j : Nat) t v, Try.f7.params[j]? = some t → args[j]? = some v → Value.okWide Try.prog W .any base t v := hval0
  have hsz : (DataW.weightsEach Try.prog (Try.f7.params.toList ++ Rows.volumeDoesSpec.plain.varTypes Try.prog) (ds ++ gs)).all (· ≤ reachBytes) = true := hsz0
  have hW' := hW
  obtain ⟨p, q, hA0, hV, rfl, hfz, hnd⟩ := hW
  have hA : DataW.TrodAll enc Try.prog W 0 (fun _ => true) true Try.f7.params.toList args.toList ds p := hA0
  rw [Try.params7] at hA hval hsz
  obtain ⟨v0, vs0, d0, ds0, p0, q0, hargs, rfl, rfl, h0, r0⟩ := trodAll_cons hA
  obtain ⟨v1, vs1, d1, ds1, p1, q1, rfl, rfl, rfl, h1, r1⟩ := trodAll_cons r0
  obtain ⟨rfl, rfl, rfl⟩ := trodAll_nil r1
  obtain rfl : args = #[v0, v1] := by cases args; simp_all
  obtain ⟨rfl, rfl⟩ := trodVars_none hV
  have k0 := h0
  have lt0 : ∀ x ∈ p0, x.block < W.heap.size := by obtain ⟨m, hm⟩ := k0; exact DataW.trod_lt m _ _ _ hm
  have k1 := h1
  have lt1 : ∀ x ∈ p1, x.block < W.heap.size := by obtain ⟨m, hm⟩ := k1; exact DataW.trod_lt m _ _ _ hm
  obtain ⟨cs0, rfl, _⟩ := okWide_struct Try.underlying25 (hval 0 25 v0 rfl rfl)
  obtain ⟨fu0, hf0⟩ := h0
  obtain ⟨x0, hx0⟩ := arg_vol hf0 (within_of hsz (j := 0) rfl rfl)
  obtain ⟨cs1, rfl, _⟩ := okWide_struct Try.underlying38 (hval 1 38 v1 rfl rfl)
  obtain ⟨fu1, hf1⟩ := h1
  obtain ⟨x1, hx1⟩ := arg_op hf1 (within_of hsz (j := 1) rfl rfl)
  clear hA0 hval0 hsz hsz0
  refine (volumeDoes_walk W x0 hx0 x1 hx1).mono fun e W' ⟨he, bel⟩ => ?_
  subst he
  exact ⟨_, rfl, _, _, _, [], _, [], hW', trodAll_mk1 (shut_bool Try.underlying4 _), (trodAll_cons_mk (Below.trod volumeDoes_laidOut (by kernel_rfl) (of_decide_eq_true (by kernel_rfl)) k0 bel lt0) (trodAll_cons_mk (Below.trod volumeDoes_laidOut (by kernel_rfl) (of_decide_eq_true (by kernel_rfl)) k1 bel lt1) trodAll_mk0)), rfl, bel.frame _, fun h => by cases h⟩

theorem volumeDoes_holds : Rows.VolumeDoesSaid :=
  OpenClaim.holds_of_wide 7 Try.f7 rfl rfl rfl rfl rfl rfl rfl ⟨rfl, rfl, rfl, rfl, rfl⟩ rfl rfl rfl rfl rfl (by kernel_rfl) Try.func7 (by kernel_rfl)
    (of_decide_eq_true (by kernel_rfl)) (by unfold Func.isWrapper; first | (rw [if_pos (by decide +kernel)]; kernel_rfl) | (rw [if_neg (by decide +kernel)]; exact ⟨rfl, rfl⟩))
    (fun os started H enc _ => volumeDoes_lifted os started H enc)
#print axioms volumeDoes_holds
end Go.Proofs.Ytdkgciemnkgcpab
