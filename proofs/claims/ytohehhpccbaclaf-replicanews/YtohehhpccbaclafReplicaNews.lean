/- For every number and everything that is kept, the law ReplicaNews answers true: replica.New answers what the document's answer does. No conditions but the form of the claim itself. -/
import Derived.Test.YtohehhpccbaclafReplRead
import Derived.Test.YtohehhpccbaclafNewRef
import Derived.Test.YtohehhpccbaclafReplSame
namespace Go.Proofs.Ytohehhpccbaclaf
open Go.ChangeShapes Go.WideShapes Go.ChangeAt Go.RowKit Go.Deep
open Go.ChangeMaps (open_string shut_string)
set_option linter.unusedVariables false
set_option linter.unusedSimpArgs false
attribute [local go_sem] app_list ext_list get_list byteAt_zero

theorem newr_fits (me : Int) (K : KeptM) (h : TextsIn K.log) : ReplFits (newrR me K) := by
  have nil : TextsIn ([] : List (List UInt8)) := ⟨by simp, fun s hs => by simp at hs⟩
  unfold newrR
  split
  · exact ⟨h, by simp [forgot], by simp [forgot], by simp [forgot], fun k hk => by
      have : k = zeroKept := by simpa [forgot] using hk
      subst this
      exact nil, by simp [forgot]⟩
  · exact ⟨nil, by simp [zeroRepl], by simp [zeroRepl], by simp [zeroRepl], fun k hk => by simp [zeroRepl] at hk, by simp [zeroRepl]⟩

set_option maxRecDepth 4000 in
set_option maxHeartbeats 2000000 in
theorem replicaNews_walk (w : World) (me : Int) (hme : (Lit.int .i64 me).wf = true) (K : KeptM) {cs : Array Value} (h : KeptAt w (.agg cs) K ∧ K.log.length * 16 ≤ 140737488351232) :
    Calls Try.prog 3 #[.int .i64 me, .agg cs] w fun e w' => e = .returned (.bool true) ∧ Below w.heap.size w w' := by
  obtain ⟨h, hz⟩ := h
  have hz' : K.log.length * 16 ≤ 140737488355328 := by omega
  have HT : Hid (TextsIn K.log) := by obtain ⟨vl, _, hs⟩ := h; exact ⟨hz', hs.bounds.2⟩
  have HN : Hid (∀ W, Below w.heap.size w W → Calls _ _ _ W _) := fun W hW => replNew_any me K _ W (h.below hW) hz'
  have HO : Hid (∀ W, Below w.heap.size w W → Calls _ _ _ W _) := fun W hW => replicaOf_any me K _ W (h.below hW) hz'
  have HF : Hid (ReplFits (newrR me K)) := newr_fits me K HT.out
  obtain ⟨vl, hv, hs⟩ := h
  cases hv
  obtain ⟨a, c, rfl, _, _⟩ := hs
  generalize newrR me K = R at *
  generalize newrE me K = ee at *
  obtain ⟨vi, nm, cm, l, ct⟩ := K
  simp only [keptCells] at HN HO ⊢
  have b0 := Box.new w 24 [.int .i64 vi, .int .i64 nm, .bool cm, .slice a l.length c, .int .i64 ct]
  have hb := below_alloc w (.cells #[.int .i64 vi, .int .i64 nm, .bool cm, .slice a l.length c, .int .i64 ct] 24)
  clear hz hz' HT
  go_enter Try.func3, Try.ntmps3
  go_wp2_with fail
  refine (HN.out _ hb).mono ?_
  rintro e w1 ⟨v1, rfl, hn1, hb1⟩
  obtain ⟨al1, cl1, ah1, ch1, aw1, cw1, ag1, cg1, an1, cn1, rfl⟩ := hn1.form
  have b1 := b0.below hb1 b0.lt
  have lx := b1.lt
  have HB1 : Hid (Below w.heap.size w w1) := Below.far hb hb1
  have HN1 : Hid (ReplNew w1 _ _ R) := hn1
  have x0 := b1.cell 0 _ rfl
  have x1 := b1.cell 1 _ rfl
  have x2 := b1.cell 2 _ rfl
  have x3 := b1.cell 3 _ rfl
  have x4 := b1.cell 4 _ rfl
  clear b0 hb hb1 HN hn1
  have c1 := Box.new w1 29 [.int .i64 R.me, .int .i64 R.kept.view, .int .i64 R.kept.normal, .bool R.kept.calm, .slice al1 R.kept.log.length cl1, .int .i64 R.kept.commit, .slice ah1 R.hav.length ch1, .slice aw1 R.wants.length cw1, .slice ag1 R.gives.length cg1, .slice an1 R.given.length cn1]
  have HC1 : Hid (Box _ w1.heap.size _ _) := c1
  have HS1 : Hid (w.heap.size < w1.heap.size) := lx
  clear c1 b1
  go_wp2_with fail
  refine (HO.out _ (Below.up HB1.out _)).mono ?_
  rintro e w2 ⟨v2, rfl, hn2, hb2⟩
  obtain ⟨al2, cl2, ah2, ch2, aw2, cw2, ag2, cg2, an2, cn2, rfl⟩ := hn2.form
  have d1 := HC1.out.below hb2 HC1.out.lt
  have HD1 : Hid (Box w2 w1.heap.size _ _) := d1
  have HR2 : Hid (ReplAt w2 _ R) := hn2.at HF.out
  have HR1 : Hid (ReplAt w2 _ R) := (HN1.out.at HF.out).below (Below.seq (below_alloc _ _) hb2)
  have HB2 : Hid (Below w.heap.size w w2) := Below.far (Below.up HB1.out _) hb2
  have y0 := d1.cell 0 _ rfl
  have y1 := d1.cell 1 _ rfl
  have y2 := d1.cell 2 _ rfl
  have y3 := d1.cell 3 _ rfl
  have y4 := d1.cell 4 _ rfl
  have y5 := d1.cell 5 _ rfl
  have y6 := d1.cell 6 _ rfl
  have y7 := d1.cell 7 _ rfl
  have y8 := d1.cell 8 _ rfl
  have y9 := d1.cell 9 _ rfl
  have ly := d1.lt
  clear hb2 hn2 HO x0 x1 x2 x3 x4 HC1 HN1 HB1 d1 lx
  go_wp2_with fail
  refine (sameReplica_same _ _ _ _ (HR1.out.below (below_alloc _ _)) (HR2.out.below (below_alloc _ _))).mono ?_
  rintro e w3 ⟨rfl, hb3⟩
  have HB3 : Hid (Below w.heap.size w w3) := Below.far (Below.up HB2.out _) hb3
  clear hb3 y0 y1 y2 y3 y4 y5 y6 y7 y8 y9
  go_wp2_with fail
  go_ret
  exact ⟨rfl, HB3.out⟩

theorem replicaNews_own : ownKnob Try.prog.godebug = none := by kernel_rfl
theorem replicaNews_laidOut : laidOutB Try.prog = true := by kernel_rfl

set_option maxRecDepth 100000 in
theorem replicaNews_lifted (os : Os) (started : os.Started) (H : Type) (enc : TypeId × Value → H) :
    ReturnsInHanded {} Try.checked os 3 .any (Rows.replicaNewsSpec.pre6 enc Try.prog Try.f3 Rows.replicaNewsRow.domain false) (Rows.replicaNewsSpec.post enc Try.prog Try.f3 false true false false) := by
  refine returnsInHanded_of_change_sized (C := Try.checked) replicaNews_own started (by kernel_rfl) Try.func3
    (ChangeSpec.witness6 (enc := enc) (C := Try.checked) false ⟨#[], #[.int .i64 0, .agg #[.int .i64 0, .int .i64 0, .bool false, .slice none 0 0, .int .i64 0]], []⟩ 8 (by kernel_rfl) (by kernel_rfl) (by kernel_rfl) (by kernel_rfl)) ?_
  intro W base args ds gs before hval0 hW hcnd hsz0 _
  have hval : ∀ (j : Nat) t v, Try.f3.params[j]? = some t → args[j]? = some v → Value.okWide Try.prog W .any base t v := hval0
  have hsz : (DataW.weightsEach Try.prog (Try.f3.params.toList ++ Rows.replicaNewsSpec.plain.varTypes Try.prog) (ds ++ gs)).all (· ≤ reachBytes) = true := hsz0
  have hW' := hW
  obtain ⟨p, q, hA0, hV, rfl, hfz, hnd⟩ := hW
  have hA : DataW.TrodAll enc Try.prog W 0 (fun _ => true) true Try.f3.params.toList args.toList ds p := hA0
  rw [Try.params3] at hA hval hsz
  obtain ⟨v0, vs0, d0, ds0, p0, q0, hargs, rfl, rfl, h0, r0⟩ := trodAll_cons hA
  obtain ⟨v1, vs1, d1, ds1, p1, q1, rfl, rfl, rfl, h1, r1⟩ := trodAll_cons r0
  obtain ⟨rfl, rfl, rfl⟩ := trodAll_nil r1
  obtain rfl : args = #[v0, v1] := by cases args; simp_all
  obtain ⟨rfl, rfl⟩ := trodVars_none hV
  have k0 := h0
  have lt0 : ∀ x ∈ p0, x.block < W.heap.size := by obtain ⟨m, hm⟩ := k0; exact DataW.trod_lt m _ _ _ hm
  have k1 := h1
  have lt1 : ∀ x ∈ p1, x.block < W.heap.size := by obtain ⟨m, hm⟩ := k1; exact DataW.trod_lt m _ _ _ hm
  obtain ⟨a0, rfl, rfl, rfl, w0⟩ := open_int Try.underlying3 (hval 0 3 v0 rfl rfl) h0
  obtain ⟨cs1, rfl, _⟩ := okWide_struct Try.underlying24 (hval 1 24 v1 rfl rfl)
  obtain ⟨fu1, hf1⟩ := h1
  obtain ⟨x1, hx1⟩ := arg_kept hf1 (within_of hsz (j := 1) rfl rfl)
  clear hA0 hval0 hsz hsz0
  refine (replicaNews_walk W a0 w0 x1 hx1).mono fun e W' ⟨he, bel⟩ => ?_
  subst he
  exact ⟨_, rfl, _, _, _, [], _, [], hW', trodAll_mk1 (shut_bool Try.underlying4 _), (trodAll_cons_mk (Below.trod replicaNews_laidOut (by kernel_rfl) (of_decide_eq_true (by kernel_rfl)) k0 bel lt0) (trodAll_cons_mk (Below.trod replicaNews_laidOut (by kernel_rfl) (of_decide_eq_true (by kernel_rfl)) k1 bel lt1) trodAll_mk0)), rfl, bel.frame _, fun h => by cases h⟩

theorem replicaNews_holds : Rows.ReplicaNewsSaid :=
  OpenClaim.holds_of_wide 3 Try.f3 rfl rfl rfl rfl rfl rfl rfl ⟨rfl, rfl, rfl, rfl, rfl⟩ rfl rfl rfl rfl rfl (by kernel_rfl) Try.func3 (by kernel_rfl)
    (of_decide_eq_true (by kernel_rfl)) (by unfold Func.isWrapper; first | (rw [if_pos (by decide +kernel)]; kernel_rfl) | (rw [if_neg (by decide +kernel)]; exact ⟨rfl, rfl⟩))
    (fun os started H enc _ => replicaNews_lifted os started H enc)
#print axioms replicaNews_holds
end Go.Proofs.Ytohehhpccbaclaf
