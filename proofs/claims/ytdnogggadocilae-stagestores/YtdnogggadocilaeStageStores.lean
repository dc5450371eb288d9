/- For every list of slots, whatever is kept and every number, the law StageStores answers true: stage.Store answers what the document says. No conditions but the form of the claim itself. -/
import Derived.Test.YtdnogggadocilaeStoreGo
import Derived.Test.YtdnogggadocilaeStoreRef
import Derived.Test.YtdnogggadocilaeSameTx
import Derived.Test.YtdnogggadocilaeKeptRead
namespace Go.Proofs.Ytdnogggadocilae
open Go.ChangeShapes Go.WideShapes Go.ChangeAt Go.RowKit Go.Deep
open Go.ChangeMaps (open_string shut_string)
set_option linter.unusedVariables false
set_option linter.unusedSimpArgs false
attribute [local go_sem] app_list ext_list get_list byteAt_zero

theorem storeL_fit (l : List (List UInt8)) (K : KeptM) (u : Int) (h1 : l.length ≤ 140737488355328) (h2 : ∀ s ∈ l, s.length ≤ 140737488355328) : (storeL l K u).length ≤ 140737488355328 ∧ ∀ s ∈ storeL l K u, s.length ≤ 140737488355328 := by
  by_cases h : storeE l K u = 0
  · rw [store_set l K u h]
    refine ⟨by simpa using h1, fun s hs => ?_⟩
    rcases List.mem_or_eq_of_mem_set hs with hs | rfl
    · exact h2 s hs
    · have hk : keptFault K = 0 := by
        unfold storeE at h
        split at h
        · rename_i q; exact absurd h q
        · split at h
          · omega
          · split at h
            · rename_i q; exact absurd h q
            · rename_i q; simpa using q
      have := storeB_le K (loadG l + 1) u
      have := keptB_len K (loadG l + 1) hk
      omega
  · rw [store_no l K u h]
    exact ⟨by simp, fun s hs => by simp at hs⟩

set_option maxHeartbeats 2000000 in
theorem stageStores_walk (w : World) (l : List (List UInt8)) {a : Option Addr} {n c : Nat} (h : Strs w (.slice a n c) l ∧ l.length * 16 ≤ 140737488351232) (K : KeptM) {cs : Array Value} (hk : KeptAt w (.agg cs) K ∧ K.log.length * 16 ≤ 140737488351232) (u : Int) (hu : (Lit.int .i64 u).wf = true) :
    Calls Try.prog 6 #[.slice a n c, .agg cs, .int .i64 u] w fun e w' => e = .returned (.bool true) ∧ Below w.heap.size w w' := by
  obtain ⟨h, hz⟩ := h
  obtain ⟨hk, _⟩ := hk
  have HST : Hid (Strs w (.slice a n c) l) := h
  have hbd := h.bounds
  have HFL : Hid (l.length ≤ 140737488355328 ∧ ∀ s ∈ l, s.length ≤ 140737488355328) := hbd
  have HFS : Hid ((storeL l K u).length ≤ 140737488355328 ∧ ∀ s ∈ storeL l K u, s.length ≤ 140737488355328) := storeL_fit l K u hbd.1 hbd.2
  have HG : Hid (∀ W v', Below w.heap.size w W → Strs W v' l → Calls _ _ _ W _) := fun W v' hW hs => stageStore_any l v' K _ u W hs (hk.below hW)
  have HR : Hid (∀ W, Below w.heap.size w W → Calls _ _ _ W _) := fun W hW => storedOf_any l _ K _ u W (h.below hW) (hk.below hW)
  have HRW : Hid (∀ W, Below w.heap.size w W → RowAt W (.slice a n c) l.length 1 (l.map enc)) := fun W hW => (h.below hW).row
  obtain ⟨vl, hv, hs⟩ := hk
  obtain ⟨a1, c1, rfl, hlx1, hcx1⟩ := hs
  cases hv
  obtain ⟨vw, nm, cm, lg, ct⟩ := K
  simp only at HG HR HFS ⊢
  obtain ⟨E, hE⟩ : ∃ E, storeE l ⟨vw, nm, cm, lg, ct⟩ u = E := ⟨_, rfl⟩
  obtain ⟨R, hR⟩ : ∃ R, storeL l ⟨vw, nm, cm, lg, ct⟩ u = R := ⟨_, rfl⟩
  rw [hE, hR] at HG HR
  rw [hR] at HFS
  clear hE hR hbd h hcx1 hlx1 hu
  have b0 := Box.new w 24 [.int .i64 vw, .int .i64 nm, .bool cm, .slice a1 lg.length c1, .int .i64 ct]
  have hb := below_alloc w (.cells #[.int .i64 vw, .int .i64 nm, .bool cm, .slice a1 lg.length c1, .int .i64 ct] 24)
  obtain ⟨w0, hw0⟩ : ∃ w0, w0 = w.alloc (.cells #[.int .i64 vw, .int .i64 nm, .bool cm, .slice a1 lg.length c1, .int .i64 ct] 24) := ⟨_, rfl⟩
  go_enter Try.func6, Try.ntmps6
  go_upto_region 1 with fail
  rw [← hw0] at b0 hb ⊢
  clear hw0
  have HB0 : Hid (Box w0 w.heap.size _ _) := b0
  have HW0 : Hid (Below w.heap.size w w0) := hb
  clear b0 hb
  go_wp2_with (at_builtin; refine wpList_append_row _ rfl _ _ 22 rfl w0.heap.size 9 Try.t9 _ 1 16 Try.underlying22 infoStr zeroStr sizeStr bytesStr rfl (by decide) _ 0 [] rfl (World.ownsRow_nil _ _ _ _) _ l.length (l.map enc) rfl (HRW.out _ HW0.out) (by intro u hu; obtain ⟨x, _, rfl⟩ := List.mem_map.1 hu; rfl) (by unfold maxLen; omega) (by omega) (Nat.le_refl _) ?_)
  intro v1 w1 hown1 hg1 hat1
  try rw [Nat.zero_add, List.nil_append] at hown1
  have hb1 : Below w0.heap.size w0 w1 := (Below.refl _ _).grown hg1 (Nat.le_refl _) (fun k e => by cases e)
  have hs1 : Strs w1 v1 l := Strs.of_own hown1 HFL.out.1 HFL.out.2
  obtain ⟨a2, c2, rfl⟩ := own_formN hown1
  have hb0 := HB0.out.below hb1 HB0.out.lt
  have HW1 : Hid (Below w.heap.size w w1) := Below.far HW0.out hb1
  have HS1 : Hid (Strs w1 _ l) := hs1
  have x0 := hb0.cell 0 _ rfl
  have x1 := hb0.cell 1 _ rfl
  have x2 := hb0.cell 2 _ rfl
  have x3 := hb0.cell 3 _ rfl
  have x4 := hb0.cell 4 _ rfl
  have lx := hb0.lt
  have HB1 : Hid (Box w1 w.heap.size _ _) := hb0
  clear hown1 hg1 hat1 hb1 hs1 hb0 HB0 HW0 HRW
  go_wp2_with fail
  refine (HG.out _ _ HW1.out HS1.out).mono ?_
  rintro e w2 ⟨v2, rfl, hn2, hb2⟩
  have hs2 := Strs.of_own hn2 HFS.out.1 HFS.out.2
  obtain ⟨a3, c3, rfl⟩ := own_formN hn2
  have hb0 := HB1.out.below hb2 HB1.out.lt
  have HW2 : Hid (Below w.heap.size w w2) := Below.far HW1.out hb2
  have HS2 : Hid (Strs w2 (.slice a2 l.length c2) l) := HS1.out.below hb2
  have HT2 : Hid (Strs w2 _ R) := hs2
  clear x0 x1 x2 x3 x4 lx
  have x0 := hb0.cell 0 _ rfl
  have x1 := hb0.cell 1 _ rfl
  have x2 := hb0.cell 2 _ rfl
  have x3 := hb0.cell 3 _ rfl
  have x4 := hb0.cell 4 _ rfl
  have lx := hb0.lt
  clear hb0 hb2 HB1 HW1 HS1 hn2 hs2 HG
  go_wp2_with fail
  refine (HR.out _ HW2.out).mono ?_
  rintro e w3 ⟨v3, rfl, hn3, hb3⟩
  have hs3 := Strs.of_own hn3 HFS.out.1 HFS.out.2
  obtain ⟨a4, c4, rfl⟩ := own_formN hn3
  have HW3 : Hid (Below w.heap.size w w3) := Below.far HW2.out hb3
  have HS3 : Hid (Strs w3 (.slice a2 l.length c2) l) := HS2.out.below hb3
  have HT3 : Hid (Strs w3 (.slice a3 R.length c3) R) := HT2.out.below hb3
  have HU3 : Hid (Strs w3 (.slice a4 R.length c4) R) := hs3
  have HV3 : Hid (Strs w3 (.slice a n c) l) := HST.out.below HW3.out
  clear hn3 hb3 hs3 HW2 HS2 HT2 HR x0 x1 x2 x3 x4 lx
  have q1 : (E == E) = true := by simp
  go_wp2_with fail
  refine (sameTexts_any _ _ _ _ _ HT3.out HU3.out).mono ?_
  rintro e w4 ⟨rfl, n4, rfl⟩
  rw [show decide (R = R) = true by simp]
  go_wp2_with fail
  refine (sameTexts_any _ _ _ _ _ (HS3.out.below (below_drew_n _ _)) (HV3.out.below (below_drew_n _ _))).mono ?_
  rintro e w5 ⟨rfl, n5, rfl⟩
  rw [show decide (l = l) = true by simp]
  go_wp2_with fail
  go_ret
  exact ⟨rfl, Below.far HW3.out (below_drew_n _ _)⟩

theorem stageStores_own : ownKnob Try.prog.godebug = none := by kernel_rfl
theorem stageStores_laidOut : laidOutB Try.prog = true := by kernel_rfl

set_option maxRecDepth 100000 in
theorem stageStores_lifted (os : Os) (started : os.Started) (H : Type) (enc : TypeId × Value → H) :
    ReturnsInHanded {} Try.checked os 6 .any (Rows.stageStoresSpec.pre6 enc Try.prog Try.f6 Rows.stageStoresRow.domain false) (Rows.stageStoresSpec.post enc Try.prog Try.f6 false true false false) := by
  refine returnsInHanded_of_change_sized (C := Try.checked) stageStores_own started (by kernel_rfl) Try.func6
    (ChangeSpec.witness6 (enc := enc) (C := Try.checked) false ⟨#[], #[.slice none 0 0, .agg #[.int .i64 0, .int .i64 0, .bool false, .slice none 0 0, .int .i64 0], .int .i64 0], []⟩ 8 (by kernel_rfl) (by kernel_rfl) (by kernel_rfl) (by kernel_rfl)) ?_
  intro W base args ds gs before hval0 hW hcnd hsz0 _
  have hval : ∀ (j : Nat) t v, Try.f6.params[j]? = some t → args[j]? = some v → Value.okWide Try.prog W .any base t v := hval0
  have hsz : (DataW.weightsEach Try.prog (Try.f6.params.toList ++ Rows.stageStoresSpec.plain.varTypes Try.prog) (ds ++ gs)).all (· ≤ reachBytes) = true := hsz0
  have hW' := hW
  obtain ⟨p, q, hA0, hV, rfl, hfz, hnd⟩ := hW
  have hA : DataW.TrodAll enc Try.prog W 0 (fun _ => true) true Try.f6.params.toList args.toList ds p := hA0
  rw [Try.params6] at hA hval hsz
  obtain ⟨v0, vs0, d0, ds0, p0, q0, hargs, rfl, rfl, h0, r0⟩ := trodAll_cons hA
  obtain ⟨v1, vs1, d1, ds1, p1, q1, rfl, rfl, rfl, h1, r1⟩ := trodAll_cons r0
  obtain ⟨v2, vs2, d2, ds2, p2, q2, rfl, rfl, rfl, h2, r2⟩ := trodAll_cons r1
  obtain ⟨rfl, rfl, rfl⟩ := trodAll_nil r2
  obtain rfl : args = #[v0, v1, v2] := by cases args; simp_all
  obtain ⟨rfl, rfl⟩ := trodVars_none hV
  have k0 := h0
  have lt0 : ∀ x ∈ p0, x.block < W.heap.size := by obtain ⟨m, hm⟩ := k0; exact DataW.trod_lt m _ _ _ hm
  have k1 := h1
  have lt1 : ∀ x ∈ p1, x.block < W.heap.size := by obtain ⟨m, hm⟩ := k1; exact DataW.trod_lt m _ _ _ hm
  have k2 := h2
  have lt2 : ∀ x ∈ p2, x.block < W.heap.size := by obtain ⟨m, hm⟩ := k2; exact DataW.trod_lt m _ _ _ hm
  obtain ⟨a0, n0, c0, rfl⟩ := okWide_slice Try.underlying22 (hval 0 22 v0 rfl rfl)
  obtain ⟨fu0, hf0⟩ := h0
  obtain ⟨x0, hx0⟩ := arg_strs hf0 (within_of hsz (j := 0) rfl rfl)
  obtain ⟨cs1, rfl, _⟩ := okWide_struct Try.underlying24 (hval 1 24 v1 rfl rfl)
  obtain ⟨fu1, hf1⟩ := h1
  obtain ⟨x1, hx1⟩ := arg_kept hf1 (within_of hsz (j := 1) rfl rfl)
  obtain ⟨a2, rfl, rfl, rfl, w2⟩ := open_int Try.underlying3 (hval 2 3 v2 rfl rfl) h2
  clear hA0 hval0 hsz hsz0
  refine (stageStores_walk W x0 hx0 x1 hx1 a2 w2).mono fun e W' ⟨he, bel⟩ => ?_
  subst he
  exact ⟨_, rfl, _, _, _, [], _, [], hW', trodAll_mk1 (shut_bool Try.underlying4 _), (trodAll_cons_mk (Below.trod stageStores_laidOut (by kernel_rfl) (of_decide_eq_true (by kernel_rfl)) k0 bel lt0) (trodAll_cons_mk (Below.trod stageStores_laidOut (by kernel_rfl) (of_decide_eq_true (by kernel_rfl)) k1 bel lt1) (trodAll_cons_mk (Below.trod stageStores_laidOut (by kernel_rfl) (of_decide_eq_true (by kernel_rfl)) k2 bel lt2) trodAll_mk0))), rfl, bel.frame _, fun h => by cases h⟩

theorem stageStores_holds : Rows.StageStoresSaid :=
  OpenClaim.holds_of_wide 6 Try.f6 rfl rfl rfl rfl rfl rfl rfl ⟨rfl, rfl, rfl, rfl, rfl⟩ rfl rfl rfl rfl rfl (by kernel_rfl) Try.func6 (by kernel_rfl)
    (of_decide_eq_true (by kernel_rfl)) (by unfold Func.isWrapper; first | (rw [if_pos (by decide +kernel)]; kernel_rfl) | (rw [if_neg (by decide +kernel)]; exact ⟨rfl, rfl⟩))
    (fun os started H enc _ => stageStores_lifted os started H enc)
#print axioms stageStores_holds
end Go.Proofs.Ytdnogggadocilae
