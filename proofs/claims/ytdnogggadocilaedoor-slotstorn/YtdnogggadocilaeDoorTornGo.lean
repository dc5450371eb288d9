/- The walk of the law SlotsTorn. -/
import Derived.Test.YtdnogggadocilaeDoorKeptRaw
import Derived.Test.YtdnogggadocilaeDoorStoreGo
import Derived.Test.YtdnogggadocilaeDoorSlotsGo
import Derived.Test.YtdnogggadocilaeDoorRead
namespace Go.Proofs.YtdnogggadocilaeDoor
open Go.RowKit Go.ChangeShapes Go.WideShapes Go.ChangeAt
set_option linter.unusedVariables false
set_option linter.unusedSimpArgs false
attribute [local go_sem] app_list ext_list get_list byteAt_zero

theorem enter_new (us : Array Value) (w : World) : (callFunc 7 us).run Tryd.prog w = .ok (.enter 7 us) w := by kernel_rfl
theorem enter_store (us : Array Value) (w : World) : (callFunc 6 us).run Tryd.prog w = .ok (.enter 6 us) w := by kernel_rfl

theorem keptNew_at {W : World} {B : Nat} {v : Value} {K : KeptM} (hK : keptFault K = 0) (h : KeptNew W B v K) : KeptAt W v K :=
  have m := keptMay_of K hK
  h.at (by have := m.len; omega) (fun x hx => by have := decE_len x (m.log x hx); omega)

set_option maxRecDepth 10000 in
set_option maxHeartbeats 8000000 in
theorem slotsTorn_in (w : World) (l m : List RawM) (n u : Int) (h0 : -9223372036854775808 ≤ n) (h1 : n ≤ 9223372036854775807) (h2 : -9223372036854775808 ≤ u) (h3 : u ≤ 9223372036854775807) {v v' : Value} (h : Raws w v l) (h' : Raws w v' m) (ht : Tab w) :
    Calls Tryd.prog 3 #[v, v', .int .i64 n, .int .i64 u] w fun e w' => e = .returned (.bool true) ∧ Below w.heap.size w w' := by
  have HA : Hid (∀ W, Below w.heap.size w W → Calls _ _ _ W _) := fun W hW => keptRaw_any l n _ W (h.below hW) (ht.below hW) h0 h1
  have HB : Hid (∀ W k, Below w.heap.size w W → -9223372036854775808 ≤ k → k ≤ 9223372036854775807 → Calls _ _ _ W _) := fun W k hW k0 k1 => keptRaw_any m k _ W (h'.below hW) (ht.below hW) k0 k1
  have HFA : Hid (keptFault (keptRaw l n) = 0) := keptRaw_ok l n
  have HFB : Hid (∀ k, keptFault (keptRaw m k) = 0) := keptRaw_ok m
  obtain ⟨a, c, rfl, _⟩ := h
  obtain ⟨a', c', rfl, _⟩ := h'
  obtain ⟨A, hA⟩ : ∃ A, keptRaw l n = A := ⟨_, rfl⟩
  rw [hA] at HA HFA
  clear hA ht
  go_enter Tryd.func3, Tryd.ntmps3
  go_wp2_with fail
  refine (HA.out _ (Below.refl _ _)).mono ?_
  rintro e w1 ⟨v1, rfl, hn1, hb1⟩
  have hr1 := keptNew_at HFA.out hn1
  obtain ⟨a1, c1, rfl⟩ := hn1.form
  have B9 := Box.new w1 25 [.int .i64 A.view, .int .i64 A.normal, .bool A.calm, .slice a1 A.log.length c1, .int .i64 A.commit]
  have hw1 := Below.up hb1 (.cells #[.int .i64 A.view, .int .i64 A.normal, .bool A.calm, .slice a1 A.log.length c1, .int .i64 A.commit] 25)
  have hr1' := hr1.below (below_alloc w1 (.cells #[.int .i64 A.view, .int .i64 A.normal, .bool A.calm, .slice a1 A.log.length c1, .int .i64 A.commit] 25))
  obtain ⟨w2, hw2⟩ : ∃ w2, w2 = w1.alloc (.cells #[.int .i64 A.view, .int .i64 A.normal, .bool A.calm, .slice a1 A.log.length c1, .int .i64 A.commit] 25) := ⟨_, rfl⟩
  go_upto_region 2 with fail
  rw [← hw2] at B9 hw1 hr1' ⊢
  obtain ⟨b9, hb9⟩ : ∃ b9, w1.heap.size = b9 := ⟨_, rfl⟩
  rw [hb9] at B9 ⊢
  have HB9 : Hid (Box w2 b9 _ _) := B9
  have HW2 : Hid (Below w.heap.size w w2) := hw1
  have HR2 : Hid (KeptAt w2 _ A) := hr1'
  clear hw2 hb9 B9 hw1 hr1 hr1' hn1 hb1 HA
  go_wp2_with fail
  have hwr : -9223372036854775808 ≤ wrap64 (n + 1) ∧ wrap64 (n + 1) ≤ 9223372036854775807 := by unfold wrap64; omega
  obtain ⟨n1, hn1⟩ : ∃ n1, wrap64 (n + 1) = n1 := ⟨_, rfl⟩
  rw [hn1] at hwr ⊢
  have HBn : Hid (Calls _ _ _ w2 _) := HB.out w2 n1 HW2.out hwr.1 hwr.2
  have hFB := HFB.out n1
  obtain ⟨B, hB⟩ : ∃ B, keptRaw m n1 = B := ⟨_, rfl⟩
  rw [hB] at HBn hFB
  clear hn1 hwr hB HB HFB
  have HFB : Hid (keptFault B = 0) := hFB
  refine HBn.out.mono ?_
  rintro e w3 ⟨v3, rfl, hn3, hb3⟩
  have hr3 := keptNew_at HFB.out hn3
  obtain ⟨a3, c3, rfl⟩ := hn3.form
  have B10 := Box.new w3 25 [.int .i64 B.view, .int .i64 B.normal, .bool B.calm, .slice a3 B.log.length c3, .int .i64 B.commit]
  have hb34 := Below.up hb3 (.cells #[.int .i64 B.view, .int .i64 B.normal, .bool B.calm, .slice a3 B.log.length c3, .int .i64 B.commit] 25)
  have hr4 := hr3.below (below_alloc w3 (.cells #[.int .i64 B.view, .int .i64 B.normal, .bool B.calm, .slice a3 B.log.length c3, .int .i64 B.commit] 25))
  obtain ⟨w4, hw4⟩ : ∃ w4, w4 = w3.alloc (.cells #[.int .i64 B.view, .int .i64 B.normal, .bool B.calm, .slice a3 B.log.length c3, .int .i64 B.commit] 25) := ⟨_, rfl⟩
  go_upto_region 3 with fail
  rw [← hw4] at B10 hb34 hr4 ⊢
  obtain ⟨b10, hb10⟩ : ∃ b10, w3.heap.size = b10 := ⟨_, rfl⟩
  rw [hb10] at B10 ⊢
  have HB9' : Hid (Box w4 b9 _ _) := HB9.out.below hb34 HB9.out.lt
  have HB10 : Hid (Box w4 b10 _ _) := B10
  have HW4 : Hid (Below w.heap.size w w4) := Below.far HW2.out hb34
  have HRA : Hid (KeptAt w4 _ A) := HR2.out.below hb34
  have HRB : Hid (KeptAt w4 _ B) := hr4
  clear hw4 hb10 B10 hb34 hr3 hr4 hn3 hb3 HBn HB9 HR2 HW2 hFB
  -- what comes of it all, in plain numbers
  obtain ⟨S, hS⟩ : ∃ S, keptB B 2 = S := ⟨_, rfl⟩
  have hSl := keptB_len B 2 HFB.out
  rw [hS] at hSl
  have hk := pickN_bd u ((S.length : Int) + 1) (by omega)
  have HPK : Hid (∀ w, Calls _ _ _ w _) := fun w => picked_any u ((S.length : Int) + 1) w h2 h3 (by omega) (by omega)
  obtain ⟨k, hkk⟩ : ∃ k, pickN u ((S.length : Int) + 1) = k := ⟨_, rfl⟩
  rw [hkk] at HPK hk
  have hall := torn_all A B HFA.out HFB.out k hk.1 (by rw [hS]; omega)
  rw [hS] at hall
  obtain ⟨X, Y, Z, C, ⟨eX, lX⟩, ⟨eY, lY⟩, ⟨eZ, lZ⟩, ⟨eC, lC⟩, ⟨eB, gB, lB⟩, hC, fX, fY, fZ⟩ := hall
  have HE : Hid (∀ W, Below w4.heap.size w4 W → Calls _ _ _ W _) := fun W hW => stageEnc_any B 2 _ W (HRB.out.below hW)
  have eE : kencE B 2 = 0 := by unfold kencE; rw [if_pos HFB.out]; rfl
  have eS : kencS B 2 = S := by unfold kencS; rw [if_pos eE, hS]
  rw [eE, eS] at HE
  have HNW : Hid (∀ W, Calls Tryd.prog 7 [].toArray W fun e w' => ∃ v', e = .returned v' ∧ (w'.ownsRow W.heap.size 9 1 v' newSlots.length (newSlots.map enc) ∧ Below W.heap.size W w')) := fun W => stageNew_any W
  have HSX : Hid (∀ W v, Below w4.heap.size w4 W → Strs W v newSlots → Calls Tryd.prog 6 [v, .agg #[.int .i64 A.view, .int .i64 A.normal, .bool A.calm, .slice a1 A.log.length c1, .int .i64 A.commit], .int .i64 (-1)].toArray W fun e w' => ∃ u', e = .returned u' ∧ ∃ v', u' = .tuple #[v', .int .i64 0] ∧ w'.ownsRow W.heap.size 9 1 v' X.length (X.map enc) ∧ Below W.heap.size W w') := fun W v hW hs => by
    have := stageStore_any newSlots v A _ (-1) W hs (HRA.out.below hW)
    rw [eX, lX] at this
    exact this.mono fun e w' ⟨v', he, h1, h2⟩ => ⟨_, he, v', rfl, h1, h2⟩
  have HSY : Hid (∀ W v, Below w4.heap.size w4 W → Strs W v X → Calls _ _ _ W _) := fun W v hW hs => stageStore_any X v B _ k W hs (HRB.out.below hW)
  have HSZ : Hid (∀ W v, Below w4.heap.size w4 W → Strs W v X → Calls _ _ _ W _) := fun W v hW hs => stageStore_any X v B _ (-1) W hs (HRB.out.below hW)
  rw [eY, lY] at HSY
  rw [eZ, lZ] at HSZ
  have HLY : Hid (∀ W v, Strs W v Y → Calls _ _ _ W _) := fun W v hs => stageLoad_any Y v W hs
  have HLZ : Hid (∀ W v, Strs W v Z → Calls _ _ _ W _) := fun W v hs => stageLoad_any Z v W hs
  rw [eC, lC] at HLY
  rw [eB, gB, lB] at HLZ
  generalize loadG Y = gY at HLY
  generalize loadA Y = pY at HLY
  generalize loadA Z = pZ at HLZ
  have HC : Hid ((k < (S.length : Int) → C = A) ∧ (¬ k < (S.length : Int) → C = B)) := hC
  have HFX : Hid (FitL X) := fX
  have HFY : Hid (FitL Y) := fY
  have HFZ : Hid (FitL Z) := fZ
  have HFN : Hid (FitL newSlots) := fit_new
  clear hS hkk eX lX eY lY eZ lZ eC lC eB gB lB hC fX fY fZ eE eS
  generalize newSlots = N0 at *
  have x0 := HB9'.out.cell 0 _ rfl
  have x1 := HB9'.out.cell 1 _ rfl
  have x2 := HB9'.out.cell 2 _ rfl
  have x3 := HB9'.out.cell 3 _ rfl
  have x4 := HB9'.out.cell 4 _ rfl
  have lx := HB9'.out.lt
  go_cut [11, 12] (fun x e wx => e = .int .i64 0 ∧ wx.ownsRow w4.heap.size 9 1 x X.length (X.map enc) ∧ Below w4.heap.size w4 wx)
  case first =>
    go_region_law
      ((first
        | (refine step_go _ (by rfl) 7 _ _ (by rfl) _ (by rfl) enter_new _ (HNW.out _) ?_
           rintro u' wA ⟨hn3, hbA⟩
           have hsA : Strs wA u' N0 := Strs.of_own hn3 HFN.out.1 HFN.out.2
           obtain ⟨aN, cN, hu4⟩ := own_formN hn3
           subst hu4
           have hAU : Below w4.heap.size w4 wA := by (repeat (first | exact Below.refl _ _ | assumption | apply Below.drew | apply Below.up | (refine Below.far ?_ (by assumption))))
           have EA : Box wA b9 _ _ := HB9'.out.below hAU HB9'.out.lt
           have xa0 := EA.cell 0 _ rfl
           have xa1 := EA.cell 1 _ rfl
           have xa2 := EA.cell 2 _ rfl
           have xa3 := EA.cell 3 _ rfl
           have xa4 := EA.cell 4 _ rfl
           have qa := EA.lt
           clear hn3 hbA)
        | (refine step_go _ (by rfl) 6 _ _ (by rfl) _ (by rfl) enter_store _ (HSX.out _ _ hAU hsA) ?_
           rintro u'' wS ⟨vS, hu5, hnS, hbS⟩
           obtain ⟨aS, cS, hv5⟩ := own_formN hnS
           subst hv5
           subst hu5
           have hSU : Below w4.heap.size w4 wS := Below.far hAU hbS
           have hnS' := own_base (base' := w4.heap.size) hnS hAU.size)))
    all_goals go_wp2_with fail
    all_goals go_meet
    all_goals exact ⟨rfl, hnS', hSU⟩
  case rest =>
    obtain ⟨rfl, hownX, hbX⟩ := hcut
    have hsX : Strs wc _ X := Strs.of_own hownX HFX.out.1 HFX.out.2
    obtain ⟨aX, cX, rfl⟩ := own_formN hownX
    have HSX' : Hid (Strs wc (.slice aX X.length cX) X) := hsX
    have HWX : Hid (Below w4.heap.size w4 wc) := hbX
    have HBX : Hid (Box wc b10 _ _) := HB10.out.below hbX HB10.out.lt
    clear hownX hbX hsX x0 x1 x2 x3 x4 lx HNW HSX
    have y0 := HBX.out.cell 0 _ rfl
    have y1 := HBX.out.cell 1 _ rfl
    have y2 := HBX.out.cell 2 _ rfl
    have y3 := HBX.out.cell 3 _ rfl
    have y4 := HBX.out.cell 4 _ rfl
    have ly := HBX.out.lt
    go_wp2_with fail
    refine (HE.out _ HWX.out).mono ?_
    rintro e w5 ⟨rfl, hb5⟩
    have HW5 : Hid (Below w4.heap.size w4 w5) := Below.far HWX.out hb5
    have HS5 : Hid (Strs w5 (.slice aX X.length cX) X) := HSX'.out.below hb5
    have hB5 := HBX.out.below hb5 HBX.out.lt
    clear hb5 HWX HSX' HBX HE y0 y1 y2 y3 y4 ly
    have y0 := hB5.cell 0 _ rfl
    have y1 := hB5.cell 1 _ rfl
    have y2 := hB5.cell 2 _ rfl
    have y3 := hB5.cell 3 _ rfl
    have y4 := hB5.cell 4 _ rfl
    have ly := hB5.lt
    have HB5 : Hid (Box w5 b10 _ _) := hB5
    clear hB5
    go_wp2_with fail
    refine (HPK.out _).mono ?_
    rintro e w6 ⟨rfl, hw6⟩
    subst hw6
    go_wp2_with fail
    refine (HSY.out _ _ HW5.out HS5.out).mono ?_
    rintro e w7 ⟨v7, rfl, hn7, hb7⟩
    have hs7 : Strs w7 v7 Y := Strs.of_own hn7 HFY.out.1 HFY.out.2
    obtain ⟨a7, c7, rfl⟩ := own_formN hn7
    have HW7 : Hid (Below w4.heap.size w4 w7) := Below.far HW5.out hb7
    have HS7 : Hid (Strs w7 (.slice aX X.length cX) X) := HS5.out.below hb7
    have HY7 : Hid (Strs w7 (.slice a7 Y.length c7) Y) := hs7
    have hB7 := HB5.out.below hb7 HB5.out.lt
    clear hb7 hn7 hs7 HW5 HS5 HB5 HSY HPK y0 y1 y2 y3 y4 ly
    have y0 := hB7.cell 0 _ rfl
    have y1 := hB7.cell 1 _ rfl
    have y2 := hB7.cell 2 _ rfl
    have y3 := hB7.cell 3 _ rfl
    have y4 := hB7.cell 4 _ rfl
    have ly := hB7.lt
    have HB7 : Hid (Box w7 b10 _ _) := hB7
    clear hB7
    go_wp2_with fail
    refine (HSZ.out _ _ HW7.out HS7.out).mono ?_
    rintro e w8 ⟨v8, rfl, hn8, hb8⟩
    have hs8 : Strs w8 v8 Z := Strs.of_own hn8 HFZ.out.1 HFZ.out.2
    obtain ⟨a8, c8, rfl⟩ := own_formN hn8
    have HW8 : Hid (Below w4.heap.size w4 w8) := Below.far HW7.out hb8
    have HY8 : Hid (Strs w8 (.slice a7 Y.length c7) Y) := HY7.out.below hb8
    have HZ8 : Hid (Strs w8 (.slice a8 Z.length c8) Z) := hs8
    clear hb8 hn8 hs8 HW7 HS7 HB7 HY7 HSZ y0 y1 y2 y3 y4 ly
    go_wp2_with fail
    refine (HLY.out _ _ HY8.out).mono ?_
    rintro e w9 ⟨v9, rfl, hn9, hb9⟩
    obtain ⟨a9, c9, rfl⟩ := hn9.form
    have B20 := Box.new w9 25 [.int .i64 C.view, .int .i64 C.normal, .bool C.calm, .slice a9 C.log.length c9, .int .i64 C.commit]
    have hw9 := Below.up (Below.far HW8.out hb9) (.cells #[.int .i64 C.view, .int .i64 C.normal, .bool C.calm, .slice a9 C.log.length c9, .int .i64 C.commit] 25)
    have hz9 := HZ8.out.below (Below.up hb9 (.cells #[.int .i64 C.view, .int .i64 C.normal, .bool C.calm, .slice a9 C.log.length c9, .int .i64 C.commit] 25))
    have hn9' := hn9.below (below_alloc w9 (.cells #[.int .i64 C.view, .int .i64 C.normal, .bool C.calm, .slice a9 C.log.length c9, .int .i64 C.commit] 25))
    obtain ⟨w10, hw10⟩ : ∃ w10, w10 = w9.alloc (.cells #[.int .i64 C.view, .int .i64 C.normal, .bool C.calm, .slice a9 C.log.length c9, .int .i64 C.commit] 25) := ⟨_, rfl⟩
    go_upto_region 9 with fail
    rw [← hw10] at B20 hw9 hz9 hn9' ⊢
    obtain ⟨b20, hb20⟩ : ∃ b20, w9.heap.size = b20 := ⟨_, rfl⟩
    rw [hb20] at B20 ⊢
    have HB20 : Hid (Box w10 b20 _ _) := B20
    have HW10 : Hid (Below w4.heap.size w4 w10) := hw9
    have HZ10 : Hid (Strs w10 _ Z) := hz9
    have HN10 : Hid (KeptNew w10 _ _ C) := hn9'
    clear hw10 hb20 B20 hw9 hz9 hn9 hn9' hb9 HW8 HY8 HZ8 HLY
    go_wp2_with fail
    refine (HLZ.out _ _ HZ10.out).mono ?_
    rintro e w11 ⟨v11, rfl, hn11, hb11⟩
    obtain ⟨a11, c11, rfl⟩ := hn11.form
    have B24 := Box.new w11 25 [.int .i64 B.view, .int .i64 B.normal, .bool B.calm, .slice a11 B.log.length c11, .int .i64 B.commit]
    have hb12 := Below.up hb11 (.cells #[.int .i64 B.view, .int .i64 B.normal, .bool B.calm, .slice a11 B.log.length c11, .int .i64 B.commit] 25)
    have hn11' := hn11.below (below_alloc w11 (.cells #[.int .i64 B.view, .int .i64 B.normal, .bool B.calm, .slice a11 B.log.length c11, .int .i64 B.commit] 25))
    obtain ⟨w12, hw12⟩ : ∃ w12, w12 = w11.alloc (.cells #[.int .i64 B.view, .int .i64 B.normal, .bool B.calm, .slice a11 B.log.length c11, .int .i64 B.commit] 25) := ⟨_, rfl⟩
    go_upto_region 10 with fail
    rw [← hw12] at B24 hb12 hn11' ⊢
    obtain ⟨b24, hb24⟩ : ∃ b24, w11.heap.size = b24 := ⟨_, rfl⟩
    rw [hb24] at B24 ⊢
    have HW12 : Hid (Below w4.heap.size w4 w12) := Below.far HW10.out hb12
    have HC20 : Hid (Box w12 b20 _ _) := HB20.out.below hb12 HB20.out.lt
    have HC9 : Hid (Box w12 b9 _ _) := HB9'.out.below HW12.out HB9'.out.lt
    have HC10 : Hid (Box w12 b10 _ _) := HB10.out.below HW12.out HB10.out.lt
    have HKA : Hid (KeptAt w12 (.agg #[.int .i64 A.view, .int .i64 A.normal, .bool A.calm, .slice a1 A.log.length c1, .int .i64 A.commit]) A) := HRA.out.below HW12.out
    have HKB : Hid (KeptAt w12 (.agg #[.int .i64 B.view, .int .i64 B.normal, .bool B.calm, .slice a3 B.log.length c3, .int .i64 B.commit]) B) := HRB.out.below HW12.out
    have HKD : Hid (KeptAt w12 (.agg #[.int .i64 B.view, .int .i64 B.normal, .bool B.calm, .slice a11 B.log.length c11, .int .i64 B.commit]) B) := keptNew_at HFB.out hn11'
    have HND : Hid (KeptNew w12 _ (.agg #[.int .i64 C.view, .int .i64 C.normal, .bool C.calm, .slice a9 C.log.length c9, .int .i64 C.commit]) C) := HN10.out.below hb12
    have d0 := B24.cell 0 _ rfl
    have d1 := B24.cell 1 _ rfl
    have d2 := B24.cell 2 _ rfl
    have d3 := B24.cell 3 _ rfl
    have d4 := B24.cell 4 _ rfl
    have ld := B24.lt
    have q10 := HC10.out
    have y0 := q10.cell 0 _ rfl
    have y1 := q10.cell 1 _ rfl
    have y2 := q10.cell 2 _ rfl
    have y3 := q10.cell 3 _ rfl
    have y4 := q10.cell 4 _ rfl
    have ly := q10.lt
    clear hw12 hb24 B24 hb12 hn11 hn11' hb11 HB9' HB10 HB20 HRA HRB HN10 HW10 HZ10 HLZ q10
    have HSD : Hid (Calls _ _ _ w12 _) := same_same B _ _ w12 HKD.out HKB.out
    go_wp2_with fail
    refine HSD.out.mono ?_
    rintro e w13 ⟨rfl, hb13⟩
    have HW13 : Hid (Below w.heap.size w w13) := Below.far (Below.far HW4.out HW12.out) hb13
    have e20 := HC20.out.below hb13 HC20.out.lt
    have e9 := HC9.out.below hb13 HC9.out.lt
    have e10 := HC10.out.below hb13 HC10.out.lt
    have HKA' : Hid (KeptAt w13 _ A) := HKA.out.below hb13
    have HKB' : Hid (KeptAt w13 _ B) := HKB.out.below hb13
    have HND' : Hid (KeptNew w13 _ _ C) := HND.out.below hb13
    clear d0 d1 d2 d3 d4 ld y0 y1 y2 y3 y4 ly hb13 HSD HW12 HC20 HC9 HC10 HKA HKB HKD HND
    by_cases hlt : k < (S.length : Int)
    · obtain rfl : C = A := HC.out.1 hlt
      have d1 : decide (k < (S.length : Int)) = true := by simp [hlt]
      have x0 := e20.cell 0 _ rfl
      have x1 := e20.cell 1 _ rfl
      have x2 := e20.cell 2 _ rfl
      have x3 := e20.cell 3 _ rfl
      have x4 := e20.cell 4 _ rfl
      have y0 := e9.cell 0 _ rfl
      have y1 := e9.cell 1 _ rfl
      have y2 := e9.cell 2 _ rfl
      have y3 := e9.cell 3 _ rfl
      have y4 := e9.cell 4 _ rfl
      have lx := e20.lt
      have ly := e9.lt
      have HSC : Hid (Calls _ _ _ w13 _) := same_same C _ _ w13 (keptNew_at HFA.out HND'.out) HKA'.out
      clear e20 e9 e10 HC hlt
      go_wp2_with fail
      refine HSC.out.mono ?_
      rintro e w14 ⟨rfl, hb14⟩
      have HW14 : Hid (Below w.heap.size w w14) := Below.far HW13.out hb14
      clear hb14 HSC x0 x1 x2 x3 x4 y0 y1 y2 y3 y4
      go_wp2_with fail
      go_ret
      exact ⟨rfl, HW14.out⟩
    · obtain rfl : C = B := HC.out.2 (by omega)
      have d1 : decide (k < (S.length : Int)) = false := by simpa using hlt
      have x0 := e20.cell 0 _ rfl
      have x1 := e20.cell 1 _ rfl
      have x2 := e20.cell 2 _ rfl
      have x3 := e20.cell 3 _ rfl
      have x4 := e20.cell 4 _ rfl
      have y0 := e10.cell 0 _ rfl
      have y1 := e10.cell 1 _ rfl
      have y2 := e10.cell 2 _ rfl
      have y3 := e10.cell 3 _ rfl
      have y4 := e10.cell 4 _ rfl
      have lx := e20.lt
      have ly := e10.lt
      have HSC : Hid (Calls _ _ _ w13 _) := same_same C _ _ w13 (keptNew_at HFB.out HND'.out) HKB'.out
      clear e20 e9 e10 HC hlt
      go_wp2_with fail
      refine HSC.out.mono ?_
      rintro e w14 ⟨rfl, hb14⟩
      have HW14 : Hid (Below w.heap.size w w14) := Below.far HW13.out hb14
      clear hb14 HSC x0 x1 x2 x3 x4 y0 y1 y2 y3 y4
      go_wp2_with fail
      go_ret
      exact ⟨rfl, HW14.out⟩

theorem slotsTorn_walk (w : World) (l : List RawM) {v : Value} (h : Raws w v l) (m : List RawM) {v' : Value} (h' : Raws w v' m) (n : Int) (wn : (Lit.int .i64 n).wf = true) (u : Int) (wu : (Lit.int .i64 u).wf = true) (ht : Tab w) :
    Calls Tryd.prog 3 #[v, v', .int .i64 n, .int .i64 u] w fun e w' => e = .returned (.bool true) ∧ Below w.heap.size w w' := by
  have b : ∀ x : Int, (Lit.int .i64 x).wf = true → -9223372036854775808 ≤ x ∧ x ≤ 9223372036854775807 := fun x hx => bounds_i64 hx
  exact slotsTorn_in w l m n u (b n wn).1 (b n wn).2 (b u wu).1 (b u wu).2 h h' ht

end Go.Proofs.YtdnogggadocilaeDoor
