/- The program's own stage.Store. -/
import Derived.Test.YtdnogggadocilaeDoorStageMath
import Derived.Test.YtdnogggadocilaeDoorLoadGo
import Derived.Test.YtdnogggadocilaeDoorKencGo
namespace Go.Proofs.YtdnogggadocilaeDoor
open Go.RowKit
set_option linter.unusedVariables false
set_option linter.unusedSimpArgs false
attribute [local go_sem] app_list ext_list get_list byteAt_zero

theorem other_any (p : Int) (w : World) (h : p = 0 ∨ p = 1) :
    Calls Tryd.prog 15 #[.int .i64 p] w fun e w' => e = .returned (.int .i64 (1 - p)) ∧ w' = w := by
  rcases h with rfl | rfl
  · go_enter Tryd.func15, Tryd.ntmps15
    go_wp2_with fail
    go_ret
    exact ⟨rfl, rfl⟩
  · go_enter Tryd.func15, Tryd.ntmps15
    go_wp2_with fail
    go_ret
    exact ⟨rfl, rfl⟩

theorem two_list (l : List (List UInt8)) (h : l.length = 2) : ∃ s0 s1, l = [s0, s1] := by
  match l, h with
  | [s0, s1], _ => exact ⟨s0, s1, rfl⟩

set_option maxRecDepth 4000 in
set_option maxHeartbeats 4000000 in
theorem stageStore_any (l : List (List UInt8)) (v : Value) (K : KeptM) (vk : Value) (u : Int) (w : World) (h : Strs w v l) (hk : KeptAt w vk K) :
    Calls Tryd.prog 6 #[v, vk, .int .i64 u] w fun e w' => ∃ v', e = .returned (.tuple #[v', .int .i64 (storeE l K u)]) ∧ w'.ownsRow w.heap.size 9 1 v' (storeL l K u).length ((storeL l K u).map enc) ∧ Below w.heap.size w w' := by
  have HL : Hid (∀ W, Below w.heap.size w W → Calls _ _ _ W _) := fun W hW => stageLoad_any l _ W (h.below hW)
  have HE : Hid (∀ W, Below w.heap.size w W → Calls _ _ _ W _) := fun W hW => stageEnc_any K (loadG l + 1) _ W (hk.below hW)
  have HNO : Hid (storeE l K u ≠ 0 → storeL l K u = []) := store_no l K u
  have HSET : Hid (storeE l K u = 0 → storeL l K u = l.set (1 - loadA l).toNat (storeB K (loadG l + 1) u)) := store_set l K u
  have HE1 : Hid (loadE l ≠ 0 → storeE l K u = loadE l) := store_e1 l K u
  have HE2 : Hid (loadE l = 0 → 1073741824 ≤ loadG l → storeE l K u = 7) := store_e2 l K u
  have HE3 : Hid (loadE l = 0 → ¬ 1073741824 ≤ loadG l → keptFault K ≠ 0 → storeE l K u = keptFault K) := store_e3 l K u
  have HE4 : Hid (loadE l = 0 → ¬ 1073741824 ≤ loadG l → keptFault K = 0 → u < -1 → storeE l K u = 2) := store_e4 l K u
  have HE5 : Hid (loadE l = 0 → ¬ 1073741824 ≤ loadG l → keptFault K = 0 → ¬ u < -1 → storeE l K u = 0) := store_e5 l K u
  have HKN : Hid (¬ 1073741824 ≤ loadG l → kencE K (loadG l + 1) = keptFault K ∧ (keptFault K = 0 → kencS K (loadG l + 1) = keptB K (loadG l + 1))) := kenc_next K l
  have HLEN : Hid (loadE l = 0 → l.length = 2) := by
    intro h0
    unfold loadE at h0
    split at h0
    · assumption
    · simp at h0
  have HBL : Hid (keptFault K = 0 → (keptB K (loadG l + 1)).length ≤ 3000) := keptB_len K (loadG l + 1)
  have HSA : Hid (¬ (0 ≤ u ∧ u ≤ (keptB K (loadG l + 1)).length) → storeB K (loadG l + 1) u = keptB K (loadG l + 1)) := storeB_all K (loadG l + 1) u
  have HSP : Hid (0 ≤ u ∧ u ≤ (keptB K (loadG l + 1)).length → storeB K (loadG l + 1) u = (keptB K (loadG l + 1)).take u.toNat) := storeB_part K (loadG l + 1) u
  have hgb := loadG_bd l
  have hpb := loadA_bd l
  have HFK : Hid ((loadK l).log.length ≤ 60) := (loadK_fits l).1
  obtain ⟨E, hE⟩ : ∃ E, storeE l K u = E := ⟨_, rfl⟩
  obtain ⟨R, hR⟩ : ∃ R, storeL l K u = R := ⟨_, rfl⟩
  rw [hE] at HNO HSET HE1 HE2 HE3 HE4 HE5 ⊢
  rw [hR] at HNO HSET ⊢
  obtain ⟨x, hx⟩ : ∃ x, loadE l = x := ⟨_, rfl⟩
  obtain ⟨g, hg⟩ : ∃ g, loadG l = g := ⟨_, rfl⟩
  obtain ⟨p, hp⟩ : ∃ p, loadA l = p := ⟨_, rfl⟩
  obtain ⟨LK, hLK⟩ : ∃ LK, loadK l = LK := ⟨_, rfl⟩
  rw [hx] at HL HE1 HE2 HE3 HE4 HE5 HLEN
  rw [hg] at HL HE HSET HE2 HE3 HE4 HE5 HKN HBL HSA HSP hgb
  rw [hp] at HL HSET hpb
  rw [hLK] at HL HFK
  obtain ⟨f, hf⟩ : ∃ f, keptFault K = f := ⟨_, rfl⟩
  obtain ⟨S, hS⟩ : ∃ S, keptB K (g + 1) = S := ⟨_, rfl⟩
  obtain ⟨D, hD⟩ : ∃ D, storeB K (g + 1) u = D := ⟨_, rfl⟩
  rw [hf] at HE3 HE4 HE5 HKN HBL
  rw [hS] at HKN HBL HSA HSP
  rw [hD] at HSET HSA HSP
  clear hE hR hx hg hp hLK hf hS hD
  obtain ⟨vl, rfl, hs⟩ := hk
  obtain ⟨a1, c1, rfl, hlx1, hcx1⟩ := hs
  obtain ⟨a, c, rfl, hlx, hcx⟩ := h
  clear hcx1 hlx1
  obtain ⟨vw, nm, cm, lg, ct⟩ := K
  simp only at HE ⊢
  have b0 := Box.new w 25 [.int .i64 vw, .int .i64 nm, .bool cm, .slice a1 lg.length c1, .int .i64 ct]
  have hb := below_alloc w (.cells #[.int .i64 vw, .int .i64 nm, .bool cm, .slice a1 lg.length c1, .int .i64 ct] 25)
  obtain ⟨w0, hw0⟩ : ∃ w0, w0 = w.alloc (.cells #[.int .i64 vw, .int .i64 nm, .bool cm, .slice a1 lg.length c1, .int .i64 ct] 25) := ⟨_, rfl⟩
  go_enter Tryd.func6, Tryd.ntmps6
  go_upto_region 1 with fail
  rw [← hw0] at b0 hb ⊢
  clear hw0
  have HB0 : Hid (Box w0 w.heap.size _ _) := b0
  have HW0 : Hid (Below w.heap.size w w0) := hb
  clear b0 hb
  go_wp2_with fail
  refine (HL.out _ HW0.out).mono ?_
  rintro e w1 ⟨v1, rfl, hn1, hb1⟩
  obtain ⟨a2, c2, rfl⟩ := hn1.form
  have b2 := (HB0.out.below hb1 HB0.out.lt).alloc (.cells #[.int .i64 LK.view, .int .i64 LK.normal, .bool LK.calm, .slice a2 LK.log.length c2, .int .i64 LK.commit] 25)
  have hw2 := Below.up (Below.far HW0.out hb1) (.cells #[.int .i64 LK.view, .int .i64 LK.normal, .bool LK.calm, .slice a2 LK.log.length c2, .int .i64 LK.commit] 25)
  obtain ⟨w2, hw2e⟩ : ∃ w2, w2 = w1.alloc (.cells #[.int .i64 LK.view, .int .i64 LK.normal, .bool LK.calm, .slice a2 LK.log.length c2, .int .i64 LK.commit] 25) := ⟨_, rfl⟩
  go_upto_region 2 with fail
  rw [← hw2e] at b2 hw2 ⊢
  have HB2 : Hid (Box w2 w.heap.size _ _) := b2
  have HW2 : Hid (Below w.heap.size w w2) := hw2
  clear hw2e HB0 HW0 hn1 hb1 b2 hw2 HL
  by_cases hx0 : x = 0
  · subst hx0
    by_cases hg1 : 1073741824 ≤ g
    · have HX : Hid (E = 7 ∧ R = []) := by
        have e : E = 7 := HE2.out (by first | trivial | omega) (by first | trivial | omega)
        exact ⟨e, HNO.out (by rw [e]; decide)⟩
      have d1 : (g == 1073741824) = true := by simp; omega
      clear hg1 HNO HSET HE1 HE2 HE3 HE4 HE5 HKN HLEN HBL HSA HSP hcx HE hpb HB2
      go_wp2_with fail
      go_ret2
      rw [HX.out.1, HX.out.2]
      exact ⟨_, rfl, World.ownsRow_nil _ _ _ _, HW2.out⟩
    · have d1 : (g == 1073741824) = false := by simp; omega
      obtain ⟨k1, k2⟩ := HKN.out (by first | trivial | omega)
      rw [k1] at HE
      have hb2 := HB2.out
      have x0 := hb2.cell 0 _ rfl
      have x1 := hb2.cell 1 _ rfl
      have x2 := hb2.cell 2 _ rfl
      have x3 := hb2.cell 3 _ rfl
      have x4 := hb2.cell 4 _ rfl
      have lx := hb2.lt
      have g1 : (0 : Int) ≤ g := hgb.1
      have g2 : g < 1073741824 := by omega
      clear hb2 HKN hgb
      by_cases hf0 : f = 0
      · subst hf0
        rw [k2 rfl] at HE
        have hSl := HBL.out (by first | trivial | omega)
        clear k1 k2
        go_wp2_with fail
        refine (HE.out _ HW2.out).mono ?_
        rintro e w3 ⟨rfl, hb3⟩
        have HW3 : Hid (Below w.heap.size w w3) := Below.far HW2.out hb3
        clear hb3 HE HW2 HB2 x0 x1 x2 x3 x4
        by_cases hu : u < -1
        · have HX : Hid (E = 2 ∧ R = []) := by
            have e : E = 2 := HE4.out (by first | trivial | omega) (by first | trivial | omega) (by first | trivial | omega) hu
            exact ⟨e, HNO.out (by rw [e]; decide)⟩
          have d2 : decide (u < -1) = true := by simp [hu]
          clear hg1 HNO HSET HE1 HE2 HE3 HE4 HE5 HLEN HBL HSA HSP hcx hpb
          go_wp2_with fail
          go_ret2
          rw [HX.out.1, HX.out.2]
          exact ⟨_, rfl, World.ownsRow_nil _ _ _ _, HW3.out⟩
        · have HEQ : Hid (E = 0 ∧ R = l.set (1 - p).toNat D) := by
            have e : E = 0 := HE5.out (by first | trivial | omega) (by first | trivial | omega) (by first | trivial | omega) (by first | trivial | omega)
            exact ⟨e, HSET.out e⟩
          obtain ⟨s0, s1, rfl⟩ := two_list l (HLEN.out (by first | trivial | omega))
          obtain ⟨bb, oo, rfl, t0, _⟩ := hcx 0 (by simp)
          obtain ⟨bb', oo', ho, t1, _⟩ := hcx 1 (by simp)
          cases ho
          have m0 := (HW3.out.cell (p := ⟨bb, _, none⟩) (lt_of_cell t0)).trans t0
          have m1 := (HW3.out.cell (p := ⟨bb, _, none⟩) (lt_of_cell t1)).trans t1
          simp only [List.getD_cons_zero, List.getD_cons_succ, List.length_cons, List.length_nil, Nat.zero_add, Nat.reduceAdd, Nat.add_zero] at m0 m1 ⊢
          have key : (u = -1 ∧ D = S) ∨ (0 ≤ u ∧ S.take (min u (S.length : Int)).toNat = D) := by
            by_cases q1 : u = -1
            · exact Or.inl ⟨q1, HSA.out (by omega)⟩
            · by_cases q2 : (S.length : Int) < u
              · refine Or.inr ⟨by omega, ?_⟩
                rw [HSA.out (by omega), show (min u (S.length : Int)).toNat = S.length by omega, List.take_length]
              · refine Or.inr ⟨by omega, ?_⟩
                rw [HSP.out (by omega), show min u (S.length : Int) = u by omega]
          have d2 : decide (u < -1) = false := by simpa using hu
          clear hg1 HNO HSET HE1 HE2 HE3 HE4 HE5 HLEN HBL HSA HSP hcx t0 t1 hu
          have HOT : Hid (∀ w, Calls _ _ _ w _) := fun w => other_any p w hpb
          have hz3 := HW3.out.size
          rcases key with ⟨rfl, rfl⟩ | ⟨q1, q3⟩
          all_goals
            go_upto_region 13 with fail
            go_cut [13] (fun x wx => ∃ b13, x = .slice (some ⟨b13, 0, none⟩) 2 2 ∧ Below w3.heap.size w3 wx ∧ Box wx b13 9 [.string ⟨s0.toArray⟩, .string ⟨s1.toArray⟩] ∧ w3.heap.size ≤ b13)
            case first =>
              go_region
              all_goals go_wp2_with fail
              all_goals go_meet
              all_goals exact ⟨_, rfl, by (repeat (first | exact Below.refl _ _ | apply Below.drew | apply Below.up)), by first | exact Box.new _ _ _ | exact Box.new (World.drew _) _ _, by first | exact Nat.le_refl _ | simp⟩
            case rest =>
              obtain ⟨b13, rfl, hbc, B13, g13⟩ := hcut
              have HWC : Hid (Below w.heap.size w wc) := Below.far HW3.out hbc
              clear hbc HW3 m0 m1
              go_wp2_with fail
              refine (HOT.out _).mono ?_
              rintro e w6 ⟨rfl, hw6⟩
              subst hw6
              have HO : Hid (∀ i, World.ownsRow _ _ _ _ _ _ _) := fun i => own_set (own_box B13 (base := w.heap.size) (by omega) 2 1 rfl (by decide)) i (.string ⟨D.toArray⟩)
              have HBB : Hid (∀ i, Below w.heap.size w _) := fun i => HWC.out.setCell (p := ⟨b13, i, none⟩) (by simp; omega) (.string ⟨D.toArray⟩)
              have y0 := B13.cell 0 _ rfl
              have y1 := B13.cell 1 _ rfl
              have z0 := B13.frozen 0
              have z1 := B13.frozen 1
              have l13 := B13.lt
              clear B13 HWC HOT
              rcases hpb with rfl | rfl
              · go_wp2_with fail
                go_ret2
                rw [HEQ.out.1, HEQ.out.2]
                exact ⟨_, rfl, HO.out 1, HBB.out 1⟩
              · go_wp2_with fail
                go_ret2
                rw [HEQ.out.1, HEQ.out.2]
                exact ⟨_, rfl, HO.out 0, HBB.out 0⟩
      · have t1 : (f == 0) = false := by simpa using hf0
        have t2 : (f != 0) = true := by simpa using hf0
        have HX : Hid (E = f ∧ R = []) := by
          have e : E = f := HE3.out (by first | trivial | omega) (by first | trivial | omega) hf0
          exact ⟨e, HNO.out (by rw [e]; exact hf0)⟩
        clear hg1 HNO HSET HE1 HE2 HE3 HE4 HE5 HLEN HBL HSA HSP hcx hpb hf0 k1 k2
        go_wp2_with fail
        refine (HE.out _ HW2.out).mono ?_
        rintro e w3 ⟨rfl, hb3⟩
        have HW3 : Hid (Below w.heap.size w w3) := Below.far HW2.out hb3
        clear hb3 HE HW2 HB2 x0 x1 x2 x3 x4
        go_wp2_with fail
        go_ret2
        rw [HX.out.1, HX.out.2]
        exact ⟨_, rfl, World.ownsRow_nil _ _ _ _, HW3.out⟩
  · have t1 : (x == 0) = false := by simpa using hx0
    have t2 : (x != 0) = true := by simpa using hx0
    have HX : Hid (E = x ∧ R = []) := by
      have e : E = x := HE1.out hx0
      exact ⟨e, HNO.out (by rw [e]; exact hx0)⟩
    clear hx0 HNO HSET HE1 HE2 HE3 HE4 HE5 HKN HLEN HBL HSA HSP hcx HE hpb hgb HB2
    go_wp2_with fail
    go_ret2
    rw [HX.out.1, HX.out.2]
    exact ⟨_, rfl, World.ownsRow_nil _ _ _ _, HW2.out⟩

end Go.Proofs.YtdnogggadocilaeDoor
