/- The program's own: hearGive. -/
import Derived.Test.YtmdgkjbiicaljagDoorHearWt
namespace Go.Proofs.YtmdgkjbiicaljagDoor
open Go.RowKit
set_option linter.unusedVariables false
set_option linter.unusedSimpArgs false

set_option maxRecDepth 4000 in
set_option maxHeartbeats 8000000 in
theorem hearGive_any (b B : Nat) (R : ReplM) (L : List MsgM) (M : MsgM) (u : Value) (w : World) (h : TurnAt w b B R L) (hm : MsgAt w u M) (hMS : ∀ W, Beside B b w W → MsgAt W u M) (hzM : TextsIn M.log) (hs : Sound R) (hf0 : 0 ≤ M.frm) (hf1 : M.frm ≤ 2) (hn : L.length ≤ 800) (hB : B ≤ w.heap.size) :
    Calls Tryd.prog 31 #[.pointer (some ⟨b, 0, none⟩), u] w fun e w' => e = .returned (.tuple #[]) ∧
      TurnAt w' b B (giveR (if R.kept.view < M.view then wantR R M.view else R) M) ((L ++ if R.kept.view < M.view then wantL R M.view else []) ++ giveL (if R.kept.view < M.view then wantR R M.view else R) M) ∧ Beside B b w w' := by
  have HS1 : Hid (Sound (if R.kept.view < M.view then wantR R M.view else R)) := by
    unfold Hid
    split
    · exact sound_want hs _
    · exact hs
  have HL1 : Hid ((L ++ if R.kept.view < M.view then wantL R M.view else []).length ≤ 803) := by
    unfold Hid
    rw [List.length_append]
    split
    · have := sentAll_len (wantR R M.view) 3 0 []
      unfold wantL
      omega
    · simp; omega
  obtain ⟨mi, hmi⟩ : ∃ mi : Nat, M.frm = (mi : Int) := ⟨M.frm.toNat, by omega⟩
  have hml : mi < 3 := by omega
  have k0 : (0 : Int) ≤ (mi : Int) := by omega
  have HMA : Hid (∀ W, Beside B b w W → MsgAt W u M) := hMS
  clear hMS
  have HZM : Hid (TextsIn M.log) := hzM
  obtain ⟨vm, rfl, hs'⟩ := hm
  obtain ⟨am, cm, rfl, _, _⟩ := hs'
  have bm := Box.new w 43 [.int .i64 M.kind, .int .i64 M.frm, .int .i64 M.dst, .int .i64 M.view, .int .i64 M.normal, .int .i64 M.commit, .int .i64 M.n, .slice am M.log.length cm]
  obtain ⟨w0, hw0⟩ : ∃ w0, w0 = w.alloc (.cells #[.int .i64 M.kind, .int .i64 M.frm, .int .i64 M.dst, .int .i64 M.view, .int .i64 M.normal, .int .i64 M.commit, .int .i64 M.n, .slice am M.log.length cm] 43) := ⟨_, rfl⟩
  have hb0 : Below w.heap.size w w0 := by rw [hw0]; exact below_alloc _ _
  have hs0 : w0.heap.size = w.heap.size + 1 := by rw [hw0]; simp
  have h0 := turn_below h hb0
  have HOF : Hid (Off 68 w0 b w.heap.size) := by
    obtain ⟨vl, vh, vw, vg, vn, vs, ps, hxw, how, hmw⟩ := h
    refine ⟨by have := hxw.lt; omega, by omega, fun cs hcs c hc e => ?_⟩
    rw [hcs.uniq (hxw.below hb0 hxw.lt)] at hc
    obtain ⟨qs, _, hq⟩ := hmw
    have l1 := own_lt how.2.1
    have l2 := own_lt how.2.2.1
    have l3 := own_lt how.2.2.2.1
    have l4 := own_lt how.2.2.2.2.1.1
    have l5 := own_lt how.2.2.2.2.2.1
    have l6 := own_lt hq.1
    simp only [List.mem_cons, List.not_mem_nil, or_false] at hc
    rcases hc with rfl | rfl | rfl | rfl | rfl | rfl | rfl | rfl | rfl | rfl | rfl
    · cases e
    · cases e
    · cases e
    · cases e
    · have := l1 _ e; omega
    · cases e
    · have := l2 _ e; omega
    · have := l3 _ e; omega
    · have := l4 _ e; omega
    · have := l5 _ e; omega
    · have := l6 _ e; omega
  simp only [msgCells] at HMA ⊢
  rw [← hw0] at bm
  have HB0 : Hid (Below w.heap.size w w0) := hb0
  have HS0 : Hid (w0.heap.size = w.heap.size + 1) := hs0
  have HT : Hid (TurnAt w0 b B R L) := h0
  have HBM : Hid (Box w0 w.heap.size _ _) := bm
  have HMI : Hid (M.frm = (mi : Int)) := hmi
  have HWH : Hid (∀ W, TurnAt W b B R L → B ≤ W.heap.size → Calls _ _ _ W _) := fun W h1 h2 => wantHigher_any b B R L M (.slice am M.log.length cm) W h1 ⟨_, _, rfl⟩ hs.me0 hs.me1 (by omega) h2
  generalize (if R.kept.view < M.view then wantR R M.view else R) = R1 at *
  generalize (L ++ if R.kept.view < M.view then wantL R M.view else []) = L1 at *
  have y0 := bm.cell 0 _ rfl
  have y1 := bm.cell 1 _ rfl
  have y2 := bm.cell 2 _ rfl
  have y3 := bm.cell 3 _ rfl
  have y4 := bm.cell 4 _ rfl
  have y5 := bm.cell 5 _ rfl
  have y6 := bm.cell 6 _ rfl
  have y7 := bm.cell 7 _ rfl
  clear bm h hb0 hs0 h0 hs hmi
  go_enter Tryd.func31, Tryd.ntmps31
  go_upto_region 1 with fail
  rw [← hw0]
  clear hw0
  go_wp2_with fail
  refine (HWH.out w0 HT.out (by have := HS0.out; omega)).mono ?_
  rintro e w1 ⟨rfl, ht1, hb1, hl1⟩
  have HT1 : Hid (TurnAt w1 b B R1 L1) := ht1
  have HB1 : Hid (Beside B b w w1) := (Beside.of (HB0.out.mono hB)).trans hb1
  have bm := HBM.out.leaves hl1 HOF.out
  have HBM1 : Hid (Box w1 w.heap.size _ _) := bm
  have HOF1 : Hid (Off 68 w1 b w.heap.size) := (hl1 _ HOF.out).1
  clear hb1 hl1 y0 y1 y2 y3 y4 y5 y6 y7 HWH
  have y0 := bm.cell 0 _ rfl
  have y1 := bm.cell 1 _ rfl
  have y2 := bm.cell 2 _ rfl
  have y3 := bm.cell 3 _ rfl
  have y4 := bm.cell 4 _ rfl
  have y5 := bm.cell 5 _ rfl
  have y6 := bm.cell 6 _ rfl
  have y7 := bm.cell 7 _ rfl
  rw [HMI.out] at y1
  obtain ⟨vl, vh, vw, vg, vn, vs, ps, hx, ho, hmn⟩ := ht1
  have hs1 := HS1.out
  have hs0 : ∃ s : Bool, s = R1.given.getD R1.me.toNat false := ⟨_, rfl⟩
  obtain ⟨s0, hs0⟩ := hs0
  obtain ⟨mj, hmj⟩ : ∃ mj : Nat, R1.me = (mj : Int) := ⟨R1.me.toNat, by have := hs1.me0; omega⟩
  have hmj3 : mj < 3 := by have := hs1.me1; omega
  obtain ⟨al, cl, ah, ch, aw, cw, ag, cg, an, cn, rfl, rfl, rfl, rfl, rfl⟩ := ho.forms
  obtain ⟨g, cap, hvn, _, _, hcell0, _⟩ := own_cell ho.2.2.2.2.2.1 mj (by rw [hs1.nl]; exact hmj3)
  simp only [Value.slice.injEq, true_and] at hvn
  obtain ⟨rfl, rfl⟩ := hvn
  have hcell : w1.cell? ⟨g, mj, none⟩ = some (.bool s0) := by
    rw [hcell0, hs0, hmj]
    have : mj < R1.given.length := by rw [hs1.nl]; exact hmj3
    simp [encB, List.getD, this]
  clear hcell0
  have HLO : Hid (w1.ownsRow B 9 1 (.slice al R1.kept.log.length cl) R1.kept.log.length (R1.kept.log.map enc)) := ho.2.1
  have HFL : Hid (TextsIn R1.kept.log) := hs1.fits.log
  have HSZ : Hid (s0 = R1.given.getD R1.me.toNat false) := hs0
  have HMJ : Hid (R1.me = (mj : Int)) := hmj
  rw [hs1.nl] at hx
  have k1 : (mj : Int) < 3 := by omega
  have k2 : (0 : Int) ≤ (mj : Int) := by omega
  have HHB : Hid (B ≤ w1.heap.size) := HB1.out.up hB
  have HGN : Hid (R1.given.length = 3) := hs1.nl
  have x0 := hx.cell 0 _ rfl
  have x1 := hx.cell 1 _ rfl
  have x2 := hx.cell 2 _ rfl
  have x3 := hx.cell 3 _ rfl
  have x4 := hx.cell 4 _ rfl
  have x5 := hx.cell 5 _ rfl
  have x6 := hx.cell 6 _ rfl
  have x7 := hx.cell 7 _ rfl
  have x8 := hx.cell 8 _ rfl
  have x9 := hx.cell 9 _ rfl
  have x10 := hx.cell 10 _ rfl
  rw [hmj] at x0
  clear hx ho hmn bm hs0 hs1 hmj
  by_cases hc : R1.kept.calm = true
  · have HR : Hid (giveR R1 M = R1 ∧ giveL R1 M = []) := by
      unfold Hid giveR giveL
      rw [if_pos hc, if_pos hc]
      exact ⟨rfl, rfl⟩
    rw [hc] at x3
    go_wp2_with fail
    refine bodyPost_ret (results_none rfl _ _ _) rfl ?_
    refine ⟨rfl, ?_, HB1.out⟩
    rw [HR.out.1, HR.out.2, List.append_nil]
    exact HT1.out
  have hc' : R1.kept.calm = false := by simpa using hc
  have HKC : Hid (R1.kept.calm = false) := hc'
  rw [hc'] at x3
  by_cases hg : s0 = true
  · have HRR : Hid (giveR R1 M = beginR (withGive R1 mi (msgKept M)) ∧ giveL R1 M = beginL (withGive R1 mi (msgKept M))) := by
      unfold Hid giveR giveL gaveR
      rw [if_neg hc, if_neg hc, ← HSZ.out, if_pos hg, HMI.out, Int.toNat_natCast]
      exact ⟨rfl, rfl⟩
    rw [hg] at hcell
    go_upto_region 3 with fail
    go_quiet (fail)
    generalize nq = n1
    have HTW : Hid (TurnAt w1 b B R1 L1) := HT1.out
    have HBW : Hid (Beside B b w w1) := HB1.out
    have HSW : Hid (Sound R1) := HS1.out
    have HBMW : Hid (Box w1 w.heap.size _ _) := HBM1.out
    have HMSW : Hid (∀ W, Below w1.heap.size w1 W → MsgAt W _ M) := fun W hW => HMA.out W (HBW.out.trans (Beside.of (hW.mono (HBW.out.up hB))))
    clear x0 x1 x2 x3 x4 x5 x6 x7 x8 x9 x10 y0 y1 y2 y3 y4 y5 y6 y7 hcell
    go_upto_region 5 with fail
    refine wp_region_free [0, 0, 0, 0, 1, 2] (by kernel_rfl) (by kernel_rfl) (fun h => h) (Below w1.heap.size w1) (below_drewN n1 (Below.refl _ _)) (fun V n hV => below_drewN n hV) ?_
    apply Exists.intro
    refine ⟨?_, ?_⟩
    · intro V hV
      have by' := HBMW.out.below hV HBMW.out.lt
      have y0 := by'.cell 0 _ rfl
      have y1 := by'.cell 1 _ rfl
      have y2 := by'.cell 2 _ rfl
      have y3 := by'.cell 3 _ rfl
      have y4 := by'.cell 4 _ rfl
      have y5 := by'.cell 5 _ rfl
      have y6 := by'.cell 6 _ rfl
      have y7 := by'.cell 7 _ rfl
      simp only [sel, ↓reduceIte, Nat.reduceEqDiff]
      repeat (go_big_quiet_step (fail))
      refine wpQuiet_nil ?_
      rfl
    · intro n5
      simp only [sel, ↓reduceIte, Nat.reduceEqDiff]
      refine wpEarly_cons ?_
      go_wp2_with fail
      refine (mtold_any M _ (w1.drewN (n1 + n5)) (HMSW.out (w1.drewN (n1 + n5)) (below_drewN _ (Below.refl _ _)))).mono ?_
      rintro e w6 ⟨v6, rfl, hk6, hb6⟩
      have hbw : Below w1.heap.size w1 w6 := ⟨hb6.os, hb6.tape, hb6.output, hb6.size, hb6.block⟩
      have HB6 : Hid (Below w1.heap.size w1 w6) := hbw
      have HK6 : Hid (KeptAt w6 v6 (msgKept M)) := hk6
      obtain ⟨vk6, hv6, hs6⟩ := hk6
      obtain ⟨ak6, ck6, hak, _, _⟩ := hs6
      clear hb6
      subst hak
      subst hv6
      go_wp2_with fail
      refine wpEarly_next hbw fun m5 => ?_
      refine wpEarly_nil ?_
      clear hbw
      rw [HMI.out]
      go_wp2_with fail
      refine (keepGiven_any b B mi R1 L1 (msgKept M) _ (w6.drewN m5) (turn_below (turn_below HTW.out HB6.out) (below_drewN m5 (Below.refl _ _))) (HK6.out.below (below_drewN m5 (Below.refl _ _))) HZM.out.1 (by omega) HSW.out.gl HSW.out.nl (Nat.le_trans (HBW.out.up hB) HB6.out.size)).mono ?_
      rintro e w7 ⟨rfl, ht7, hb7, _⟩
      have HT7 : Hid (TurnAt w7 b B _ L1) := ht7
      have HB7 : Hid (Beside B b w w7) := ((HBW.out.trans (Beside.of (HB6.out.mono (HBW.out.up hB)))).trans (Beside.of (below_drewN m5 (below_drewN_refl (Nat.le_trans (HBW.out.up hB) HB6.out.size))))).trans hb7
      have HS7 : Hid (Sound (withGive R1 mi (msgKept M))) := sound_give HSW.out mi (msgKept M) HZM.out
      clear ht7 hb7
      go_wp2_with fail
      refine (enough_any b B (withGive R1 mi (msgKept M)) L1 w7 HT7.out HS7.out.gl HS7.out.nl (by
          show (R1.given.set mi true).getD R1.me.toNat false = true
          have e := HSZ.out
          rw [hg] at e
          rw [List.getD_eq_getElem?_getD, List.getElem?_set]
          rw [List.getD_eq_getElem?_getD] at e
          split
          · split
            · rfl
            · rename_i h1 h2
              have := HGN.out
              omega
          · exact e.symm) HS7.out.fits.each (by have := HL1.out; omega) (HB7.out.up hB)).mono ?_
      rintro e w8 ⟨rfl, ht8, hb8⟩
      have HE : Hid (TurnAt w8 b B (giveR R1 M) (L1 ++ giveL R1 M) ∧ Beside B b w w8) := by
        refine ⟨?_, HB7.out.trans hb8⟩
        rw [HRR.out.1, HRR.out.2]
        exact ht8
      clear ht8 hb8 HRR
      go_wp2_with fail
      go_end0
      exact ⟨rfl, HE.out⟩
  · have hg' : s0 = false := by simpa using hg
    have HRR : Hid (giveR R1 M = beginR (withGive (withGive R1 mj R1.kept) mi (msgKept M)) ∧ giveL R1 M = beginL (withGive (withGive R1 mj R1.kept) mi (msgKept M))) := by
      have hok : ownK R1 = R1.kept := by
        have := HKC.out
        unfold ownK
        generalize R1.kept = K at this ⊢
        obtain ⟨a1, a2, a3, a4, a5⟩ := K
        simp only at this
        rw [this]
      unfold Hid giveR giveL gaveR
      rw [if_neg hc, if_neg hc, ← HSZ.out, if_neg hg, HMI.out, Int.toNat_natCast, hok, HMJ.out, Int.toNat_natCast]
      exact ⟨rfl, rfl⟩
    rw [hg'] at hcell
    go_upto_region 3 with fail
    go_quiet (fail)
    generalize nq = n1
    go_upto_region 4 with fail
    refine wp_region_two [0, 0, 0, 0, 0, 0, 0, 0, 0, 0, 0, 1] (by kernel_rfl) (by kernel_rfl) ?_
    simp only [sel, ↓reduceIte, Nat.reduceEqDiff]
    repeat (go_big_quiet_step (fail))
    refine wpQuiet_nil ?_
    intro w9 hw9
    obtain ⟨n2, rfl⟩ := hw9
    go_wp2_with fail
    refine (keepGiven_any b B mj R1 L1 R1.kept _ (w1.drewN (n1 + n2)) (turn_below HT1.out (below_drewN _ (Below.refl _ _))) ⟨.slice al R1.kept.log.length cl, by rw [HKC.out], Strs.of_own (own_drewN _ HLO.out) (by have := HFL.out.1; omega) HFL.out.2⟩ HFL.out.1 hmj3 HS1.out.gl HS1.out.nl HHB.out).mono ?_
    rintro e w2 ⟨rfl, ht2, hb2, hl2⟩
    have HTW : Hid (TurnAt w2 b B _ L1) := ht2
    have HBW : Hid (Beside B b w w2) := (HB1.out.trans (Beside.of (below_drewN (n1 + n2) (below_drewN_refl HHB.out)))).trans hb2
    have HSW : Hid (Sound (withGive R1 mj R1.kept)) := sound_give HS1.out mj R1.kept HFL.out
    have HBMW : Hid (Box w2 w.heap.size _ _) := Box.leaves (w := w1.drewN (n1 + n2)) HBM1.out hl2 HOF1.out
    have HMSW : Hid (∀ W, Below w2.heap.size w2 W → MsgAt W _ M) := fun W hW => HMA.out W (HBW.out.trans (Beside.of (hW.mono (HBW.out.up hB))))
    clear ht2 hb2 hl2 x0 x1 x2 x3 x4 x5 x6 x7 x8 x9 x10 y0 y1 y2 y3 y4 y5 y6 y7 hcell
    go_wp2_with fail
    go_upto_region 5 with fail
    refine wp_region_free [0, 0, 0, 0, 1, 2] (by kernel_rfl) (by kernel_rfl) (fun h => h) (Below w2.heap.size w2) (Below.refl _ _) (fun V n hV => below_drewN n hV) ?_
    apply Exists.intro
    refine ⟨?_, ?_⟩
    · intro V hV
      have by' := HBMW.out.below hV HBMW.out.lt
      have y0 := by'.cell 0 _ rfl
      have y1 := by'.cell 1 _ rfl
      have y2 := by'.cell 2 _ rfl
      have y3 := by'.cell 3 _ rfl
      have y4 := by'.cell 4 _ rfl
      have y5 := by'.cell 5 _ rfl
      have y6 := by'.cell 6 _ rfl
      have y7 := by'.cell 7 _ rfl
      simp only [sel, ↓reduceIte, Nat.reduceEqDiff]
      repeat (go_big_quiet_step (fail))
      refine wpQuiet_nil ?_
      rfl
    · intro n5
      simp only [sel, ↓reduceIte, Nat.reduceEqDiff]
      refine wpEarly_cons ?_
      go_wp2_with fail
      refine (mtold_any M _ (w2.drewN n5) (HMSW.out (w2.drewN n5) (below_drewN _ (Below.refl _ _)))).mono ?_
      rintro e w6 ⟨v6, rfl, hk6, hb6⟩
      have hbw : Below w2.heap.size w2 w6 := ⟨hb6.os, hb6.tape, hb6.output, hb6.size, hb6.block⟩
      have HB6 : Hid (Below w2.heap.size w2 w6) := hbw
      have HK6 : Hid (KeptAt w6 v6 (msgKept M)) := hk6
      obtain ⟨vk6, hv6, hs6⟩ := hk6
      obtain ⟨ak6, ck6, hak, _, _⟩ := hs6
      clear hb6
      subst hak
      subst hv6
      go_wp2_with fail
      refine wpEarly_next hbw fun m5 => ?_
      refine wpEarly_nil ?_
      clear hbw
      rw [HMI.out]
      go_wp2_with fail
      refine (keepGiven_any b B mi (withGive R1 mj R1.kept) L1 (msgKept M) _ (w6.drewN m5) (turn_below (turn_below HTW.out HB6.out) (below_drewN m5 (Below.refl _ _))) (HK6.out.below (below_drewN m5 (Below.refl _ _))) HZM.out.1 (by omega) HSW.out.gl HSW.out.nl (Nat.le_trans (HBW.out.up hB) HB6.out.size)).mono ?_
      rintro e w7 ⟨rfl, ht7, hb7, _⟩
      have HT7 : Hid (TurnAt w7 b B _ L1) := ht7
      have HB7 : Hid (Beside B b w w7) := ((HBW.out.trans (Beside.of (HB6.out.mono (HBW.out.up hB)))).trans (Beside.of (below_drewN m5 (below_drewN_refl (Nat.le_trans (HBW.out.up hB) HB6.out.size))))).trans hb7
      have HS7 : Hid (Sound (withGive (withGive R1 mj R1.kept) mi (msgKept M))) := sound_give HSW.out mi (msgKept M) HZM.out
      clear ht7 hb7
      go_wp2_with fail
      refine (enough_any b B (withGive (withGive R1 mj R1.kept) mi (msgKept M)) L1 w7 HT7.out HS7.out.gl HS7.out.nl (by
          show ((R1.given.set mj true).set mi true).getD R1.me.toNat false = true
          have := HGN.out
          rw [HMJ.out, Int.toNat_natCast, List.getD_eq_getElem?_getD, List.getElem?_set]
          split
          · split
            · rfl
            · rename_i h1 h2
              simp at h2
              omega
          · rw [List.getElem?_set_self (by omega)]
            rfl) HS7.out.fits.each (by have := HL1.out; omega) (HB7.out.up hB)).mono ?_
      rintro e w8 ⟨rfl, ht8, hb8⟩
      have HE : Hid (TurnAt w8 b B (giveR R1 M) (L1 ++ giveL R1 M) ∧ Beside B b w w8) := by
        refine ⟨?_, HB7.out.trans hb8⟩
        rw [HRR.out.1, HRR.out.2]
        exact ht8
      clear ht8 hb8 HRR
      go_wp2_with fail
      go_end0
      exact ⟨rfl, HE.out⟩

end Go.Proofs.YtmdgkjbiicaljagDoor
