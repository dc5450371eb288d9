/- The program's own: hearGive. -/
import Derived.Test.YtmdgkjbiicaljagHearWt
import Derived.Test.YtmdgkjbiicaljagJointReplMem
namespace Go.Proofs.Ytmdgkjbiicaljag
open Go.RowKit
set_option linter.unusedVariables false
set_option linter.unusedSimpArgs false

set_option maxRecDepth 4000 in
set_option maxHeartbeats 8000000 in
theorem hearGive_any (b B : Nat) (R : ReplM) (L : List MsgM) (M : MsgM) (u : Value) (w : World) (h : TurnAt w b B R L) (hm : MsgAt w u M) (hMS : ∀ W, Beside B b w W → MsgAt W u M) (hzM : TextsIn M.log) (hs : Sound R) (hf0 : 0 ≤ M.frm) (hf1 : M.frm ≤ 2) (hn : L.length ≤ 800) (hB : B ≤ w.heap.size) :
    Calls Try.prog 24 #[.pointer (some ⟨b, 0, none⟩), u] w fun e w' => e = .returned (.tuple #[]) ∧
      TurnAt w' b B (giveR (if R.kept.view < M.view then wantR R M.view else R) M) ((L ++ if R.kept.view < M.view then wantL R M.view else []) ++ giveL (if R.kept.view < M.view then wantR R M.view else R) M) ∧ Beside B b w w' := by
  have HS1 : Hid (Sound (if R.kept.view < M.view then wantR R M.view else R)) := by
    unfold Hid
    split
    · exact sound_want hs _
    · exact hs
  have HL1 : Hid ((L ++ if R.kept.view < M.view then wantL R M.view else []).length ≤ 803) := by
    unfold Hid
    rw [List.length_append]
    split
    · have := sentAll_len (wantR R M.view) 3 0 []
      unfold wantL
      omega
    · simp; omega
  obtain ⟨mi, hmi⟩ : ∃ mi : Nat, M.frm = (mi : Int) := ⟨M.frm.toNat, by omega⟩
  have hml : mi < 3 := by omega
  have k0 : (0 : Int) ≤ (mi : Int) := by omega
  have HMA : Hid (∀ W, Beside B b w W → MsgAt W u M) := hMS
  clear hMS
  have HZM : Hid (TextsIn M.log) := hzM
  obtain ⟨vm, rfl, hs'⟩ := hm
  obtain ⟨am, cm, rfl, _, _⟩ := hs'
  have bm := Box.new w 31 [.int .i64 M.kind, .int .i64 M.frm, .int .i64 M.dst, .int .i64 M.view, .int .i64 M.normal, .int .i64 M.commit, .int .i64 M.n, .slice am M.log.length cm]
  obtain ⟨w0, hw0⟩ : ∃ w0, w0 = w.alloc (.cells #[.int .i64 M.kind, .int .i64 M.frm, .int .i64 M.dst, .int .i64 M.view, .int .i64 M.normal, .int .i64 M.commit, .int .i64 M.n, .slice am M.log.length cm] 31) := ⟨_, rfl⟩
  have hb0 : Below w.heap.size w w0 := by rw [hw0]; exact below_alloc _ _
  have hs0 : w0.heap.size = w.heap.size + 1 := by rw [hw0]; simp
  have h0 := turn_below h hb0
  have HOF : Hid (Off 47 w0 b w.heap.size) := by
    obtain ⟨vl, vh, vw, vg, vn, vs, ps, hxw, how, hmw⟩ := h
    refine ⟨by have := hxw.lt; omega, by omega, fun cs hcs c hc e => ?_⟩
    rw [hcs.uniq (hxw.below hb0 hxw.lt)] at hc
    obtain ⟨qs, _, hq⟩ := hmw
    have l1 := own_lt how.2.1
    have l2 := own_lt how.2.2.1
    have l3 := own_lt how.2.2.2.1
    have l4 := own_lt how.2.2.2.2.1.1
    have l5 := own_lt how.2.2.2.2.2.1
    have l6 := own_lt hq.1
    simp only [List.mem_cons, List.not_mem_nil, or_false] at hc
    rcases hc with rfl | rfl | rfl | rfl | rfl | rfl | rfl | rfl | rfl | rfl | rfl
    · cases e
    · cases e
    · cases e
    · cases e
    · have := l1 _ e; omega
    · cases e
    · have := l2 _ e; omega
    · have := l3 _ e; omega
    · have := l4 _ e; omega
    · have := l5 _ e; omega
    · have := l6 _ e; omega
  simp only [msgCells] at HMA ⊢
  rw [← hw0] at bm
  have HB0 : Hid (Below w.heap.size w w0) := hb0
  have HS0 : Hid (w0.heap.size = w.heap.size + 1) := hs0
  have HT : Hid (TurnAt w0 b B R L) := h0
  have HBM : Hid (Box w0 w.heap.size _ _) := bm
  have HMI : Hid (M.frm = (mi : Int)) := hmi
  have HWH : Hid (∀ W, TurnAt W b B R L → B ≤ W.heap.size → Calls _ _ _ W _) := fun W h1 h2 => wantHigher_any b B R L M (.slice am M.log.length cm) W h1 ⟨_, _, rfl⟩ hs.me0 hs.me1 (by omega) h2
  generalize (if R.kept.view < M.view then wantR R M.view else R) = R1 at *
  generalize (L ++ if R.kept.view < M.view then wantL R M.view else []) = L1 at *
  have y0 := bm.cell 0 _ rfl
  have y1 := bm.cell 1 _ rfl
  have y2 := bm.cell 2 _ rfl
  have y3 := bm.cell 3 _ rfl
  have y4 := bm.cell 4 _ rfl
  have y5 := bm.cell 5 _ rfl
  have y6 := bm.cell 6 _ rfl
  have y7 := bm.cell 7 _ rfl
  clear bm h hb0 hs0 h0 hs hmi
  go_enter Try.func24, Try.ntmps24
  go_upto_region 1 with fail
  rw [← hw0]
  clear hw0
  go_wp2_with fail
  refine (HWH.out w0 HT.out (by have := HS0.out; omega)).mono ?_
  rintro e w1 ⟨rfl, ht1, hb1, hl1⟩
  have HT1 : Hid (TurnAt w1 b B R1 L1) := ht1
  have HB1 : Hid (Beside B b w w1) := (Beside.of (HB0.out.mono hB)).trans hb1
  have bm := HBM.out.leaves hl1 HOF.out
  have HBM1 : Hid (Box w1 w.heap.size _ _) := bm
  have HOF1 : Hid (Off 47 w1 b w.heap.size) := (hl1 _ HOF.out).1
  clear hb1 hl1 y0 y1 y2 y3 y4 y5 y6 y7 HWH
  have y0 := bm.cell 0 _ rfl
  have y1 := bm.cell 1 _ rfl
  have y2 := bm.cell 2 _ rfl
  have y3 := bm.cell 3 _ rfl
  have y4 := bm.cell 4 _ rfl
  have y5 := bm.cell 5 _ rfl
  have y6 := bm.cell 6 _ rfl
  have y7 := bm.cell 7 _ rfl
  rw [HMI.out] at y1
  obtain ⟨vl, vh, vw, vg, vn, vs, ps, hx, ho, hmn⟩ := ht1
  have hs1 := HS1.out
  have hs0 : ∃ s : Bool, s = R1.given.getD R1.me.toNat false := ⟨_, rfl⟩
  obtain ⟨s0, hs0⟩ := hs0
  obtain ⟨mj, hmj⟩ : ∃ mj : Nat, R1.me = (mj : Int) := ⟨R1.me.toNat, by have := hs1.me0; omega⟩
  have hmj3 : mj < 3 := by have := hs1.me1; omega
  obtain ⟨al, cl, ah, ch, aw, cw, ag, cg, an, cn, rfl, rfl, rfl, rfl, rfl⟩ := ho.forms
  obtain ⟨g, cap, hvn, _, _, hcell0, _⟩ := own_cell ho.2.2.2.2.2.1 mj (by rw [hs1.nl]; exact hmj3)
  simp only [Value.slice.injEq, true_and] at hvn
  obtain ⟨rfl, rfl⟩ := hvn
  have hcell : w1.cell? ⟨g, mj, none⟩ = some (.bool s0) := by
    rw [hcell0, hs0, hmj]
    have : mj < R1.given.length := by rw [hs1.nl]; exact hmj3
    simp [encB, List.getD, this]
  clear hcell0
  have HLO : Hid (w1.ownsRow B 9 1 (.slice al R1.kept.log.length cl) R1.kept.log.length (R1.kept.log.map enc)) := ho.2.1
  have HFL : Hid (TextsIn R1.kept.log) := hs1.fits.log
  have HSZ : Hid (s0 = R1.given.getD R1.me.toNat false) := hs0
  have HMJ : Hid (R1.me = (mj : Int)) := hmj
  rw [hs1.nl] at hx
  have k1 : (mj : Int) < 3 := by omega
  have k2 : (0 : Int) ≤ (mj : Int) := by omega
  have HHB : Hid (B ≤ w1.heap.size) := HB1.out.up hB
  have HGN : Hid (R1.given.length = 3) := hs1.nl
  have x0 := hx.cell 0 _ rfl
  have x1 := hx.cell 1 _ rfl
  have x2 := hx.cell 2 _ rfl
  have x3 := hx.cell 3 _ rfl
  have x4 := hx.cell 4 _ rfl
  have x5 := hx.cell 5 _ rfl
  have x6 := hx.cell 6 _ rfl
  have x7 := hx.cell 7 _ rfl
  have x8 := hx.cell 8 _ rfl
  have x9 := hx.cell 9 _ rfl
  have x10 := hx.cell 10 _ rfl
  rw [hmj] at x0
  clear hx ho hmn bm hs0 hs1 hmj
  by_cases hc : R1.kept.calm = true
  · have HR : Hid (giveR R1 M = R1 ∧ giveL R1 M = []) := by
      unfold Hid giveR giveL
      rw [if_pos hc, if_pos hc]
      exact ⟨rfl, rfl⟩
    rw [hc] at x3
    go_wp2_with fail
    refine bodyPost_ret (results_none rfl _ _ _) rfl ?_
    refine ⟨rfl, ?_, HB1.out⟩
    rw [HR.out.1, HR.out.2, List.append_nil]
    exact HT1.out
  have hc' : R1.kept.calm = false := by simpa using hc
  have HKC : Hid (R1.kept.calm = false) := hc'
  rw [hc'] at x3
  by_cases hg : s0 = true
  · have HRR : Hid (giveR R1 M = beginR (withGive R1 mi (msgKept M)) ∧ giveL R1 M = beginL (withGive R1 mi (msgKept M))) := by
      unfold Hid giveR giveL gaveR
      rw [if_neg hc, if_neg hc, ← HSZ.out, if_pos hg, HMI.out, Int.toNat_natCast]
      exact ⟨rfl, rfl⟩
    rw [hg] at hcell
    go_upto_region 3 with fail
    go_quiet (fail)
    generalize nq = n1
    have HTW : Hid (TurnAt w1 b B R1 L1) := HT1.out
    have HBW : Hid (Beside B b w w1) := HB1.out
    have HSW : Hid (Sound R1) := HS1.out
    have HBMW : Hid (Box w1 w.heap.size _ _) := HBM1.out
    have HMSW : Hid (∀ W, Below w1.heap.size w1 W → MsgAt W _ M) := fun W hW => HMA.out W (HBW.out.trans (Beside.of (hW.mono (HBW.out.up hB))))
    clear x0 x1 x2 x3 x4 x5 x6 x7 x8 x9 x10 y0 y1 y2 y3 y4 y5 y6 y7 hcell
    go_upto_region 5 with fail
    refine wp_region_free [0, 0, 0, 0, 1, 2] (by kernel_rfl) (by kernel_rfl) (fun h => h) (Below w1.heap.size w1) (below_drewN n1 (Below.refl _ _)) (fun V n hV => below_drewN n hV) ?_
    apply Exists.intro
    refine ⟨?_, ?_⟩
    · intro V hV
      have by' := HBMW.out.below hV HBMW.out.lt
      have y0 := by'.cell 0 _ rfl
      have y1 := by'.cell 1 _ rfl
      have y2 := by'.cell 2 _ rfl
      have y3 := by'.cell 3 _ rfl
      have y4 := by'.cell 4 _ rfl
      have y5 := by'.cell 5 _ rfl
      have y6 := by'.cell 6 _ rfl
      have y7 := by'.cell 7 _ rfl
      simp only [sel, ↓reduceIte, Nat.reduceEqDiff]
      repeat (go_big_quiet_step (fail))
      refine wpQuiet_nil ?_
      rfl
    · intro n5
      simp only [sel, ↓reduceIte, Nat.reduceEqDiff]
      refine wpEarly_cons ?_
      go_wp2_with fail
      refine (told_any M _ (w1.drewN (n1 + n5)) (HMSW.out (w1.drewN (n1 + n5)) (below_drewN _ (Below.refl _ _)))).mono ?_
      rintro e w6 ⟨v6, rfl, hk6, hb6⟩
      have hbw : Below w1.heap.size w1 w6 := ⟨hb6.os, hb6.tape, hb6.output, hb6.size, hb6.block⟩
      have HB6 : Hid (Below w1.heap.size w1 w6) := hbw
      have HK6 : Hid (KeptAt w6 v6 (msgKept M)) := hk6
      obtain ⟨vk6, hv6, hs6⟩ := hk6
      obtain ⟨ak6, ck6, hak, _, _⟩ := hs6
      clear hb6
      subst hak
      subst hv6
      go_wp2_with fail
      refine wpEarly_next hbw fun m5 => ?_
      refine wpEarly_nil ?_
      clear hbw
      rw [HMI.out]
      go_wp2_with fail
      refine (keepGiven_any b B mi R1 L1 (msgKept M) _ (w6.drewN m5) (turn_below (turn_below HTW.out HB6.out) (below_drewN m5 (Below.refl _ _))) (HK6.out.below (below_drewN m5 (Below.refl _ _))) HZM.out.1 (by omega) HSW.out.gl HSW.out.nl (Nat.le_trans (HBW.out.up hB) HB6.out.size)).mono ?_
      rintro e w7 ⟨rfl, ht7, hb7, _⟩
      have HT7 : Hid (TurnAt w7 b B _ L1) := ht7
      have HB7 : Hid (Beside B b w w7) := ((HBW.out.trans (Beside.of (HB6.out.mono (HBW.out.up hB)))).trans (Beside.of (below_drewN m5 (below_drewN_refl (Nat.le_trans (HBW.out.up hB) HB6.out.size))))).trans hb7
      have HS7 : Hid (Sound (withGive R1 mi (msgKept M))) := sound_give HSW.out mi (msgKept M) HZM.out
      clear ht7 hb7
      go_wp2_with fail
      refine (enough_any b B (withGive R1 mi (msgKept M)) L1 w7 HT7.out HS7.out.gl HS7.out.nl (by
          show (R1.given.set mi true).getD R1.me.toNat false = true
          have e := HSZ.out
          rw [hg] at e
          rw [List.getD_eq_getElem?_getD, List.getElem?_set]
          rw [List.getD_eq_getElem?_getD] at e
          split
          · split
            · rfl
            · rename_i h1 h2
              have := HGN.out
              omega
          · exact e.symm) HS7.out.fits.each (by have := HL1.out; omega) (HB7.out.up hB)).mono ?_
      rintro e w8 ⟨rfl, ht8, hb8⟩
      have HE : Hid (TurnAt w8 b B (giveR R1 M) (L1 ++ giveL R1 M) ∧ Beside B b w w8) := by
        refine ⟨?_, HB7.out.trans hb8⟩
        rw [HRR.out.1, HRR.out.2]
        exact ht8
      clear ht8 hb8 HRR
      go_wp2_with fail
      go_end0
      exact ⟨rfl, HE.out⟩
  · have hg' : s0 = false := by simpa using hg
    have HRR : Hid (giveR R1 M = beginR (withGive (withGive R1 mj R1.kept) mi (msgKept M)) ∧ giveL R1 M = beginL (withGive (withGive R1 mj R1.kept) mi (msgKept M))) := by
      have hok : ownK R1 = R1.kept := by
        have := HKC.out
        unfold ownK
        generalize R1.kept = K at this ⊢
        obtain ⟨a1, a2, a3, a4, a5⟩ := K
        simp only at this
        rw [this]
      unfold Hid giveR giveL gaveR
      rw [if_neg hc, if_neg hc, ← HSZ.out, if_neg hg, HMI.out, Int.toNat_natCast, hok, HMJ.out, Int.toNat_natCast]
      exact ⟨rfl, rfl⟩
    rw [hg'] at hcell
    go_upto_region 3 with fail
    go_quiet (fail)
    generalize nq = n1
    go_upto_region 4 with fail
    refine wp_region_two [0, 0, 0, 0, 0, 0, 0, 0, 0, 0, 0, 1] (by kernel_rfl) (by kernel_rfl) ?_
    simp only [sel, ↓reduceIte, Nat.reduceEqDiff]
    repeat (go_big_quiet_step (fail))
    refine wpQuiet_nil ?_
    intro w9 hw9
    obtain ⟨n2, rfl⟩ := hw9
    go_wp2_with fail
    refine (keepGiven_any b B mj R1 L1 R1.kept _ (w1.drewN (n1 + n2)) (turn_below HT1.out (below_drewN _ (Below.refl _ _))) ⟨.slice al R1.kept.log.length cl, by rw [HKC.out], Strs.of_own (own_drewN _ HLO.out) (by have := HFL.out.1; omega) HFL.out.2⟩ HFL.out.1 hmj3 HS1.out.gl HS1.out.nl HHB.out).mono ?_
    rintro e w2 ⟨rfl, ht2, hb2, hl2⟩
    have HTW : Hid (TurnAt w2 b B _ L1) := ht2
    have HBW : Hid (Beside B b w w2) := (HB1.out.trans (Beside.of (below_drewN (n1 + n2) (below_drewN_refl HHB.out)))).trans hb2
    have HSW : Hid (Sound (withGive R1 mj R1.kept)) := sound_give HS1.out mj R1.kept HFL.out
    have HBMW : Hid (Box w2 w.heap.size _ _) := Box.leaves (w := w1.drewN (n1 + n2)) HBM1.out hl2 HOF1.out
    have HMSW : Hid (∀ W, Below w2.heap.size w2 W → MsgAt W _ M) := fun W hW => HMA.out W (HBW.out.trans (Beside.of (hW.mono (HBW.out.up hB))))
    clear ht2 hb2 hl2 x0 x1 x2 x3 x4 x5 x6 x7 x8 x9 x10 y0 y1 y2 y3 y4 y5 y6 y7 hcell
    go_wp2_with fail
    go_upto_region 5 with fail
    refine wp_region_free [0, 0, 0, 0, 1, 2] (by kernel_rfl) (by kernel_rfl) (fun h => h) (Below w2.heap.size w2) (Below.refl _ _) (fun V n hV => below_drewN n hV) ?_
    apply Exists.intro
    refine ⟨?_, ?_⟩
    · intro V hV
      have by' := HBMW.out.below hV HBMW.out.lt
      have y0 := by'.cell 0 _ rfl
      have y1 := by'.cell 1 _ rfl
      have y2 := by'.cell 2 _ rfl
      have y3 := by'.cell 3 _ rfl
      have y4 := by'.cell 4 _ rfl
      have y5 := by'.cell 5 _ rfl
      have y6 := by'.cell 6 _ rfl
      have y7 := by'.cell 7 _ rfl
      simp only [sel, ↓reduceIte, Nat.reduceEqDiff]
      repeat (go_big_quiet_step (fail))
      refine wpQuiet_nil ?_
      rfl
    · intro n5
      simp only [sel, ↓reduceIte, Nat.reduceEqDiff]
      refine wpEarly_cons ?_
      go_wp2_with fail
      refine (told_any M _ (w2.drewN n5) (HMSW.out (w2.drewN n5) (below_drewN _ (Below.refl _ _)))).mono ?_
      rintro e w6 ⟨v6, rfl, hk6, hb6⟩
      have hbw : Below w2.heap.size w2 w6 := ⟨hb6.os, hb6.tape, hb6.output, hb6.size, hb6.block⟩
      have HB6 : Hid (Below w2.heap.size w2 w6) := hbw
      have HK6 : Hid (KeptAt w6 v6 (msgKept M)) := hk6
      obtain ⟨vk6, hv6, hs6⟩ := hk6
      obtain ⟨ak6, ck6, hak, _, _⟩ := hs6
      clear hb6
      subst hak
      subst hv6
      go_wp2_with fail
      refine wpEarly_next hbw fun m5 => ?_
      refine wpEarly_nil ?_
      clear hbw
      rw [HMI.out]
      go_wp2_with fail
      refine (keepGiven_any b B mi (withGive R1 mj R1.kept) L1 (msgKept M) _ (w6.drewN m5) (turn_below (turn_below HTW.out HB6.out) (below_drewN m5 (Below.refl _ _))) (HK6.out.below (below_drewN m5 (Below.refl _ _))) HZM.out.1 (by omega) HSW.out.gl HSW.out.nl (Nat.le_trans (HBW.out.up hB) HB6.out.size)).mono ?_
      rintro e w7 ⟨rfl, ht7, hb7, _⟩
      have HT7 : Hid (TurnAt w7 b B _ L1) := ht7
      have HB7 : Hid (Beside B b w w7) := ((HBW.out.trans (Beside.of (HB6.out.mono (HBW.out.up hB)))).trans (Beside.of (below_drewN m5 (below_drewN_refl (Nat.le_trans (HBW.out.up hB) HB6.out.size))))).trans hb7
      have HS7 : Hid (Sound (withGive (withGive R1 mj R1.kept) mi (msgKept M))) := sound_give HSW.out mi (msgKept M) HZM.out
      clear ht7 hb7
      go_wp2_with fail
      refine (enough_any b B (withGive (withGive R1 mj R1.kept) mi (msgKept M)) L1 w7 HT7.out HS7.out.gl HS7.out.nl (by
          show ((R1.given.set mj true).set mi true).getD R1.me.toNat false = true
          have := HGN.out
          rw [HMJ.out, Int.toNat_natCast, List.getD_eq_getElem?_getD, List.getElem?_set]
          split
          · split
            · rfl
            · rename_i h1 h2
              simp at h2
              omega
          · rw [List.getElem?_set_self (by omega)]
            rfl) HS7.out.fits.each (by have := HL1.out; omega) (HB7.out.up hB)).mono ?_
      rintro e w8 ⟨rfl, ht8, hb8⟩
      have HE : Hid (TurnAt w8 b B (giveR R1 M) (L1 ++ giveL R1 M) ∧ Beside B b w w8) := by
        refine ⟨?_, HB7.out.trans hb8⟩
        rw [HRR.out.1, HRR.out.2]
        exact ht8
      clear ht8 hb8 HRR
      go_wp2_with fail
      go_end0
      exact ⟨rfl, HE.out⟩

end Go.Proofs.Ytmdgkjbiicaljag

/- The plain mathematics of the protocol: what is committed is the same wherever it is, and stays. Ghosts: the log of each view (cur), with which it began (start), who was in order in it (was), and how much of it was there (vouch). -/
namespace Go.Proofs.Ytmdgkjbiicaljag
set_option linter.unusedVariables false

abbrev Ent := List UInt8
structure Ghost where
  cur : Int → List Ent
  start : Int → List Ent
  was : Nat → Int → Bool
  vouch : Nat → Int → Nat
def ldr (v : Int) : Nat := (v % 3).toNat
theorem ldr_lt (v : Int) : ldr v < 3 := by unfold ldr; omega
def upd {α : Type} (f : Nat → α) (i : Nat) (x : α) : Nat → α := fun j => if j = i then x else f j
theorem upd_self {α : Type} (f : Nat → α) (i : Nat) (x : α) : upd f i x i = x := if_pos rfl
theorem upd_ne {α : Type} (f : Nat → α) (i : Nat) (x : α) {j : Nat} (h : j ≠ i) : upd f i x j = f j := if_neg h

/-- Committed, in a view up to n. -/
def Cat (g : Ghost) (n : Int) (p : List Ent) : Prop :=
  ∃ u, u ≤ n ∧ ∃ i j, i < 3 ∧ j < 3 ∧ i ≠ j ∧ g.was i u = true ∧ g.was j u = true ∧ p <+: (g.cur u).take (min (g.vouch i u) (g.vouch j u))
theorem Cat.mono {g : Ghost} {n m : Int} {p : List Ent} (h : Cat g n p) (hn : n ≤ m) : Cat g m p := by
  obtain ⟨u, hu, r⟩ := h
  exact ⟨u, by omega, r⟩
theorem Cat.pre {g : Ghost} {n : Int} {p q : List Ent} (h : Cat g n p) (hq : q <+: p) : Cat g n q := by
  obtain ⟨u, hu, i, j, h1, h2, h3, h4, h5, h6⟩ := h
  exact ⟨u, hu, i, j, h1, h2, h3, h4, h5, hq.trans h6⟩

/-- How much of a view's log a replica may still vouch for. -/
def pot (g : Ghost) (k : Nat → KeptM) (i : Nat) (v : Int) : Nat :=
  if v < (k i).view then (if g.was i v = true then g.vouch i v else 0) else (g.cur v).length

structure GiveOk (g : Ghost) (k : Nat → KeptM) (j : Nat) (v : Int) (x : KeptM) : Prop where
  view : v ≤ (k j).view
  old : x.normal < v
  was : g.was j x.normal = true
  gap : ∀ u, x.normal < u → u < v → g.was j u = false
  log : x.log = (g.cur x.normal).take (g.vouch j x.normal)
  c0 : 0 ≤ x.commit
  c1 : x.commit ≤ x.log.length
  cat : Cat g x.normal (x.log.take x.commit.toNat)

structure LeadOk (g : Ghost) (m : MsgM) : Prop where
  was : g.was (ldr m.view) m.view = true
  pre : m.log <+: g.cur m.view
  start : (g.start m.view).length ≤ m.log.length
  c0 : 0 ≤ m.commit
  c1 : m.commit ≤ m.log.length
  cat : Cat g m.view (m.log.take m.commit.toNat)

structure MsgOk (g : Ghost) (k : Nat → KeptM) (m : MsgM) : Prop where
  lead : m.kind = 1 → LeadOk g m
  has : m.kind = 2 → ∃ i : Nat, i < 3 ∧ m.frm = (i : Int) ∧ g.was i m.view = true ∧ m.n ≤ g.vouch i m.view
  give : m.kind = 4 → ∃ i : Nat, i < 3 ∧ m.frm = (i : Int) ∧ GiveOk g k i m.view (msgKept m)

/-- What holds of one replica. -/
structure OneOk (g : Ghost) (i : Nat) (K : KeptM) : Prop where
  n0 : 0 ≤ K.normal
  nv : K.normal ≤ K.view
  calm : K.calm = true → K.normal = K.view
  uncalm : K.calm = false → K.normal < K.view
  was : g.was i K.normal = true
  log : K.log = (g.cur K.normal).take (g.vouch i K.normal)
  c0 : 0 ≤ K.commit
  c1 : K.commit ≤ K.log.length
  cat : Cat g K.normal (K.log.take K.commit.toNat)
  top : ∀ v, g.was i v = true → v ≤ K.normal

structure GhostOk (g : Ghost) : Prop where
  zero : ∀ i, i < 3 → g.was i 0 = true
  low : ∀ i v, i < 3 → g.was i v = true → 0 ≤ v ∧ (g.start v).length ≤ g.vouch i v ∧ g.vouch i v ≤ (g.cur v).length ∧ g.was (ldr v) v = true
  pre : ∀ v, g.start v <+: g.cur v
  lead : ∀ v, g.was (ldr v) v = true → g.vouch (ldr v) v = (g.cur v).length
  none : ∀ v, g.was (ldr v) v = false → g.cur v = []

structure Inv (g : Ghost) (k : Nat → KeptM) (gv : Nat → Nat → Option KeptM) (M : List MsgM) : Prop where
  gh : GhostOk g
  one : ∀ i, i < 3 → OneOk g i (k i)
  two : ∀ w, g.was (ldr w) w = true → ∀ i j, i < 3 → j < 3 → i ≠ j → w ≤ (k i).view ∨ w ≤ (k j).view
  all : ∀ w v, g.was (ldr w) w = true → v < w → ∀ i j, i < 3 → j < 3 → i ≠ j → (g.cur v).take (min (pot g k i v) (pot g k j v)) <+: g.start w
  msgs : ∀ m ∈ M, MsgOk g k m
  gives : ∀ i, i < 3 → (k i).calm = false → ∀ j x, j < 3 → gv i j = some x → GiveOk g k j (k i).view x
  own : ∀ i, i < 3 → (k i).calm = false → ∀ x, gv i i = some x → x.commit = (k i).commit

/-- Ghosts only grow. -/
structure Ext (g g' : Ghost) : Prop where
  was : ∀ i v, g.was i v = true → g'.was i v = true
  cur : ∀ v, g.cur v <+: g'.cur v
  vouch : ∀ i v, g.was i v = true → g.vouch i v ≤ g'.vouch i v
  start : ∀ v, g.was (ldr v) v = true → g'.start v = g.start v
theorem Ext.refl (g : Ghost) : Ext g g := ⟨fun _ _ h => h, fun _ => List.prefix_rfl, fun _ _ _ => Nat.le_refl _, fun _ _ => rfl⟩
theorem Ext.trans {a b c : Ghost} (h : Ext a b) (h' : Ext b c) : Ext a c :=
  ⟨fun i v x => h'.was i v (h.was i v x), fun v => (h.cur v).trans (h'.cur v), fun i v x => Nat.le_trans (h.vouch i v x) (h'.vouch i v (h.was i v x)), fun v x => (h'.start v (h.was _ v x)).trans (h.start v x)⟩

theorem take_prefix_of_le {l : List Ent} {a b : Nat} (h : a ≤ b) : l.take a <+: l.take b := by
  have := List.take_prefix a (l.take b)
  rwa [List.take_take, Nat.min_eq_left h] at this
theorem take_of_prefix {l l' : List Ent} (h : l <+: l') {n : Nat} (hn : n ≤ l.length) : l'.take n = l.take n := by
  obtain ⟨t, rfl⟩ := h
  exact List.take_append_of_le_length hn
theorem take_len_of_prefix {l l' : List Ent} (h : l <+: l') : l'.take l.length = l := by
  rw [take_of_prefix h (Nat.le_refl _), List.take_length]

theorem cat_ext {g g' : Ghost} {n : Int} {p : List Ent} (ho : GhostOk g) (he : Ext g g') (h : Cat g n p) : Cat g' n p := by
  obtain ⟨u, hu, i, j, h1, h2, h3, h4, h5, h6⟩ := h
  refine ⟨u, hu, i, j, h1, h2, h3, he.was _ _ h4, he.was _ _ h5, h6.trans ?_⟩
  have a := he.vouch i u h4
  have b := he.vouch j u h5
  have c := (ho.low i u h1 h4).2.2.1
  have d := he.cur u
  rw [← take_of_prefix d (by omega)]
  exact take_prefix_of_le (by omega)

theorem cat_nil {g : Ghost} (ho : GhostOk g) {n : Int} (hn : 0 ≤ n) : Cat g n [] :=
  ⟨0, hn, 0, 1, by omega, by omega, by omega, ho.zero 0 (by omega), ho.zero 1 (by omega), List.nil_prefix⟩

theorem vouch_pot {g : Ghost} (ho : GhostOk g) (k : Nat → KeptM) {i : Nat} {u : Int} (hi : i < 3) (h : g.was i u = true) : g.vouch i u ≤ pot g k i u := by
  have := (ho.low i u hi h).2.2.1
  unfold pot
  rw [if_pos h]
  split
  · exact Nat.le_refl _
  · exact this

/-- What a step of the whole does to ghosts and views. -/
structure Moves (g g' : Ghost) (k k' : Nat → KeptM) : Prop where
  ext : Ext g g'
  view : ∀ j, j < 3 → (k j).view ≤ (k' j).view
  frozen : ∀ j u, j < 3 → u < (k j).view → g'.was j u = g.was j u ∧ g'.vouch j u = g.vouch j u

theorem GiveOk.move {g g' : Ghost} {k k' : Nat → KeptM} {j : Nat} {v : Int} {x : KeptM} (ho : GhostOk g) (hj : j < 3) (hm : Moves g g' k k') (h : GiveOk g k j v x) : GiveOk g' k' j v x := by
  have hx : x.normal < (k j).view := by have := h.old; have := h.view; omega
  obtain ⟨f1, f2⟩ := hm.frozen j x.normal hj hx
  refine ⟨by have := h.view; have := hm.view j hj; omega, h.old, hm.ext.was _ _ h.was, fun u h1 h2 => ?_, ?_, h.c0, h.c1, cat_ext ho hm.ext h.cat⟩
  · rw [(hm.frozen j u hj (by have := h.view; omega)).1]
    exact h.gap u h1 h2
  · rw [f2, take_of_prefix (hm.ext.cur _) (ho.low j _ hj h.was).2.2.1]
    exact h.log

theorem LeadOk.ext {g g' : Ghost} {m : MsgM} (ho : GhostOk g) (he : Ext g g') (h : LeadOk g m) : LeadOk g' m :=
  ⟨he.was _ _ h.was, h.pre.trans (he.cur _), by rw [he.start _ h.was]; exact h.start, h.c0, h.c1, cat_ext ho he h.cat⟩

theorem MsgOk.move {g g' : Ghost} {k k' : Nat → KeptM} {m : MsgM} (ho : GhostOk g) (hm : Moves g g' k k') (h : MsgOk g k m) : MsgOk g' k' m := by
  refine ⟨fun e => (h.lead e).ext ho hm.ext, fun e => ?_, fun e => ?_⟩
  · obtain ⟨i, hi, hf, h1, h2⟩ := h.has e
    have := hm.ext.vouch i _ h1
    exact ⟨i, hi, hf, hm.ext.was _ _ h1, by omega⟩
  · obtain ⟨i, hi, hf, h1⟩ := h.give e
    exact ⟨i, hi, hf, h1.move ho hi hm⟩

theorem OneOk.ext {g g' : Ghost} {i : Nat} {K : KeptM} (hi : i < 3) (ho : GhostOk g) (he : Ext g g') (h : OneOk g i K) (h1 : g'.vouch i K.normal = g.vouch i K.normal) (h2 : ∀ v, g'.was i v = g.was i v) : OneOk g' i K := by
  refine ⟨h.n0, h.nv, h.calm, h.uncalm, he.was _ _ h.was, ?_, h.c0, h.c1, cat_ext ho he h.cat, fun v hv => h.top v (by rw [← h2]; exact hv)⟩
  rw [h1, take_of_prefix (he.cur _) (ho.low i _ hi h.was).2.2.1]
  exact h.log

/-- For views that had begun, what 'all' says stays. -/
theorem all_move {g g' : Ghost} {k k' : Nat → KeptM} {gv : Nat → Nat → Option KeptM} {M : List MsgM} (hI : Inv g k gv M) (hm : Moves g g' k k') (w v : Int) (hw : g.was (ldr w) w = true) (hv : v < w) (i j : Nat) (hi : i < 3) (hj : j < 3) (hij : i ≠ j) :
    (g'.cur v).take (min (pot g' k' i v) (pot g' k' j v)) <+: g'.start w := by
  rw [hm.ext.start w hw]
  refine List.IsPrefix.trans ?_ (hI.all w v hw hv i j hi hj hij)
  have key : ∀ a b, a < 3 → b < 3 → v < (k a).view → pot g' k' a v = pot g k a v ∧ min (pot g' k' a v) (pot g' k' b v) ≤ min (pot g k a v) (pot g k b v) ∧ pot g k a v ≤ (g.cur v).length := by
    intro a b ha hb hva
    obtain ⟨f1, f2⟩ := hm.frozen a v ha hva
    have hva' : v < (k' a).view := by have := hm.view a ha; omega
    have e1 : pot g' k' a v = pot g k a v := by unfold pot; rw [if_pos hva, if_pos hva', f1, f2]
    have l1 : pot g k a v ≤ (g.cur v).length := by
      unfold pot
      rw [if_pos hva]
      split
      · rename_i hw; exact (hI.gh.low a v ha hw).2.2.1
      · omega
    refine ⟨e1, ?_, l1⟩
    by_cases hvb : v < (k b).view
    · obtain ⟨f3, f4⟩ := hm.frozen b v hb hvb
      have hvb' : v < (k' b).view := by have := hm.view b hb; omega
      have e2 : pot g' k' b v = pot g k b v := by unfold pot; rw [if_pos hvb, if_pos hvb', f3, f4]
      rw [e1, e2]
      exact Nat.le_refl _
    · have e2 : pot g k b v = (g.cur v).length := by unfold pot; rw [if_neg hvb]
      rw [e1, e2]
      omega
  have fin : ∀ m n : Nat, m ≤ n → n ≤ (g.cur v).length → (g'.cur v).take m <+: (g.cur v).take n := fun m n hmn hn => by
    rw [take_of_prefix (hm.ext.cur v) (by omega)]
    exact take_prefix_of_le hmn
  rcases hI.two w hw i j hi hj hij with h | h
  · obtain ⟨_, h2, h3⟩ := key i j hi hj (by omega)
    exact fin _ _ h2 (by omega)
  · obtain ⟨_, h2, h3⟩ := key j i hj hi (by omega)
    rw [Nat.min_comm, Nat.min_comm (pot g k i v)]
    exact fin _ _ h2 (by omega)

/-- One replica's step: what it owes. -/
theorem Inv.step {g g' : Ghost} {k : Nat → KeptM} {gv : Nat → Nat → Option KeptM} {M : List MsgM} (hI : Inv g k gv M) (i0 : Nat) (h0 : i0 < 3) (K' : KeptM) (G' : Nat → Option KeptM)
    (hm : Moves g g' k (upd k i0 K')) (hg : GhostOk g') (hone : OneOk g' i0 K')
    (hoth : ∀ j, j < 3 → j ≠ i0 → g'.vouch j (k j).normal = g.vouch j (k j).normal ∧ ∀ v, g'.was j v = g.was j v)
    (hnew : ∀ w, g'.was (ldr w) w = true → g.was (ldr w) w = false →
      (∀ i j, i < 3 → j < 3 → i ≠ j → w ≤ (upd k i0 K' i).view ∨ w ≤ (upd k i0 K' j).view) ∧
      ∀ v, v < w → ∀ i j, i < 3 → j < 3 → i ≠ j → (g'.cur v).take (min (pot g' (upd k i0 K') i v) (pot g' (upd k i0 K') j v)) <+: g'.start w)
    (hgiv : K'.calm = false → ∀ j x, j < 3 → G' j = some x → GiveOk g' (upd k i0 K') j K'.view x)
    (hown : K'.calm = false → ∀ x, G' i0 = some x → x.commit = K'.commit) :
    Inv g' (upd k i0 K') (upd gv i0 G') M := by
  refine ⟨hg, fun i hi => ?_, fun w hw i j hi hj hij => ?_, fun w v hw hv i j hi hj hij => ?_, fun m hmM => (hI.msgs m hmM).move hI.gh hm, fun i hi hc j x hj hx => ?_, fun i hi hc x hx => ?_⟩
  · by_cases e : i = i0
    · subst e; rw [upd_self]; exact hone
    · rw [upd_ne _ _ _ e]
      exact (hI.one i hi).ext hi hI.gh hm.ext (hoth i hi e).1 (hoth i hi e).2
  · by_cases e : g.was (ldr w) w = true
    · rcases hI.two w e i j hi hj hij with h | h
      · exact Or.inl (Int.le_trans h (hm.view i hi))
      · exact Or.inr (Int.le_trans h (hm.view j hj))
    · exact (hnew w hw (by simpa using e)).1 i j hi hj hij
  · by_cases e : g.was (ldr w) w = true
    · exact all_move hI hm w v e hv i j hi hj hij
    · exact (hnew w hw (by simpa using e)).2 v hv i j hi hj hij
  · by_cases e : i = i0
    · subst e
      rw [upd_self] at hc ⊢
      rw [upd_self] at hx
      exact hgiv hc j x hj hx
    · rw [upd_ne _ _ _ e] at hc ⊢
      rw [upd_ne _ _ _ e] at hx
      exact (hI.gives i hi hc j x hj hx).move hI.gh hj hm
  · by_cases e : i = i0
    · subst e
      rw [upd_self] at hc ⊢
      rw [upd_self] at hx
      exact hown hc x hx
    · rw [upd_ne _ _ _ e] at hc ⊢
      rw [upd_ne _ _ _ e] at hx
      exact hI.own i hi hc x hx

/-- Messages: fewer, or more that may be. -/
theorem Inv.less {g : Ghost} {k : Nat → KeptM} {gv : Nat → Nat → Option KeptM} {M M' : List MsgM} (hI : Inv g k gv M) (h : ∀ m ∈ M', MsgOk g k m) : Inv g k gv M' :=
  ⟨hI.gh, hI.one, hI.two, hI.all, h, hI.gives, hI.own⟩

/-- A step that leaves the ghosts as they are. -/
theorem Inv.stay {g : Ghost} {k : Nat → KeptM} {gv : Nat → Nat → Option KeptM} {M : List MsgM} (hI : Inv g k gv M) (i0 : Nat) (h0 : i0 < 3) (K' : KeptM) (G' : Nat → Option KeptM)
    (hv : (k i0).view ≤ K'.view) (hone : OneOk g i0 K')
    (hgiv : K'.calm = false → ∀ j x, j < 3 → G' j = some x → GiveOk g (upd k i0 K') j K'.view x)
    (hown : K'.calm = false → ∀ x, G' i0 = some x → x.commit = K'.commit) : Inv g (upd k i0 K') (upd gv i0 G') M := by
  refine hI.step i0 h0 K' G' ⟨Ext.refl g, fun j hj => ?_, fun j u _ _ => ⟨rfl, rfl⟩⟩ hI.gh hone (fun j _ _ => ⟨rfl, fun _ => rfl⟩) (fun w h1 h2 => by rw [h1] at h2; cases h2) hgiv hown
  by_cases e : j = i0
  · subst e; rw [upd_self]; exact hv
  · rw [upd_ne _ _ _ e]; exact Int.le_refl _

/-- Any two of what is committed go one behind another. -/
theorem Inv.comparable {g : Ghost} {k : Nat → KeptM} {gv : Nat → Nat → Option KeptM} {M : List MsgM} (hI : Inv g k gv M) {n m : Int} {p q : List Ent} (hp : Cat g n p) (hq : Cat g m q) : p <+: q ∨ q <+: p := by
  have up : ∀ {n : Int} {p : List Ent}, Cat g n p → ∃ u, u ≤ n ∧ g.was (ldr u) u = true ∧ p <+: g.cur u ∧ ∀ w, u < w → g.was (ldr w) w = true → p <+: g.start w := by
    intro n p h
    obtain ⟨u, hu, i, j, h1, h2, h3, h4, h5, h6⟩ := h
    refine ⟨u, hu, (hI.gh.low i u h1 h4).2.2.2, h6.trans (List.take_prefix _ _), fun w hw hb => ?_⟩
    refine h6.trans (List.IsPrefix.trans (take_prefix_of_le ?_) (hI.all w u hb hw i j h1 h2 h3))
    have a := (hI.gh.low i u h1 h4).2.2.1
    have b := (hI.gh.low j u h2 h5).2.2.1
    have pi : g.vouch i u ≤ pot g k i u := vouch_pot hI.gh k h1 h4
    have pj : g.vouch j u ≤ pot g k j u := vouch_pot hI.gh k h2 h5
    omega
  obtain ⟨u, _, bu, pu, su⟩ := up hp
  obtain ⟨x, _, bx, px, sx⟩ := up hq
  rcases Int.lt_trichotomy u x with h | h | h
  · exact List.prefix_or_prefix_of_prefix ((su x h bx).trans (hI.gh.pre x)) px
  · subst h
    exact List.prefix_or_prefix_of_prefix pu px
  · exact List.prefix_or_prefix_of_prefix pu ((sx u h bu).trans (hI.gh.pre u))

/-- What is committed in a view up to n stands at the start of each view above it, and in the log of view n. -/
theorem Inv.start_of {g : Ghost} {k : Nat → KeptM} {gv : Nat → Nat → Option KeptM} {M : List MsgM} (hI : Inv g k gv M) {n : Int} {p : List Ent} (hp : Cat g n p) {w : Int} (hw : n < w) (hb : g.was (ldr w) w = true) : p <+: g.start w := by
  obtain ⟨u, hu, i, j, h1, h2, h3, h4, h5, h6⟩ := hp
  refine h6.trans (List.IsPrefix.trans (take_prefix_of_le ?_) (hI.all w u hb (by omega) i j h1 h2 h3))
  have a := (hI.gh.low i u h1 h4).2.2.1
  have b := (hI.gh.low j u h2 h5).2.2.1
  have pi : g.vouch i u ≤ pot g k i u := vouch_pot hI.gh k h1 h4
  have pj : g.vouch j u ≤ pot g k j u := vouch_pot hI.gh k h2 h5
  omega
theorem Inv.cur_of {g : Ghost} {k : Nat → KeptM} {gv : Nat → Nat → Option KeptM} {M : List MsgM} (hI : Inv g k gv M) {n : Int} {p : List Ent} (hp : Cat g n p) (hb : g.was (ldr n) n = true) : p <+: g.cur n := by
  obtain ⟨u, hu, i, j, h1, h2, h3, h4, h5, h6⟩ := hp
  by_cases e : u = n
  · subst e; exact h6.trans (List.take_prefix _ _)
  · exact (hI.start_of ⟨u, Int.le_refl _, i, j, h1, h2, h3, h4, h5, h6⟩ (show u < n by omega) hb).trans (hI.gh.pre n)

end Go.Proofs.Ytmdgkjbiicaljag
