/- The document's heard, at a Give of a view above. -/
import Derived.Test.YtmdgkjbiicaljagJointWantFar
import Derived.Test.YtmdgkjbiicaljagJointNumIs
namespace Go.Proofs.Ytmdgkjbiicaljag
open Go.RowKit
set_option linter.unusedVariables false
set_option linter.unusedSimpArgs false

set_option maxRecDepth 4000 in
set_option maxHeartbeats 32000000 in
theorem heardGiveA_any (b B : Nat) (R : ReplM) (M : MsgM) (u : Value) (w : World) (h : HeldAt w b B R) (hm : MsgAt w u M) (hk : M.kind = 4) (hf : ReplFits R) (hmf : TextsIn M.log) (hws : R.wants.length = 3) (hgs : R.gives.length = 3) (hgn : R.given.length = 3) (hme : 0 ≤ R.me) (hme' : R.me < 3) (hf0 : 0 ≤ M.frm) (hf1 : M.frm ≤ 2) (hB : B ≤ w.heap.size) (hst : ∀ W, Beside B b w W → MsgAt W u M) (hv : R.kept.view < M.view) :
    Calls Try.prog 27 #[.pointer (some ⟨b, 0, none⟩), u] w (GoesTo b B (giveR (wantR R M.view) M) (wantL R M.view ++ giveL (wantR R M.view) M) w) := by
  obtain ⟨R1, hR1⟩ : ∃ R1, R1 = wantR R M.view := ⟨_, rfl⟩
  obtain ⟨L1, hL1⟩ : ∃ L1, L1 = wantL R M.view := ⟨_, rfl⟩
  rw [← hR1, ← hL1]
  have HF1 : Hid (ReplFits R1) := by rw [hR1]; exact wantR_fits _ _ hf.log
  have H31 : Hid ((R1.wants.length = 3 ∧ R1.gives.length = 3 ∧ R1.given.length = 3) ∧ 0 ≤ R1.me ∧ R1.me < 3) := by rw [hR1]; exact ⟨⟨by simp [wantR], by simp [wantR], by simp [wantR]⟩, hme, hme'⟩
  have HLF : Hid (L1.length ≤ 3) := by rw [hL1]; exact (wantL_few _ _).1
  have HRL : Hid (R1 = wantR R M.view ∧ L1 = wantL R M.view) := ⟨hR1, hL1⟩
  obtain ⟨RR, hRR⟩ : ∃ RR, RR = giveR R1 M := ⟨_, rfl⟩
  obtain ⟨LL, hLL⟩ : ∃ LL, LL = L1 ++ giveL R1 M := ⟨_, rfl⟩
  rw [← hRR, ← hLL]
  have HRR : Hid (RR = giveR R1 M ∧ LL = L1 ++ giveL R1 M) := ⟨hRR, hLL⟩
  clear hR1 hL1 hRR hLL hws hgs hgn
  have HKD : Hid (M.kind = 4) := hk
  have HMF : Hid (TextsIn M.log) := hmf
  obtain ⟨mi, hmi⟩ : ∃ mi : Nat, M.frm = (mi : Int) := ⟨M.frm.toNat, by omega⟩
  have hm3 : mi < 3 := by omega
  have HMI : Hid (M.frm = (mi : Int) ∧ M.frm.toNat = mi ∧ mi < 3) := ⟨hmi, by omega, hm3⟩
  obtain ⟨vm, rfl, hs⟩ := hm
  have HST : Hid (Strs w vm M.log) := hs
  have HSW : Hid (∀ W, Beside B b w W → Strs W vm M.log) := fun W hW => by
    obtain ⟨v', hv', hs'⟩ := hst W hW
    have : vm = v' := by simpa [msgCells] using hv'
    rw [this]; exact hs'
  clear hst
  obtain ⟨am, cm, rfl, _, _⟩ := hs
  have bm := Box.new w 31 [.int .i64 M.kind, .int .i64 M.frm, .int .i64 M.dst, .int .i64 M.view, .int .i64 M.normal, .int .i64 M.commit, .int .i64 M.n, .slice am M.log.length cm]
  obtain ⟨w0, hw0⟩ : ∃ w0, w0 = w.alloc (.cells #[.int .i64 M.kind, .int .i64 M.frm, .int .i64 M.dst, .int .i64 M.view, .int .i64 M.normal, .int .i64 M.commit, .int .i64 M.n, .slice am M.log.length cm] 31) := ⟨_, rfl⟩
  have hb0 : Below w.heap.size w w0 := by rw [hw0]; exact below_alloc _ _
  have hs0 : w0.heap.size = w.heap.size + 1 := by rw [hw0]; simp
  simp only [msgCells]
  rw [← hw0] at bm
  have HS0 : Hid (w0.heap.size = w.heap.size + 1) := hs0
  have hbne : b ≠ w.heap.size := by
    obtain ⟨_, _, _, _, _, _, hx0, _⟩ := h
    have := hx0.lt
    omega
  have HT : Hid (HeldAt w0 b B R) := h.below hb0
  obtain ⟨vl, vh, vw, vg, vn, ps, hx, ho⟩ := h.below hb0
  obtain ⟨al, cl, ah, ch, aw, cw, ag, cg, an, cn, rfl, rfl, rfl, rfl, rfl⟩ := ho.forms
  have HX : Hid (Box w0 b _ _) := hx
  have HBM : Hid (Box w0 w.heap.size _ _) := bm
  have HB0 : Hid (Below w.heap.size w w0) := hb0
  have HBS : Hid (B ≤ w.heap.size) := hB
  have HME : Hid (0 ≤ R.me ∧ R.me < 3) := ⟨hme, hme'⟩
  have y0 := bm.cell 0 _ rfl
  have y1 := bm.cell 1 _ rfl
  have y2 := bm.cell 2 _ rfl
  have y3 := bm.cell 3 _ rfl
  have y4 := bm.cell 4 _ rfl
  have y5 := bm.cell 5 _ rfl
  have y6 := bm.cell 6 _ rfl
  have y7 := bm.cell 7 _ rfl
  have x0 := hx.cell 0 _ rfl
  have x1 := hx.cell 1 _ rfl
  have x2 := hx.cell 2 _ rfl
  have x3 := hx.cell 3 _ rfl
  have x4 := hx.cell 4 _ rfl
  have x5 := hx.cell 5 _ rfl
  have x6 := hx.cell 6 _ rfl
  have x7 := hx.cell 7 _ rfl
  have x8 := hx.cell 8 _ rfl
  have x9 := hx.cell 9 _ rfl
  rw [HKD.out] at y0
  clear hx ho bm hb0 hs0 hf hB hmf hk hme hme' hmi hf0 hf1 hm3 h
  go_enter Try.func27, Try.ntmps27
  go_upto_region 3 with fail
  rw [← hw0]
  clear hw0
  go_big_region
  have hbA : Below w0.heap.size w0 w0.drew := below_drewN 1 (Below.refl _ _)
  generalize w0.drew = wA at hbA ⊢
  have HBA : Hid (Below w0.heap.size w0 wA) := hbA
  clear y0 y1 y2 y3 y4 y5 y6 y7 x0 x1 x2 x3 x4 x5 x6 x7 x8 x9
  have bm := HBM.out.below hbA HBM.out.lt
  have y0 := bm.cell 0 _ rfl
  have y1 := bm.cell 1 _ rfl
  have y2 := bm.cell 2 _ rfl
  have y3 := bm.cell 3 _ rfl
  have y4 := bm.cell 4 _ rfl
  have y5 := bm.cell 5 _ rfl
  have y6 := bm.cell 6 _ rfl
  have y7 := bm.cell 7 _ rfl
  rw [HKD.out] at y0
  clear bm hbA hv
  have hbz : B ≤ wA.heap.size := Nat.le_trans HBS.out (Nat.le_trans HB0.out.size HBA.out.size)
  have HWC : Hid (Calls _ _ _ wA _) := wantedOf_far b B R M.view wA (HT.out.below HBA.out) HME.out.1 HME.out.2 hbz
  go_wp2_with fail
  refine HWC.out.mono ?_
  rintro e w6 ⟨v6, rfl, hh6, hm6, hb6⟩
  rw [← HRL.out.1] at hh6
  rw [← HRL.out.2] at hm6
  obtain ⟨ao, co, rfl⟩ := hm6.form
  have hsA := Nat.le_trans HB0.out.size HBA.out.size
  have HH6 : Hid (HeldAt w6 b B R1) := hh6
  have HMO : Hid (MsgsNew w6 w.heap.size (.slice ao L1.length co) L1) := hm6.base hsA
  have HM6 : Hid (Box w6 w.heap.size 31 [.int .i64 M.kind, .int .i64 M.frm, .int .i64 M.dst, .int .i64 M.view, .int .i64 M.normal, .int .i64 M.commit, .int .i64 M.n, .slice am M.log.length cm]) := (HBM.out.below HBA.out HBM.out.lt).beside hb6 (HBM.out.below HBA.out HBM.out.lt).lt (Ne.symm hbne)
  have HBS6 : Hid (Beside w.heap.size b w w6) := (Beside.of (Below.far HB0.out HBA.out)).trans (hb6.mono hsA)
  have HAM : Hid (Below w.heap.size w wA ∧ Beside wA.heap.size b wA w6) := ⟨Below.far HB0.out HBA.out, hb6⟩
  clear hh6 hm6 hb6 hsA hbz HWC y0 y1 y2 y3 y4 y5 y6 y7
  clear HRL HT HX HBM HB0 HBA HME
  obtain ⟨vl6, vh6, vw6, vg6, vn6, ps6, hx6, ho6⟩ := HH6.out
  obtain ⟨al6, cl6, ah6, ch6, aw6, cw6, ag6, cg6, an6, cn6, rfl, rfl, rfl, rfl, rfl⟩ := ho6.forms
  have hy6 := HM6.out
  have x0 := hx6.cell 0 _ rfl
  have x1 := hx6.cell 1 _ rfl
  have x2 := hx6.cell 2 _ rfl
  have x3 := hx6.cell 3 _ rfl
  have x4 := hx6.cell 4 _ rfl
  have x5 := hx6.cell 5 _ rfl
  have x6 := hx6.cell 6 _ rfl
  have x7 := hx6.cell 7 _ rfl
  have x8 := hx6.cell 8 _ rfl
  have x9 := hx6.cell 9 _ rfl
  have y0 := hy6.cell 0 _ rfl
  have y1 := hy6.cell 1 _ rfl
  have y2 := hy6.cell 2 _ rfl
  have y3 := hy6.cell 3 _ rfl
  have y4 := hy6.cell 4 _ rfl
  have y5 := hy6.cell 5 _ rfl
  have y6 := hy6.cell 6 _ rfl
  have y7 := hy6.cell 7 _ rfl
  rw [HKD.out] at y0
  have HX6 : Hid (Box w6 b _ _) := hx6
  have HO6 : Hid (ReplOwn w6 B R1 _ _ _ _ _ _) := ho6
  clear hx6 ho6 hy6
  obtain ⟨mei, hmei⟩ : ∃ mei : Nat, R1.me = (mei : Int) := ⟨R1.me.toNat, by have := H31.out.2; omega⟩
  have HN6 : Hid (R1.gives.length = 3 ∧ R1.given.length = 3 ∧ R1.me = (mei : Int) ∧ mei < 3) := ⟨H31.out.1.2.1, H31.out.1.2.2, hmei, by have := H31.out.2; omega⟩
  have HF6 : Hid (ReplFits R1) := HF1.out
  have HMEI : Hid (R1.me.toNat = mei) := (show R1.me.toNat = mei by omega)
  obtain ⟨g, cg', hvg, _, _, _, _⟩ := own_cellN HO6.out.2.2.2.2.1.1 (by decide) 0 (by have e := HO6.out.1; have := HN6.out.1; rw [e, List.length_map] at this; omega)
  obtain ⟨gn, cn', hvn, _, _, _, _⟩ := own_cell HO6.out.2.2.2.2.2.1 0 (by have := HN6.out.2.1; omega)
  simp only [Value.slice.injEq] at hvg hvn
  obtain ⟨rfl, hlq1, rfl⟩ := hvg
  obtain ⟨rfl, hlq2, rfl⟩ := hvn
  clear hlq1 hlq2
  have HXB : Hid (Box w6 b 29 [.int .i64 (mei : Int), .int .i64 R1.kept.view, .int .i64 R1.kept.normal, .bool R1.kept.calm, .slice al6 R1.kept.log.length cl6, .int .i64 R1.kept.commit, .slice ah6 R1.hav.length ch6, .slice aw6 R1.wants.length cw6, .slice (some ⟨g, 0, none⟩) R1.gives.length cg6, .slice (some ⟨gn, 0, none⟩) R1.given.length cn6]) := by have := HX6.out; rw [hmei] at this; exact this
  rw [hmei] at x0
  rw [HMI.out.1] at y1
  clear hmei
  go_upto_region 6 with fail
  by_cases hc : R1.kept.calm = true
  · have HEQ : Hid (RR = R1 ∧ LL = L1) := by
      rw [HRR.out.1, HRR.out.2]; unfold giveR giveL
      rw [if_pos hc, if_pos hc, List.append_nil]; exact ⟨rfl, rfl⟩
    have HE : Hid (∀ W, Below w6.heap.size w6 W → GoesTo b B RR LL w (.returned (.slice ao L1.length co)) W) := fun W hW => by
      rw [HEQ.out.1, HEQ.out.2]
      exact ⟨_, rfl, HH6.out.below hW, HMO.out.below' hW, (HBS6.out.far (Nat.le_refl _) hW).mono HBS.out⟩
    rw [hc] at x3
    clear hc
    go_wp2_with fail
    go_ret
    exact HE.out _ (Below.refl _ _)
  · have hc' : R1.kept.calm = false := by simpa using hc
    have HGV : Hid (RR = beginR (gaveR R1 M) ∧ LL = L1 ++ beginL (gaveR R1 M)) := by
      rw [HRR.out.1, HRR.out.2]; unfold giveR giveL
      rw [if_neg hc, if_neg hc]; exact ⟨rfl, rfl⟩
    rw [hc'] at x3
    clear hc hc' HRR
    have hgc := given_cell (l := R1.given) HO6.out.2.2.2.2.2.1 (i := mei) (by have := HN6.out; omega)
    have hgc1 := hgc.1
    have k0 : (0 : Int) ≤ (mei : Int) := by omega
    have k1 : (mei : Int) < (R1.given.length : Int) := by have := HN6.out; omega
    clear hgc
    go_upto_region 8 with fail
    by_cases hgm : R1.given.getD mei false = true
    · have HGA : Hid (gaveR R1 M = withGive R1 mi (msgKept M)) := by
        unfold Hid gaveR; rw [HMEI.out, if_pos hgm, HMI.out.2.1]
      rw [hgm] at hgc1
      clear hgm
      go_big_region
      have hb7 : Below w6.heap.size w6 w6.drew := below_drewN 1 (Below.refl _ _)
      generalize w6.drew = w8 at hb7 ⊢
      have HX8 : Hid (Box w8 b _ _) := HXB.out.below hb7 HXB.out.lt
      have HO8 : Hid (ReplOwn w8 B R1 _ _ _ _ _ _) := HO6.out.below hb7
      have HM8 : Hid (Box w8 w.heap.size 31 [.int .i64 M.kind, .int .i64 M.frm, .int .i64 M.dst, .int .i64 M.view, .int .i64 M.normal, .int .i64 M.commit, .int .i64 M.n, .slice am M.log.length cm]) := HM6.out.below hb7 HM6.out.lt
      have HMO8 : Hid (MsgsNew w8 w.heap.size (.slice ao L1.length co) L1) := HMO.out.below' hb7
      have HBS8 : Hid (Beside B b w w8) := (HBS6.out.far (Nat.le_refl _) hb7).mono HBS.out
      have HF8 : Hid (ReplFits R1) := HF6.out
      have HN8 : Hid (R1.gives.length = 3 ∧ R1.given.length = 3 ∧ R1.me = (mei : Int) ∧ mei < 3) := HN6.out
      clear x0 x1 x2 x3 x4 x5 x6 x7 x8 x9 y0 y1 y2 y3 y4 y5 y6 y7 hgc1 k0 k1 HX6 HXB HO6 HM6 HMO HBS6 HF1 HF6 HN6 H31 HH6 hb7
      have hx8 := HX8.out
      have hy8 := HM8.out
      have x0 := hx8.cell 0 _ rfl
      have x1 := hx8.cell 1 _ rfl
      have x2 := hx8.cell 2 _ rfl
      have x3 := hx8.cell 3 _ rfl
      have x4 := hx8.cell 4 _ rfl
      have x5 := hx8.cell 5 _ rfl
      have x6 := hx8.cell 6 _ rfl
      have x7 := hx8.cell 7 _ rfl
      have x8 := hx8.cell 8 _ rfl
      have x9 := hx8.cell 9 _ rfl
      have y0 := hy8.cell 0 _ rfl
      have y1 := hy8.cell 1 _ rfl
      have y2 := hy8.cell 2 _ rfl
      have y3 := hy8.cell 3 _ rfl
      have y4 := hy8.cell 4 _ rfl
      have y5 := hy8.cell 5 _ rfl
      have y6 := hy8.cell 6 _ rfl
      have y7 := hy8.cell 7 _ rfl
      rw [HMI.out.1] at y1
      clear hx8 hy8
      go_upto_region 11 with fail
      have HPL8 : Hid ((ps6).length = 3) := by have e := HO8.out.1; have := HN8.out.1; rw [e, List.length_map] at this; exact this
      clear x0 x1 x2 x3 x4 x5 x6 x7 x8 x9 y0 y1 y2 y3 y4 y5 y6 y7
      refine wp_region_free [0, 0, 0, 0, 0, 0, 0, 0, 0, 0, 0, 0, 0, 0, 1, 1, 2, 2] (by kernel_rfl) (by kernel_rfl) (fun h => h) (Below w8.heap.size w8) (Below.refl _ _) (fun V n hV => below_drewN n hV) ?_
      apply Exists.intro
      refine ⟨?_, ?_⟩
      · intro V hV
        have bx := HX8.out.below hV HX8.out.lt
        have bm := HM8.out.below hV HM8.out.lt
        have x0 := bx.cell 0 _ rfl
        have x1 := bx.cell 1 _ rfl
        have x2 := bx.cell 2 _ rfl
        have x3 := bx.cell 3 _ rfl
        have x4 := bx.cell 4 _ rfl
        have x5 := bx.cell 5 _ rfl
        have x6 := bx.cell 6 _ rfl
        have x7 := bx.cell 7 _ rfl
        have x8 := bx.cell 8 _ rfl
        have x9 := bx.cell 9 _ rfl
        have y0 := bm.cell 0 _ rfl
        have y1 := bm.cell 1 _ rfl
        have y2 := bm.cell 2 _ rfl
        have y3 := bm.cell 3 _ rfl
        have y4 := bm.cell 4 _ rfl
        have y5 := bm.cell 5 _ rfl
        have y6 := bm.cell 6 _ rfl
        have y7 := bm.cell 7 _ rfl
        rw [HMI.out.1] at y1
        simp only [sel, ↓reduceIte, Nat.reduceEqDiff]
        repeat (go_big_quiet_step (fail))
        refine wpQuiet_nil ?_
        rfl
      · intro n
        simp only [sel, ↓reduceIte, Nat.reduceEqDiff]
        refine wpEarly_cons ?_
        have hzm := HMF.out.1
        have HRW : Hid (RowAt (w8.drewN n) (.slice am M.log.length cm) M.log.length 1 (M.log.map enc)) := (HSW.out _ (HBS8.out.far HBS.out (below_drewN n (Below.refl _ _)))).row
        go_wp2_with (at_builtin; refine wpList_append_row _ rfl _ _ 22 rfl w8.heap.size 9 Try.t9 _ 1 16 Try.underlying22 infoStrR zeroStrR sizeStrR bytesStrR rfl (by decide) _ 0 [] rfl (World.ownsRow_nil _ _ _ _) _ M.log.length (M.log.map enc) rfl HRW.out (by intro u hu; obtain ⟨x, _, rfl⟩ := List.mem_map.1 hu; rfl) (by unfold maxLen; omega) (by omega) (Nat.le_refl _) ?_)
        intro v5 wB hownB hgB hatB
        try rw [Nat.zero_add, List.nil_append] at hownB
        have hbB : Below w8.heap.size w8 wB := (below_drewN n (Below.refl w8.heap.size w8)).trans ((Below.refl _ _).grown hgB (Nat.le_refl _) (fun k e => by cases e))
        obtain ⟨a9, c9, rfl⟩ := own_formN hownB
        have HBB : Hid (Below w8.heap.size w8 wB) := hbB
        have HOB : Hid (wB.ownsRow w8.heap.size 9 1 (.slice a9 M.log.length c9) M.log.length (M.log.map enc)) := hownB
        clear hownB hgB hatB HRW hzm
        refine wpEarly_next hbB fun m1 => ?_
        refine wpEarly_cons ?_
        go_wp2_with fail
        refine wpEarly_next (below_drewN m1 hbB) fun m2 => ?_
        refine wpEarly_nil ?_
        clear hbB
        obtain ⟨wt, hwt⟩ : ∃ wt, wt = (wB.drewN m1).drewN m2 := ⟨_, rfl⟩
        rw [← hwt]
        have hbt : Below w8.heap.size w8 wt := by rw [hwt]; exact below_drewN m2 (below_drewN m1 HBB.out)
        have hot : wt.ownsRow w8.heap.size 9 1 (.slice a9 M.log.length c9) M.log.length (M.log.map enc) := by rw [hwt]; exact own_drewN m2 (own_drewN m1 HOB.out)
        clear hwt HBB HOB
        have HKF : Hid (TextsIn (msgKept M).log) := HMF.out
        have hxt := HX8.out.below hbt HX8.out.lt
        have hrt : ReplOwn wt B R1 _ _ _ _ _ _ := HO8.out.below hbt
        have hmt := HM8.out.below hbt HM8.out.lt
        have hmot := HMO8.out.below' hbt
        have hsz : B ≤ w8.heap.size := HBS8.out.up HBS.out
        have hbg : b ≠ g := fun e => own_type hrt.2.2.2.2.1.1 hxt (by decide) (congrArg some e.symm)
        have hmg : w.heap.size ≠ g := fun e => own_type hrt.2.2.2.2.1.1 hmt (by decide) (congrArg some e.symm)
        have hgB : B ≤ g := own_ge hrt.2.2.2.2.1.1 g rfl
        have hbst : Beside B b w wt := HBS8.out.far HBS.out hbt
        have hpl3 := HPL8.out
        have hat3 : mi < 3 := by first | exact HN8.out.2.2.2 | exact HMI.out.2.2
        have hl3 : R1.gives.length = 3 := HN8.out.1
        obtain ⟨w3, hw3⟩ : ∃ w3, w3 = setAll wt g (mi * 5) (keptCells (msgKept M) (.slice a9 M.log.length c9)) := ⟨_, rfl⟩
        have hx3 := Box.setAll_other hbg (keptCells (msgKept M) (.slice a9 M.log.length c9)) (mi * 5) hxt
        have ho3 := gives1_own (i := mi) (K := msgKept M) (vk := (.slice a9 M.log.length c9)) hrt (by omega) (own_base hot hsz) (Asunder.symm (asunder_new (W := wt) (C := 0) HO8.out.2.1 (fun k hk => own_ge hot k hk)))
        have hm3 := Box.setAll_other hmg (keptCells (msgKept M) (.slice a9 M.log.length c9)) (mi * 5) hmt
        have hmo3 : MsgsNew (setAll wt g (mi * 5) (keptCells (msgKept M) (.slice a9 M.log.length c9))) w.heap.size (.slice ao L1.length co) L1 := by
          obtain ⟨os, hL, hq⟩ := hmot
          exact ⟨os, hL, msgs_setAll hq hrt.2.2.2.2.1.1 (by decide) (by decide) _⟩
        have hbs3 := setAll_beside_up hgB (keptCells (msgKept M) (.slice a9 M.log.length c9)) _ _ (mi * 5) hbst
        rw [← hw3] at hx3 ho3 hm3 hmo3 hbs3
        simp only [setAll, keptCells, ownK, msgKept, Nat.add_assoc, Nat.reduceAdd] at hw3
        have HX3 : Hid (Box w3 b 29 [.int .i64 (mei : Int), .int .i64 R1.kept.view, .int .i64 R1.kept.normal, .bool R1.kept.calm, .slice al6 R1.kept.log.length cl6, .int .i64 R1.kept.commit, .slice ah6 R1.hav.length ch6, .slice aw6 R1.wants.length cw6, .slice (some ⟨g, 0, none⟩) R1.gives.length cg6, .slice (some ⟨gn, 0, none⟩) R1.given.length cn6]) := hx3
        have HO3 : Hid (ReplOwn w3 B (withG R1 mi (msgKept M)) (.slice al6 R1.kept.log.length cl6) (.slice ah6 R1.hav.length ch6) (.slice aw6 R1.wants.length cw6) (.slice (some ⟨g, 0, none⟩) R1.gives.length cg6) (.slice (some ⟨gn, 0, none⟩) R1.given.length cn6) _) := ho3
        have HM3 : Hid (Box w3 w.heap.size 31 [.int .i64 M.kind, .int .i64 M.frm, .int .i64 M.dst, .int .i64 M.view, .int .i64 M.normal, .int .i64 M.commit, .int .i64 M.n, .slice am M.log.length cm]) := hm3
        have HMO3 : Hid (MsgsNew w3 w.heap.size (.slice ao L1.length co) L1) := hmo3
        have HBS3 : Hid (Beside B b w w3) := hbs3
        obtain ⟨⟨q0, p0⟩, r0⟩ := give_cells hrt.2.2.2.2.1 (by omega) (i := mi) (by omega) 0 (by omega)
        obtain ⟨⟨q1, p1⟩, r1⟩ := give_cells hrt.2.2.2.2.1 (by omega) (i := mi) (by omega) 1 (by omega)
        obtain ⟨⟨q2, p2⟩, r2⟩ := give_cells hrt.2.2.2.2.1 (by omega) (i := mi) (by omega) 2 (by omega)
        obtain ⟨⟨q3, p3⟩, r3⟩ := give_cells hrt.2.2.2.2.1 (by omega) (i := mi) (by omega) 3 (by omega)
        obtain ⟨⟨q4, p4⟩, r4⟩ := give_cells hrt.2.2.2.2.1 (by omega) (i := mi) (by omega) 4 (by omega)
        rw [Nat.add_zero] at p0 r0
        have k0 : (0 : Int) ≤ (mi : Int) := by omega
        have k1 : (mi : Int) < (R1.gives.length : Int) := by omega
        clear hxt hrt hmt hmot hsz hbg hmg hgB hbst hx3 ho3 hm3 hmo3 hbs3 hbt hot hpl3 hl3
        go_upto_region 12 with fail
        rw [← hw3]
        clear hw3 p0 p1 p2 p3 p4 r0 r1 r2 r3 r4 q0 q1 q2 q3 q4 k0 k1
        have HPG : Hid (R1.given.length = 3) := HN8.out.2.1
        have hgl : mi < R1.given.length := by have := HPG.out; omega
        have hgc := given_cell (l := R1.given) HO3.out.2.2.2.2.2.1 hgl
        obtain ⟨hgc1, hgc2⟩ := hgc
        generalize R1.given.getD mi false = s5 at hgc1
        have k0 : (0 : Int) ≤ (mi : Int) := by omega
        have k1 : (mi : Int) < (R1.given.length : Int) := by omega
        have hx3 := HX3.out
        have hy3 := HM3.out
        have x0 := hx3.cell 0 _ rfl
        have x1 := hx3.cell 1 _ rfl
        have x2 := hx3.cell 2 _ rfl
        have x3 := hx3.cell 3 _ rfl
        have x4 := hx3.cell 4 _ rfl
        have x5 := hx3.cell 5 _ rfl
        have x6 := hx3.cell 6 _ rfl
        have x7 := hx3.cell 7 _ rfl
        have x8 := hx3.cell 8 _ rfl
        have x9 := hx3.cell 9 _ rfl
        have y0 := hy3.cell 0 _ rfl
        have y1 := hy3.cell 1 _ rfl
        have y2 := hy3.cell 2 _ rfl
        have y3 := hy3.cell 3 _ rfl
        have y4 := hy3.cell 4 _ rfl
        have y5 := hy3.cell 5 _ rfl
        have y6 := hy3.cell 6 _ rfl
        have y7 := hy3.cell 7 _ rfl
        rw [HMI.out.1] at y1
        clear hx3 hy3
        refine wp_region_two [0, 0, 0, 0, 0, 0, 0, 1] (by kernel_rfl) (by kernel_rfl) ?_
        simp only [sel, ↓reduceIte, Nat.reduceEqDiff]
        repeat (go_big_quiet_step (fail))
        refine wpQuiet_nil ?_
        intro w9 hw9
        obtain ⟨nq, rfl⟩ := hw9
        go_upto_region 13 with fail
        have hod : ReplOwn (w3.drewN nq) B (withG R1 mi (msgKept M)) _ _ _ _ _ _ := HO3.out.below (below_drewN nq (Below.refl _ _))
        have hbgn : b ≠ gn := fun e => own_type hod.2.2.2.2.2.1 (HX3.out.drewN nq) (by decide) (congrArg some e.symm)
        have hgnB : B ≤ gn := own_ge hod.2.2.2.2.2.1 gn rfl
        have HX5 : Hid (Box ((w3.drewN nq).setCell ⟨gn, mi, none⟩ (.bool true)) b 29 [.int .i64 (mei : Int), .int .i64 R1.kept.view, .int .i64 R1.kept.normal, .bool R1.kept.calm, .slice al6 R1.kept.log.length cl6, .int .i64 R1.kept.commit, .slice ah6 R1.hav.length ch6, .slice aw6 R1.wants.length cw6, .slice (some ⟨g, 0, none⟩) R1.gives.length cg6, .slice (some ⟨gn, 0, none⟩) R1.given.length cn6]) := (HX3.out.drewN nq).other (a := ⟨gn, mi, none⟩) _ hbgn
        have HO5 : Hid (ReplOwn ((w3.drewN nq).setCell ⟨gn, mi, none⟩ (.bool true)) B (withGive R1 mi (msgKept M)) (.slice al6 R1.kept.log.length cl6) (.slice ah6 R1.hav.length ch6) (.slice aw6 R1.wants.length cw6) (.slice (some ⟨g, 0, none⟩) R1.gives.length cg6) (.slice (some ⟨gn, 0, none⟩) R1.given.length cn6) _) := given1_own (R := withG R1 mi (msgKept M)) hod mi
        have HM5 : Hid (Box ((w3.drewN nq).setCell ⟨gn, mi, none⟩ (.bool true)) w.heap.size 31 [.int .i64 M.kind, .int .i64 M.frm, .int .i64 M.dst, .int .i64 M.view, .int .i64 M.normal, .int .i64 M.commit, .int .i64 M.n, .slice am M.log.length cm]) := (HM3.out.drewN nq).row hod.2.2.2.2.2.1 rfl (by decide) (.bool true) (i := mi)
        have HMO5 : Hid (MsgsNew ((w3.drewN nq).setCell ⟨gn, mi, none⟩ (.bool true)) w.heap.size (.slice ao L1.length co) L1) := (HMO3.out.below' (below_drewN nq (Below.refl _ _))).row hod.2.2.2.2.2.1 rfl (by decide) (by decide) _
        have HBS5 : Hid (Beside B b w ((w3.drewN nq).setCell ⟨gn, mi, none⟩ (.bool true))) := (HBS3.out.far HBS.out (below_drewN nq (Below.refl _ _))).setCell (a := ⟨gn, mi, none⟩) (Or.inr hgnB) _
        generalize World.setCell (w3.drewN nq) _ _ = w5 at HX5 HO5 HM5 HMO5 HBS5 ⊢
        obtain ⟨R4, hR4⟩ : ∃ R4, R4 = withGive R1 mi (msgKept M) := ⟨_, rfl⟩
        have HF5 : Hid (ReplFits R4) := by rw [hR4]; exact withGive_fits HF8.out _ _ HKF.out
        have e9 : R1.me = R4.me ∧ R1.kept = R4.kept ∧ R1.hav = R4.hav ∧ R1.wants = R4.wants ∧ R1.gives.length = R4.gives.length ∧ R1.given.length = R4.given.length := by rw [hR4]; exact ⟨rfl, rfl, rfl, rfl, by simp [withGive], by simp [withGive]⟩
        have HN5 : Hid (R4.gives.length = 3 ∧ R4.given.length = 3 ∧ R4.me = (mei : Int) ∧ mei < 3) := by unfold Hid; rw [← e9.1, ← e9.2.2.2.2.1, ← e9.2.2.2.2.2]; exact HN8.out
        rw [e9.2.1, e9.2.2.1, e9.2.2.2.1, e9.2.2.2.2.1, e9.2.2.2.2.2] at HX5
        rw [← hR4, e9.2.1, e9.2.2.1, e9.2.2.2.1, e9.2.2.2.2.1, e9.2.2.2.2.2] at HO5
        have HR5 : Hid (R4 = withGive R1 mi (msgKept M)) := hR4
        clear x0 x1 x2 x3 x4 x5 x6 x7 x8 x9 y0 y1 y2 y3 y4 y5 y6 y7 hod hbgn hgnB hgl hgc1 hgc2 k0 k1 hR4 e9 HX3 HO3 HM3 HMO3 HBS3 HPG HKF s5
        have HQ5 : Hid (RR = beginR R4 ∧ LL = L1 ++ beginL R4) := by rw [HR5.out, ← HGA.out]; exact HGV.out
        clear HGA HGV
        have HH5 : Hid (HeldAt w5 b B R4) := by
          refine ⟨_, _, _, _, _, _, ?_, HO5.out⟩
          rw [HN5.out.2.2.1]
          exact HX5.out
        have HBC : Hid (Calls _ _ _ w5 _) := begunOf_any b B R4 w5 HH5.out HN5.out.1 HN5.out.2.1 (by rw [HN5.out.2.2.1]; omega) (by rw [HN5.out.2.2.1]; have := HN5.out.2.2.2; omega) HF5.out.each (HBS5.out.up HBS.out)
        go_wp2_with fail
        refine HBC.out.mono ?_
        rintro e w9 ⟨v9, rfl, hh9, hm9, hb9⟩
        have hsw := HBS5.out.size
        obtain ⟨qs, hLq, hq⟩ := hm9
        obtain ⟨os, hLo, hoo⟩ := HMO5.out
        obtain ⟨a8, c8, rfl⟩ := own_formN hq.1
        have hol : os.length ≤ 3 := by have := HLF.out; rw [hLo, List.length_map] at this; exact this
        have hql : qs.length ≤ 3 := by have := (beginL_few HF5.out).1; rw [hLq, List.length_map] at this; exact this
        have HOO : Hid (MsgsOwn w9 w.heap.size (.slice ao L1.length co) os ∧ L1 = os.map Prod.fst) := ⟨msgs_beside hoo HX5.out hb9, hLo⟩
        have HQQ : Hid (MsgsOwn w9 w.heap.size (.slice a8 qs.length c8) qs ∧ beginL R4 = qs.map Prod.fst) := ⟨hq.base hsw, hLq⟩
        have HH9 : Hid (HeldAt w9 b B (beginR R4)) := hh9
        have HBS9 : Hid (Beside B b w w9) := HBS5.out.trans (hb9.mono (HBS5.out.up HBS.out))
        have hst : w.heap.size ≤ w9.heap.size := Nat.le_trans hsw hb9.size
        clear hq hLq hoo hLo hh9 hb9 hsw HBC HH5
        go_wp2_with (at_builtin; refine wpList_append_row _ rfl _ _ 33 rfl w.heap.size 31 Try.t31 _ 8 80 Try.underlying33 infoMsg zeroMsgV sizeMsg bytesMsg rfl (by decide) _ os.length (os.flatMap msgRow) rfl HOO.out.1.1 _ qs.length (qs.flatMap msgRow) rfl (MsgsOwn.row HQQ.out.1) (msgRow_one qs (msgs_forms HQQ.out.1)) (by unfold maxLen; omega) (by omega) hst ?_)
        intro v7 u4 hown4 hg4 hat4
        have hkp := Keeps.grown HOO.out.1.1 hg4
        have HE : Hid (GoesTo b B RR LL w (.returned v7) u4) := by
          refine ⟨_, rfl, ?_, ?_, ?_⟩
          · rw [HQ5.out.1]; exact HH9.out.grown HOO.out.1.1 hg4
          · rw [HQ5.out.2, HQQ.out.2, HOO.out.2]
            exact ⟨_, by rw [List.map_append], MsgsOwn.app HOO.out.1 HQQ.out.1 hkp hown4⟩
          · exact HBS9.out.grown HOO.out.1.1 hg4 HBS.out HBS.out
        clear hown4 hg4 hat4 hkp
        go_wp2_with fail
        go_ret
        exact HE.out
    · have hgm' : R1.given.getD mei false = false := by simpa using hgm
      have HGA : Hid (gaveR R1 M = withGive (withGive R1 mei (ownK R1)) mi (msgKept M)) := by
        unfold Hid gaveR; rw [HMEI.out, if_neg hgm, HMI.out.2.1]
      rw [hgm'] at hgc1
      clear hgm hgm'
      go_big_region
      have hb7 : Below w6.heap.size w6 w6.drew := below_drewN 1 (Below.refl _ _)
      generalize w6.drew = w8 at hb7 ⊢
      have HX8 : Hid (Box w8 b _ _) := HXB.out.below hb7 HXB.out.lt
      have HO8 : Hid (ReplOwn w8 B R1 _ _ _ _ _ _) := HO6.out.below hb7
      have HM8 : Hid (Box w8 w.heap.size 31 [.int .i64 M.kind, .int .i64 M.frm, .int .i64 M.dst, .int .i64 M.view, .int .i64 M.normal, .int .i64 M.commit, .int .i64 M.n, .slice am M.log.length cm]) := HM6.out.below hb7 HM6.out.lt
      have HMO8 : Hid (MsgsNew w8 w.heap.size (.slice ao L1.length co) L1) := HMO.out.below' hb7
      have HBS8 : Hid (Beside B b w w8) := (HBS6.out.far (Nat.le_refl _) hb7).mono HBS.out
      have HF8 : Hid (ReplFits R1) := HF6.out
      have HN8 : Hid (R1.gives.length = 3 ∧ R1.given.length = 3 ∧ R1.me = (mei : Int) ∧ mei < 3) := HN6.out
      clear x0 x1 x2 x3 x4 x5 x6 x7 x8 x9 y0 y1 y2 y3 y4 y5 y6 y7 hgc1 k0 k1 HX6 HXB HO6 HM6 HMO HBS6 HF1 HF6 HN6 H31 HH6 hb7
      have hx8 := HX8.out
      have hy8 := HM8.out
      have x0 := hx8.cell 0 _ rfl
      have x1 := hx8.cell 1 _ rfl
      have x2 := hx8.cell 2 _ rfl
      have x3 := hx8.cell 3 _ rfl
      have x4 := hx8.cell 4 _ rfl
      have x5 := hx8.cell 5 _ rfl
      have x6 := hx8.cell 6 _ rfl
      have x7 := hx8.cell 7 _ rfl
      have x8 := hx8.cell 8 _ rfl
      have x9 := hx8.cell 9 _ rfl
      have y0 := hy8.cell 0 _ rfl
      have y1 := hy8.cell 1 _ rfl
      have y2 := hy8.cell 2 _ rfl
      have y3 := hy8.cell 3 _ rfl
      have y4 := hy8.cell 4 _ rfl
      have y5 := hy8.cell 5 _ rfl
      have y6 := hy8.cell 6 _ rfl
      have y7 := hy8.cell 7 _ rfl
      rw [HMI.out.1] at y1
      clear hx8 hy8
      go_upto_region 9 with fail
      have HA8 : Hid (ReplAt w8 (.agg #[.int .i64 (mei : Int), .int .i64 R1.kept.view, .int .i64 R1.kept.normal, .bool R1.kept.calm, .slice al6 R1.kept.log.length cl6, .int .i64 R1.kept.commit, .slice ah6 R1.hav.length ch6, .slice aw6 R1.wants.length cw6, .slice (some ⟨g, 0, none⟩) R1.gives.length cg6, .slice (some ⟨gn, 0, none⟩) R1.given.length cn6]) R1) := by
        have := HO8.out.at HF8.out
        simp only [replCells, HN8.out.2.2.1] at this
        exact this
      have HPL8 : Hid ((ps6).length = 3) := by have e := HO8.out.1; have := HN8.out.1; rw [e, List.length_map] at this; exact this
      clear x0 x1 x2 x3 x4 x5 x6 x7 x8 x9 y0 y1 y2 y3 y4 y5 y6 y7
      refine wp_region_free [0, 0, 0, 0, 0, 0, 0, 0, 0, 0, 0, 1, 2, 2] (by kernel_rfl) (by kernel_rfl) (fun h => h) (Below w8.heap.size w8) (Below.refl _ _) (fun V n hV => below_drewN n hV) ?_
      apply Exists.intro
      refine ⟨?_, ?_⟩
      · intro V hV
        have bx := HX8.out.below hV HX8.out.lt
        have x0 := bx.cell 0 _ rfl
        have x1 := bx.cell 1 _ rfl
        have x2 := bx.cell 2 _ rfl
        have x3 := bx.cell 3 _ rfl
        have x4 := bx.cell 4 _ rfl
        have x5 := bx.cell 5 _ rfl
        have x6 := bx.cell 6 _ rfl
        have x7 := bx.cell 7 _ rfl
        have x8 := bx.cell 8 _ rfl
        have x9 := bx.cell 9 _ rfl
        simp only [sel, ↓reduceIte, Nat.reduceEqDiff]
        repeat (go_big_quiet_step (fail))
        refine wpQuiet_nil ?_
        rfl
      · intro n
        simp only [sel, ↓reduceIte, Nat.reduceEqDiff]
        refine wpEarly_cons ?_
        go_wp2_with fail
        refine (ownOf_any R1 _ (w8.drewN n) (HA8.out.below (below_drewN n (Below.refl _ _))) HF8.out.log).mono ?_
        rintro e wx ⟨a9, c9, rfl, hown9, hb9⟩
        have hbw : Below w8.heap.size w8 wx := ⟨hb9.os, hb9.tape, hb9.output, hb9.size, hb9.block⟩
        have HBW : Hid (Below w8.heap.size w8 wx) := hbw
        have HOW : Hid (wx.ownsRow w8.heap.size 9 1 (.slice a9 R1.kept.log.length c9) R1.kept.log.length (R1.kept.log.map enc)) := hown9
        clear hown9 hb9
        go_wp2_with fail
        refine wpEarly_next hbw fun m => ?_
        refine wpEarly_nil ?_
        clear hbw
        obtain ⟨wt, hwt⟩ : ∃ wt, wt = wx.drewN m := ⟨_, rfl⟩
        rw [← hwt]
        have hbt : Below w8.heap.size w8 wt := by rw [hwt]; exact below_drewN m HBW.out
        have hot : wt.ownsRow w8.heap.size 9 1 (.slice a9 R1.kept.log.length c9) R1.kept.log.length (R1.kept.log.map enc) := by rw [hwt]; exact own_drewN m HOW.out
        clear hwt HBW HOW
        have HKF : Hid (TextsIn (ownK R1).log) := own_fits HF8.out
        have hxt := HX8.out.below hbt HX8.out.lt
        have hrt : ReplOwn wt B R1 _ _ _ _ _ _ := HO8.out.below hbt
        have hmt := HM8.out.below hbt HM8.out.lt
        have hmot := HMO8.out.below' hbt
        have hsz : B ≤ w8.heap.size := HBS8.out.up HBS.out
        have hbg : b ≠ g := fun e => own_type hrt.2.2.2.2.1.1 hxt (by decide) (congrArg some e.symm)
        have hmg : w.heap.size ≠ g := fun e => own_type hrt.2.2.2.2.1.1 hmt (by decide) (congrArg some e.symm)
        have hgB : B ≤ g := own_ge hrt.2.2.2.2.1.1 g rfl
        have hbst : Beside B b w wt := HBS8.out.far HBS.out hbt
        have hpl3 := HPL8.out
        have hat3 : mei < 3 := by first | exact HN8.out.2.2.2 | exact HMI.out.2.2
        have hl3 : R1.gives.length = 3 := HN8.out.1
        obtain ⟨w3, hw3⟩ : ∃ w3, w3 = setAll wt g (mei * 5) (keptCells (ownK R1) (.slice a9 R1.kept.log.length c9)) := ⟨_, rfl⟩
        have hx3 := Box.setAll_other hbg (keptCells (ownK R1) (.slice a9 R1.kept.log.length c9)) (mei * 5) hxt
        have ho3 := gives1_own (i := mei) (K := ownK R1) (vk := (.slice a9 R1.kept.log.length c9)) hrt (by omega) (own_base hot hsz) (Asunder.symm (asunder_new (W := wt) (C := 0) HO8.out.2.1 (fun k hk => own_ge hot k hk)))
        have hm3 := Box.setAll_other hmg (keptCells (ownK R1) (.slice a9 R1.kept.log.length c9)) (mei * 5) hmt
        have hmo3 : MsgsNew (setAll wt g (mei * 5) (keptCells (ownK R1) (.slice a9 R1.kept.log.length c9))) w.heap.size (.slice ao L1.length co) L1 := by
          obtain ⟨os, hL, hq⟩ := hmot
          exact ⟨os, hL, msgs_setAll hq hrt.2.2.2.2.1.1 (by decide) (by decide) _⟩
        have hbs3 := setAll_beside_up hgB (keptCells (ownK R1) (.slice a9 R1.kept.log.length c9)) _ _ (mei * 5) hbst
        rw [← hw3] at hx3 ho3 hm3 hmo3 hbs3
        simp only [setAll, keptCells, ownK, msgKept, Nat.add_assoc, Nat.reduceAdd] at hw3
        have HX3 : Hid (Box w3 b 29 [.int .i64 (mei : Int), .int .i64 R1.kept.view, .int .i64 R1.kept.normal, .bool R1.kept.calm, .slice al6 R1.kept.log.length cl6, .int .i64 R1.kept.commit, .slice ah6 R1.hav.length ch6, .slice aw6 R1.wants.length cw6, .slice (some ⟨g, 0, none⟩) R1.gives.length cg6, .slice (some ⟨gn, 0, none⟩) R1.given.length cn6]) := hx3
        have HO3 : Hid (ReplOwn w3 B (withG R1 mei (ownK R1)) (.slice al6 R1.kept.log.length cl6) (.slice ah6 R1.hav.length ch6) (.slice aw6 R1.wants.length cw6) (.slice (some ⟨g, 0, none⟩) R1.gives.length cg6) (.slice (some ⟨gn, 0, none⟩) R1.given.length cn6) _) := ho3
        have HM3 : Hid (Box w3 w.heap.size 31 [.int .i64 M.kind, .int .i64 M.frm, .int .i64 M.dst, .int .i64 M.view, .int .i64 M.normal, .int .i64 M.commit, .int .i64 M.n, .slice am M.log.length cm]) := hm3
        have HMO3 : Hid (MsgsNew w3 w.heap.size (.slice ao L1.length co) L1) := hmo3
        have HBS3 : Hid (Beside B b w w3) := hbs3
        obtain ⟨⟨q0, p0⟩, r0⟩ := give_cells hrt.2.2.2.2.1 (by omega) (i := mei) (by omega) 0 (by omega)
        obtain ⟨⟨q1, p1⟩, r1⟩ := give_cells hrt.2.2.2.2.1 (by omega) (i := mei) (by omega) 1 (by omega)
        obtain ⟨⟨q2, p2⟩, r2⟩ := give_cells hrt.2.2.2.2.1 (by omega) (i := mei) (by omega) 2 (by omega)
        obtain ⟨⟨q3, p3⟩, r3⟩ := give_cells hrt.2.2.2.2.1 (by omega) (i := mei) (by omega) 3 (by omega)
        obtain ⟨⟨q4, p4⟩, r4⟩ := give_cells hrt.2.2.2.2.1 (by omega) (i := mei) (by omega) 4 (by omega)
        rw [Nat.add_zero] at p0 r0
        have k0 : (0 : Int) ≤ (mei : Int) := by omega
        have k1 : (mei : Int) < (R1.gives.length : Int) := by omega
        clear hxt hrt hmt hmot hsz hbg hmg hgB hbst hx3 ho3 hm3 hmo3 hbs3 hbt hot hpl3 hl3
        go_upto_region 10 with fail
        rw [← hw3]
        clear hw3 p0 p1 p2 p3 p4 r0 r1 r2 r3 r4 q0 q1 q2 q3 q4 k0 k1
        have HPG : Hid (R1.given.length = 3) := HN8.out.2.1
        have hgl : mei < R1.given.length := by have := HPG.out; omega
        have hgc := given_cell (l := R1.given) HO3.out.2.2.2.2.2.1 hgl
        obtain ⟨hgc1, hgc2⟩ := hgc
        generalize R1.given.getD mei false = s5 at hgc1
        have k0 : (0 : Int) ≤ (mei : Int) := by omega
        have k1 : (mei : Int) < (R1.given.length : Int) := by omega
        have hx3 := HX3.out
        have hy3 := HM3.out
        have x0 := hx3.cell 0 _ rfl
        have x1 := hx3.cell 1 _ rfl
        have x2 := hx3.cell 2 _ rfl
        have x3 := hx3.cell 3 _ rfl
        have x4 := hx3.cell 4 _ rfl
        have x5 := hx3.cell 5 _ rfl
        have x6 := hx3.cell 6 _ rfl
        have x7 := hx3.cell 7 _ rfl
        have x8 := hx3.cell 8 _ rfl
        have x9 := hx3.cell 9 _ rfl
        have y0 := hy3.cell 0 _ rfl
        have y1 := hy3.cell 1 _ rfl
        have y2 := hy3.cell 2 _ rfl
        have y3 := hy3.cell 3 _ rfl
        have y4 := hy3.cell 4 _ rfl
        have y5 := hy3.cell 5 _ rfl
        have y6 := hy3.cell 6 _ rfl
        have y7 := hy3.cell 7 _ rfl
        rw [HMI.out.1] at y1
        clear hx3 hy3
        refine wp_region_two [0, 0, 0, 0, 0, 0, 0, 0, 0, 1] (by kernel_rfl) (by kernel_rfl) ?_
        simp only [sel, ↓reduceIte, Nat.reduceEqDiff]
        repeat (go_big_quiet_step (fail))
        refine wpQuiet_nil ?_
        intro w9 hw9
        obtain ⟨nq, rfl⟩ := hw9
        go_upto_region 11 with fail
        have hod : ReplOwn (w3.drewN nq) B (withG R1 mei (ownK R1)) _ _ _ _ _ _ := HO3.out.below (below_drewN nq (Below.refl _ _))
        have hbgn : b ≠ gn := fun e => own_type hod.2.2.2.2.2.1 (HX3.out.drewN nq) (by decide) (congrArg some e.symm)
        have hgnB : B ≤ gn := own_ge hod.2.2.2.2.2.1 gn rfl
        have HX4 : Hid (Box ((w3.drewN nq).setCell ⟨gn, mei, none⟩ (.bool true)) b 29 [.int .i64 (mei : Int), .int .i64 R1.kept.view, .int .i64 R1.kept.normal, .bool R1.kept.calm, .slice al6 R1.kept.log.length cl6, .int .i64 R1.kept.commit, .slice ah6 R1.hav.length ch6, .slice aw6 R1.wants.length cw6, .slice (some ⟨g, 0, none⟩) R1.gives.length cg6, .slice (some ⟨gn, 0, none⟩) R1.given.length cn6]) := (HX3.out.drewN nq).other (a := ⟨gn, mei, none⟩) _ hbgn
        have HO4 : Hid (ReplOwn ((w3.drewN nq).setCell ⟨gn, mei, none⟩ (.bool true)) B (withGive R1 mei (ownK R1)) (.slice al6 R1.kept.log.length cl6) (.slice ah6 R1.hav.length ch6) (.slice aw6 R1.wants.length cw6) (.slice (some ⟨g, 0, none⟩) R1.gives.length cg6) (.slice (some ⟨gn, 0, none⟩) R1.given.length cn6) _) := given1_own (R := withG R1 mei (ownK R1)) hod mei
        have HM4 : Hid (Box ((w3.drewN nq).setCell ⟨gn, mei, none⟩ (.bool true)) w.heap.size 31 [.int .i64 M.kind, .int .i64 M.frm, .int .i64 M.dst, .int .i64 M.view, .int .i64 M.normal, .int .i64 M.commit, .int .i64 M.n, .slice am M.log.length cm]) := (HM3.out.drewN nq).row hod.2.2.2.2.2.1 rfl (by decide) (.bool true) (i := mei)
        have HMO4 : Hid (MsgsNew ((w3.drewN nq).setCell ⟨gn, mei, none⟩ (.bool true)) w.heap.size (.slice ao L1.length co) L1) := (HMO3.out.below' (below_drewN nq (Below.refl _ _))).row hod.2.2.2.2.2.1 rfl (by decide) (by decide) _
        have HBS4 : Hid (Beside B b w ((w3.drewN nq).setCell ⟨gn, mei, none⟩ (.bool true))) := (HBS3.out.far HBS.out (below_drewN nq (Below.refl _ _))).setCell (a := ⟨gn, mei, none⟩) (Or.inr hgnB) _
        generalize World.setCell (w3.drewN nq) _ _ = w4 at HX4 HO4 HM4 HMO4 HBS4 ⊢
        obtain ⟨R3, hR3⟩ : ∃ R3, R3 = withGive R1 mei (ownK R1) := ⟨_, rfl⟩
        have HF4 : Hid (ReplFits R3) := by rw [hR3]; exact withGive_fits HF8.out _ _ HKF.out
        have e9 : R1.me = R3.me ∧ R1.kept = R3.kept ∧ R1.hav = R3.hav ∧ R1.wants = R3.wants ∧ R1.gives.length = R3.gives.length ∧ R1.given.length = R3.given.length := by rw [hR3]; exact ⟨rfl, rfl, rfl, rfl, by simp [withGive], by simp [withGive]⟩
        have HN4 : Hid (R3.gives.length = 3 ∧ R3.given.length = 3 ∧ R3.me = (mei : Int) ∧ mei < 3) := by unfold Hid; rw [← e9.1, ← e9.2.2.2.2.1, ← e9.2.2.2.2.2]; exact HN8.out
        rw [e9.2.1, e9.2.2.1, e9.2.2.2.1, e9.2.2.2.2.1, e9.2.2.2.2.2] at HX4
        rw [← hR3, e9.2.1, e9.2.2.1, e9.2.2.2.1, e9.2.2.2.2.1, e9.2.2.2.2.2] at HO4
        have HR4 : Hid (R3 = withGive R1 mei (ownK R1)) := hR3
        clear x0 x1 x2 x3 x4 x5 x6 x7 x8 x9 y0 y1 y2 y3 y4 y5 y6 y7 hod hbgn hgnB hgl hgc1 hgc2 k0 k1 hR3 e9 HX3 HO3 HM3 HMO3 HBS3 HPG HKF s5
        have HPL4 : Hid ((ps6.set mei (ownK R1, .slice a9 R3.kept.log.length c9)).length = 3) := by have e := HO4.out.1; have := HN4.out.1; rw [e, List.length_map] at this; exact this
        skip
        refine wp_region_free [0, 0, 0, 0, 0, 0, 0, 0, 0, 0, 0, 0, 0, 0, 1, 1, 2, 2] (by kernel_rfl) (by kernel_rfl) (fun h => h) (Below w4.heap.size w4) (Below.refl _ _) (fun V n hV => below_drewN n hV) ?_
        apply Exists.intro
        refine ⟨?_, ?_⟩
        · intro V hV
          have bx := HX4.out.below hV HX4.out.lt
          have bm := HM4.out.below hV HM4.out.lt
          have x0 := bx.cell 0 _ rfl
          have x1 := bx.cell 1 _ rfl
          have x2 := bx.cell 2 _ rfl
          have x3 := bx.cell 3 _ rfl
          have x4 := bx.cell 4 _ rfl
          have x5 := bx.cell 5 _ rfl
          have x6 := bx.cell 6 _ rfl
          have x7 := bx.cell 7 _ rfl
          have x8 := bx.cell 8 _ rfl
          have x9 := bx.cell 9 _ rfl
          have y0 := bm.cell 0 _ rfl
          have y1 := bm.cell 1 _ rfl
          have y2 := bm.cell 2 _ rfl
          have y3 := bm.cell 3 _ rfl
          have y4 := bm.cell 4 _ rfl
          have y5 := bm.cell 5 _ rfl
          have y6 := bm.cell 6 _ rfl
          have y7 := bm.cell 7 _ rfl
          rw [HMI.out.1] at y1
          simp only [sel, ↓reduceIte, Nat.reduceEqDiff]
          repeat (go_big_quiet_step (fail))
          refine wpQuiet_nil ?_
          rfl
        · intro n
          simp only [sel, ↓reduceIte, Nat.reduceEqDiff]
          refine wpEarly_cons ?_
          have hzm := HMF.out.1
          have HRW : Hid (RowAt (w4.drewN n) (.slice am M.log.length cm) M.log.length 1 (M.log.map enc)) := (HSW.out _ (HBS4.out.far HBS.out (below_drewN n (Below.refl _ _)))).row
          go_wp2_with (at_builtin; refine wpList_append_row _ rfl _ _ 22 rfl w4.heap.size 9 Try.t9 _ 1 16 Try.underlying22 infoStrR zeroStrR sizeStrR bytesStrR rfl (by decide) _ 0 [] rfl (World.ownsRow_nil _ _ _ _) _ M.log.length (M.log.map enc) rfl HRW.out (by intro u hu; obtain ⟨x, _, rfl⟩ := List.mem_map.1 hu; rfl) (by unfold maxLen; omega) (by omega) (Nat.le_refl _) ?_)
          intro v5 wB hownB hgB hatB
          try rw [Nat.zero_add, List.nil_append] at hownB
          have hbB : Below w4.heap.size w4 wB := (below_drewN n (Below.refl w4.heap.size w4)).trans ((Below.refl _ _).grown hgB (Nat.le_refl _) (fun k e => by cases e))
          obtain ⟨a9, c9, rfl⟩ := own_formN hownB
          have HBB : Hid (Below w4.heap.size w4 wB) := hbB
          have HOB : Hid (wB.ownsRow w4.heap.size 9 1 (.slice a9 M.log.length c9) M.log.length (M.log.map enc)) := hownB
          clear hownB hgB hatB HRW hzm
          refine wpEarly_next hbB fun m1 => ?_
          refine wpEarly_cons ?_
          go_wp2_with fail
          refine wpEarly_next (below_drewN m1 hbB) fun m2 => ?_
          refine wpEarly_nil ?_
          clear hbB
          obtain ⟨wt, hwt⟩ : ∃ wt, wt = (wB.drewN m1).drewN m2 := ⟨_, rfl⟩
          rw [← hwt]
          have hbt : Below w4.heap.size w4 wt := by rw [hwt]; exact below_drewN m2 (below_drewN m1 HBB.out)
          have hot : wt.ownsRow w4.heap.size 9 1 (.slice a9 M.log.length c9) M.log.length (M.log.map enc) := by rw [hwt]; exact own_drewN m2 (own_drewN m1 HOB.out)
          clear hwt HBB HOB
          have HKF : Hid (TextsIn (msgKept M).log) := HMF.out
          have hxt := HX4.out.below hbt HX4.out.lt
          have hrt : ReplOwn wt B R3 _ _ _ _ _ _ := HO4.out.below hbt
          have hmt := HM4.out.below hbt HM4.out.lt
          have hmot := HMO4.out.below' hbt
          have hsz : B ≤ w4.heap.size := HBS4.out.up HBS.out
          have hbg : b ≠ g := fun e => own_type hrt.2.2.2.2.1.1 hxt (by decide) (congrArg some e.symm)
          have hmg : w.heap.size ≠ g := fun e => own_type hrt.2.2.2.2.1.1 hmt (by decide) (congrArg some e.symm)
          have hgB : B ≤ g := own_ge hrt.2.2.2.2.1.1 g rfl
          have hbst : Beside B b w wt := HBS4.out.far HBS.out hbt
          have hpl3 := HPL4.out
          have hat3 : mi < 3 := by first | exact HN4.out.2.2.2 | exact HMI.out.2.2
          have hl3 : R3.gives.length = 3 := HN4.out.1
          obtain ⟨w3, hw3⟩ : ∃ w3, w3 = setAll wt g (mi * 5) (keptCells (msgKept M) (.slice a9 M.log.length c9)) := ⟨_, rfl⟩
          have hx3 := Box.setAll_other hbg (keptCells (msgKept M) (.slice a9 M.log.length c9)) (mi * 5) hxt
          have ho3 := gives1_own (i := mi) (K := msgKept M) (vk := (.slice a9 M.log.length c9)) hrt (by omega) (own_base hot hsz) (Asunder.symm (asunder_new (W := wt) (C := 0) HO4.out.2.1 (fun k hk => own_ge hot k hk)))
          have hm3 := Box.setAll_other hmg (keptCells (msgKept M) (.slice a9 M.log.length c9)) (mi * 5) hmt
          have hmo3 : MsgsNew (setAll wt g (mi * 5) (keptCells (msgKept M) (.slice a9 M.log.length c9))) w.heap.size (.slice ao L1.length co) L1 := by
            obtain ⟨os, hL, hq⟩ := hmot
            exact ⟨os, hL, msgs_setAll hq hrt.2.2.2.2.1.1 (by decide) (by decide) _⟩
          have hbs3 := setAll_beside_up hgB (keptCells (msgKept M) (.slice a9 M.log.length c9)) _ _ (mi * 5) hbst
          rw [← hw3] at hx3 ho3 hm3 hmo3 hbs3
          simp only [setAll, keptCells, ownK, msgKept, Nat.add_assoc, Nat.reduceAdd] at hw3
          have HX3 : Hid (Box w3 b 29 [.int .i64 (mei : Int), .int .i64 R3.kept.view, .int .i64 R3.kept.normal, .bool R3.kept.calm, .slice al6 R3.kept.log.length cl6, .int .i64 R3.kept.commit, .slice ah6 R3.hav.length ch6, .slice aw6 R3.wants.length cw6, .slice (some ⟨g, 0, none⟩) R3.gives.length cg6, .slice (some ⟨gn, 0, none⟩) R3.given.length cn6]) := hx3
          have HO3 : Hid (ReplOwn w3 B (withG R3 mi (msgKept M)) (.slice al6 R3.kept.log.length cl6) (.slice ah6 R3.hav.length ch6) (.slice aw6 R3.wants.length cw6) (.slice (some ⟨g, 0, none⟩) R3.gives.length cg6) (.slice (some ⟨gn, 0, none⟩) R3.given.length cn6) _) := ho3
          have HM3 : Hid (Box w3 w.heap.size 31 [.int .i64 M.kind, .int .i64 M.frm, .int .i64 M.dst, .int .i64 M.view, .int .i64 M.normal, .int .i64 M.commit, .int .i64 M.n, .slice am M.log.length cm]) := hm3
          have HMO3 : Hid (MsgsNew w3 w.heap.size (.slice ao L1.length co) L1) := hmo3
          have HBS3 : Hid (Beside B b w w3) := hbs3
          obtain ⟨⟨q0, p0⟩, r0⟩ := give_cells hrt.2.2.2.2.1 (by omega) (i := mi) (by omega) 0 (by omega)
          obtain ⟨⟨q1, p1⟩, r1⟩ := give_cells hrt.2.2.2.2.1 (by omega) (i := mi) (by omega) 1 (by omega)
          obtain ⟨⟨q2, p2⟩, r2⟩ := give_cells hrt.2.2.2.2.1 (by omega) (i := mi) (by omega) 2 (by omega)
          obtain ⟨⟨q3, p3⟩, r3⟩ := give_cells hrt.2.2.2.2.1 (by omega) (i := mi) (by omega) 3 (by omega)
          obtain ⟨⟨q4, p4⟩, r4⟩ := give_cells hrt.2.2.2.2.1 (by omega) (i := mi) (by omega) 4 (by omega)
          rw [Nat.add_zero] at p0 r0
          have k0 : (0 : Int) ≤ (mi : Int) := by omega
          have k1 : (mi : Int) < (R3.gives.length : Int) := by omega
          clear hxt hrt hmt hmot hsz hbg hmg hgB hbst hx3 ho3 hm3 hmo3 hbs3 hbt hot hpl3 hl3
          go_upto_region 12 with fail
          rw [← hw3]
          clear hw3 p0 p1 p2 p3 p4 r0 r1 r2 r3 r4 q0 q1 q2 q3 q4 k0 k1
          have HPG : Hid (R3.given.length = 3) := HN4.out.2.1
          have hgl : mi < R3.given.length := by have := HPG.out; omega
          have hgc := given_cell (l := R3.given) HO3.out.2.2.2.2.2.1 hgl
          obtain ⟨hgc1, hgc2⟩ := hgc
          generalize R3.given.getD mi false = s5 at hgc1
          have k0 : (0 : Int) ≤ (mi : Int) := by omega
          have k1 : (mi : Int) < (R3.given.length : Int) := by omega
          have hx3 := HX3.out
          have hy3 := HM3.out
          have x0 := hx3.cell 0 _ rfl
          have x1 := hx3.cell 1 _ rfl
          have x2 := hx3.cell 2 _ rfl
          have x3 := hx3.cell 3 _ rfl
          have x4 := hx3.cell 4 _ rfl
          have x5 := hx3.cell 5 _ rfl
          have x6 := hx3.cell 6 _ rfl
          have x7 := hx3.cell 7 _ rfl
          have x8 := hx3.cell 8 _ rfl
          have x9 := hx3.cell 9 _ rfl
          have y0 := hy3.cell 0 _ rfl
          have y1 := hy3.cell 1 _ rfl
          have y2 := hy3.cell 2 _ rfl
          have y3 := hy3.cell 3 _ rfl
          have y4 := hy3.cell 4 _ rfl
          have y5 := hy3.cell 5 _ rfl
          have y6 := hy3.cell 6 _ rfl
          have y7 := hy3.cell 7 _ rfl
          rw [HMI.out.1] at y1
          clear hx3 hy3
          refine wp_region_two [0, 0, 0, 0, 0, 0, 0, 1] (by kernel_rfl) (by kernel_rfl) ?_
          simp only [sel, ↓reduceIte, Nat.reduceEqDiff]
          repeat (go_big_quiet_step (fail))
          refine wpQuiet_nil ?_
          intro w9 hw9
          obtain ⟨nq, rfl⟩ := hw9
          go_upto_region 13 with fail
          have hod : ReplOwn (w3.drewN nq) B (withG R3 mi (msgKept M)) _ _ _ _ _ _ := HO3.out.below (below_drewN nq (Below.refl _ _))
          have hbgn : b ≠ gn := fun e => own_type hod.2.2.2.2.2.1 (HX3.out.drewN nq) (by decide) (congrArg some e.symm)
          have hgnB : B ≤ gn := own_ge hod.2.2.2.2.2.1 gn rfl
          have HX5 : Hid (Box ((w3.drewN nq).setCell ⟨gn, mi, none⟩ (.bool true)) b 29 [.int .i64 (mei : Int), .int .i64 R3.kept.view, .int .i64 R3.kept.normal, .bool R3.kept.calm, .slice al6 R3.kept.log.length cl6, .int .i64 R3.kept.commit, .slice ah6 R3.hav.length ch6, .slice aw6 R3.wants.length cw6, .slice (some ⟨g, 0, none⟩) R3.gives.length cg6, .slice (some ⟨gn, 0, none⟩) R3.given.length cn6]) := (HX3.out.drewN nq).other (a := ⟨gn, mi, none⟩) _ hbgn
          have HO5 : Hid (ReplOwn ((w3.drewN nq).setCell ⟨gn, mi, none⟩ (.bool true)) B (withGive R3 mi (msgKept M)) (.slice al6 R3.kept.log.length cl6) (.slice ah6 R3.hav.length ch6) (.slice aw6 R3.wants.length cw6) (.slice (some ⟨g, 0, none⟩) R3.gives.length cg6) (.slice (some ⟨gn, 0, none⟩) R3.given.length cn6) _) := given1_own (R := withG R3 mi (msgKept M)) hod mi
          have HM5 : Hid (Box ((w3.drewN nq).setCell ⟨gn, mi, none⟩ (.bool true)) w.heap.size 31 [.int .i64 M.kind, .int .i64 M.frm, .int .i64 M.dst, .int .i64 M.view, .int .i64 M.normal, .int .i64 M.commit, .int .i64 M.n, .slice am M.log.length cm]) := (HM3.out.drewN nq).row hod.2.2.2.2.2.1 rfl (by decide) (.bool true) (i := mi)
          have HMO5 : Hid (MsgsNew ((w3.drewN nq).setCell ⟨gn, mi, none⟩ (.bool true)) w.heap.size (.slice ao L1.length co) L1) := (HMO3.out.below' (below_drewN nq (Below.refl _ _))).row hod.2.2.2.2.2.1 rfl (by decide) (by decide) _
          have HBS5 : Hid (Beside B b w ((w3.drewN nq).setCell ⟨gn, mi, none⟩ (.bool true))) := (HBS3.out.far HBS.out (below_drewN nq (Below.refl _ _))).setCell (a := ⟨gn, mi, none⟩) (Or.inr hgnB) _
          generalize World.setCell (w3.drewN nq) _ _ = w5 at HX5 HO5 HM5 HMO5 HBS5 ⊢
          obtain ⟨R4, hR4⟩ : ∃ R4, R4 = withGive R3 mi (msgKept M) := ⟨_, rfl⟩
          have HF5 : Hid (ReplFits R4) := by rw [hR4]; exact withGive_fits HF4.out _ _ HKF.out
          have e9 : R3.me = R4.me ∧ R3.kept = R4.kept ∧ R3.hav = R4.hav ∧ R3.wants = R4.wants ∧ R3.gives.length = R4.gives.length ∧ R3.given.length = R4.given.length := by rw [hR4]; exact ⟨rfl, rfl, rfl, rfl, by simp [withGive], by simp [withGive]⟩
          have HN5 : Hid (R4.gives.length = 3 ∧ R4.given.length = 3 ∧ R4.me = (mei : Int) ∧ mei < 3) := by unfold Hid; rw [← e9.1, ← e9.2.2.2.2.1, ← e9.2.2.2.2.2]; exact HN4.out
          rw [e9.2.1, e9.2.2.1, e9.2.2.2.1, e9.2.2.2.2.1, e9.2.2.2.2.2] at HX5
          rw [← hR4, e9.2.1, e9.2.2.1, e9.2.2.2.1, e9.2.2.2.2.1, e9.2.2.2.2.2] at HO5
          have HR5 : Hid (R4 = withGive R3 mi (msgKept M)) := hR4
          clear x0 x1 x2 x3 x4 x5 x6 x7 x8 x9 y0 y1 y2 y3 y4 y5 y6 y7 hod hbgn hgnB hgl hgc1 hgc2 k0 k1 hR4 e9 HX3 HO3 HM3 HMO3 HBS3 HPG HKF s5
          have HQ5 : Hid (RR = beginR R4 ∧ LL = L1 ++ beginL R4) := by rw [HR5.out, HR4.out, ← HGA.out]; exact HGV.out
          clear HGA HGV
          have HH5 : Hid (HeldAt w5 b B R4) := by
            refine ⟨_, _, _, _, _, _, ?_, HO5.out⟩
            rw [HN5.out.2.2.1]
            exact HX5.out
          have HBC : Hid (Calls _ _ _ w5 _) := begunOf_any b B R4 w5 HH5.out HN5.out.1 HN5.out.2.1 (by rw [HN5.out.2.2.1]; omega) (by rw [HN5.out.2.2.1]; have := HN5.out.2.2.2; omega) HF5.out.each (HBS5.out.up HBS.out)
          go_wp2_with fail
          refine HBC.out.mono ?_
          rintro e w9 ⟨v9, rfl, hh9, hm9, hb9⟩
          have hsw := HBS5.out.size
          obtain ⟨qs, hLq, hq⟩ := hm9
          obtain ⟨os, hLo, hoo⟩ := HMO5.out
          obtain ⟨a8, c8, rfl⟩ := own_formN hq.1
          have hol : os.length ≤ 3 := by have := HLF.out; rw [hLo, List.length_map] at this; exact this
          have hql : qs.length ≤ 3 := by have := (beginL_few HF5.out).1; rw [hLq, List.length_map] at this; exact this
          have HOO : Hid (MsgsOwn w9 w.heap.size (.slice ao L1.length co) os ∧ L1 = os.map Prod.fst) := ⟨msgs_beside hoo HX5.out hb9, hLo⟩
          have HQQ : Hid (MsgsOwn w9 w.heap.size (.slice a8 qs.length c8) qs ∧ beginL R4 = qs.map Prod.fst) := ⟨hq.base hsw, hLq⟩
          have HH9 : Hid (HeldAt w9 b B (beginR R4)) := hh9
          have HBS9 : Hid (Beside B b w w9) := HBS5.out.trans (hb9.mono (HBS5.out.up HBS.out))
          have hst : w.heap.size ≤ w9.heap.size := Nat.le_trans hsw hb9.size
          clear hq hLq hoo hLo hh9 hb9 hsw HBC HH5
          go_wp2_with (at_builtin; refine wpList_append_row _ rfl _ _ 33 rfl w.heap.size 31 Try.t31 _ 8 80 Try.underlying33 infoMsg zeroMsgV sizeMsg bytesMsg rfl (by decide) _ os.length (os.flatMap msgRow) rfl HOO.out.1.1 _ qs.length (qs.flatMap msgRow) rfl (MsgsOwn.row HQQ.out.1) (msgRow_one qs (msgs_forms HQQ.out.1)) (by unfold maxLen; omega) (by omega) hst ?_)
          intro v7 u4 hown4 hg4 hat4
          have hkp := Keeps.grown HOO.out.1.1 hg4
          have HE : Hid (GoesTo b B RR LL w (.returned v7) u4) := by
            refine ⟨_, rfl, ?_, ?_, ?_⟩
            · rw [HQ5.out.1]; exact HH9.out.grown HOO.out.1.1 hg4
            · rw [HQ5.out.2, HQQ.out.2, HOO.out.2]
              exact ⟨_, by rw [List.map_append], MsgsOwn.app HOO.out.1 HQQ.out.1 hkp hown4⟩
            · exact HBS9.out.grown HOO.out.1.1 hg4 HBS.out HBS.out
          clear hown4 hg4 hat4 hkp
          go_wp2_with fail
          go_ret
          exact HE.out

end Go.Proofs.Ytmdgkjbiicaljag
