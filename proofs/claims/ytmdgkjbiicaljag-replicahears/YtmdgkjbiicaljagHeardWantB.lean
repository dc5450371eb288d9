/- The document's heard, at a Want, not of a view above. -/
import Derived.Test.YtmdgkjbiicaljagJointWantFar
import Derived.Test.YtmdgkjbiicaljagJointNumIs
namespace Go.Proofs.Ytmdgkjbiicaljag
open Go.RowKit
set_option linter.unusedVariables false
set_option linter.unusedSimpArgs false

set_option maxRecDepth 4000 in
set_option maxHeartbeats 32000000 in
theorem heardWantB_any (b B : Nat) (R : ReplM) (M : MsgM) (u : Value) (w : World) (h : HeldAt w b B R) (hm : MsgAt w u M) (hk : M.kind = 3) (hf : ReplFits R) (hmf : TextsIn M.log) (hws : R.wants.length = 3) (hgs : R.gives.length = 3) (hgn : R.given.length = 3) (hme : 0 ≤ R.me) (hme' : R.me < 3) (hf0 : 0 ≤ M.frm) (hf1 : M.frm ≤ 2) (hB : B ≤ w.heap.size) (hv : ¬ R.kept.view < M.view) :
    Calls Try.prog 27 #[.pointer (some ⟨b, 0, none⟩), u] w (GoesTo b B (wantedR (R) M) (([] : List MsgM) ++ wantedL (R) M) w) := by
  obtain ⟨R1, hR1⟩ : ∃ R1, R1 = R := ⟨_, rfl⟩
  obtain ⟨L1, hL1⟩ : ∃ L1, L1 = ([] : List MsgM) := ⟨_, rfl⟩
  rw [← hR1, ← hL1]
  have HF1 : Hid (ReplFits R1) := by rw [hR1]; exact hf
  have H31 : Hid ((R1.wants.length = 3 ∧ R1.gives.length = 3 ∧ R1.given.length = 3) ∧ 0 ≤ R1.me ∧ R1.me < 3) := by rw [hR1]; exact ⟨⟨hws, hgs, hgn⟩, hme, hme'⟩
  have HLF : Hid (L1.length ≤ 3) := by rw [hL1]; exact Nat.zero_le _
  have HRL : Hid (R1 = R ∧ L1 = ([] : List MsgM)) := ⟨hR1, hL1⟩
  obtain ⟨RR, hRR⟩ : ∃ RR, RR = wantedR R1 M := ⟨_, rfl⟩
  obtain ⟨LL, hLL⟩ : ∃ LL, LL = L1 ++ wantedL R1 M := ⟨_, rfl⟩
  rw [← hRR, ← hLL]
  have HRR : Hid (RR = wantedR R1 M ∧ LL = L1 ++ wantedL R1 M) := ⟨hRR, hLL⟩
  clear hR1 hL1 hRR hLL hws hgs hgn
  have HKD : Hid (M.kind = 3) := hk
  have HMF : Hid (TextsIn M.log) := hmf
  obtain ⟨mi, hmi⟩ : ∃ mi : Nat, M.frm = (mi : Int) := ⟨M.frm.toNat, by omega⟩
  have hm3 : mi < 3 := by omega
  have HMI : Hid (M.frm = (mi : Int) ∧ M.frm.toNat = mi ∧ mi < 3) := ⟨hmi, by omega, hm3⟩
  obtain ⟨vm, rfl, hs⟩ := hm
  have HST : Hid (Strs w vm M.log) := hs
  obtain ⟨am, cm, rfl, _, _⟩ := hs
  have bm := Box.new w 31 [.int .i64 M.kind, .int .i64 M.frm, .int .i64 M.dst, .int .i64 M.view, .int .i64 M.normal, .int .i64 M.commit, .int .i64 M.n, .slice am M.log.length cm]
  obtain ⟨w0, hw0⟩ : ∃ w0, w0 = w.alloc (.cells #[.int .i64 M.kind, .int .i64 M.frm, .int .i64 M.dst, .int .i64 M.view, .int .i64 M.normal, .int .i64 M.commit, .int .i64 M.n, .slice am M.log.length cm] 31) := ⟨_, rfl⟩
  have hb0 : Below w.heap.size w w0 := by rw [hw0]; exact below_alloc _ _
  have hs0 : w0.heap.size = w.heap.size + 1 := by rw [hw0]; simp
  simp only [msgCells]
  rw [← hw0] at bm
  have HS0 : Hid (w0.heap.size = w.heap.size + 1) := hs0
  have hbne : b ≠ w.heap.size := by
    obtain ⟨_, _, _, _, _, _, hx0, _⟩ := h
    have := hx0.lt
    omega
  have HT : Hid (HeldAt w0 b B R) := h.below hb0
  obtain ⟨vl, vh, vw, vg, vn, ps, hx, ho⟩ := h.below hb0
  obtain ⟨al, cl, ah, ch, aw, cw, ag, cg, an, cn, rfl, rfl, rfl, rfl, rfl⟩ := ho.forms
  have HX : Hid (Box w0 b _ _) := hx
  have HBM : Hid (Box w0 w.heap.size _ _) := bm
  have HB0 : Hid (Below w.heap.size w w0) := hb0
  have HBS : Hid (B ≤ w.heap.size) := hB
  have HME : Hid (0 ≤ R.me ∧ R.me < 3) := ⟨hme, hme'⟩
  have y0 := bm.cell 0 _ rfl
  have y1 := bm.cell 1 _ rfl
  have y2 := bm.cell 2 _ rfl
  have y3 := bm.cell 3 _ rfl
  have y4 := bm.cell 4 _ rfl
  have y5 := bm.cell 5 _ rfl
  have y6 := bm.cell 6 _ rfl
  have y7 := bm.cell 7 _ rfl
  have x0 := hx.cell 0 _ rfl
  have x1 := hx.cell 1 _ rfl
  have x2 := hx.cell 2 _ rfl
  have x3 := hx.cell 3 _ rfl
  have x4 := hx.cell 4 _ rfl
  have x5 := hx.cell 5 _ rfl
  have x6 := hx.cell 6 _ rfl
  have x7 := hx.cell 7 _ rfl
  have x8 := hx.cell 8 _ rfl
  have x9 := hx.cell 9 _ rfl
  rw [HKD.out] at y0
  clear hx ho bm hb0 hs0 hf hB hmf hk hme hme' hmi hf0 hf1 hm3 h
  go_enter Try.func27, Try.ntmps27
  go_upto_region 3 with fail
  rw [← hw0]
  clear hw0
  go_big_region
  have hbA : Below w0.heap.size w0 w0.drew := below_drewN 1 (Below.refl _ _)
  generalize w0.drew = wA at hbA ⊢
  have HBA : Hid (Below w0.heap.size w0 wA) := hbA
  clear y0 y1 y2 y3 y4 y5 y6 y7 x0 x1 x2 x3 x4 x5 x6 x7 x8 x9
  have bm := HBM.out.below hbA HBM.out.lt
  have y0 := bm.cell 0 _ rfl
  have y1 := bm.cell 1 _ rfl
  have y2 := bm.cell 2 _ rfl
  have y3 := bm.cell 3 _ rfl
  have y4 := bm.cell 4 _ rfl
  have y5 := bm.cell 5 _ rfl
  have y6 := bm.cell 6 _ rfl
  have y7 := bm.cell 7 _ rfl
  rw [HKD.out] at y0
  clear bm hbA hv
  obtain ⟨ao, co, hvo⟩ : ∃ ao co, (.slice none 0 0 : Value) = .slice ao L1.length co := ⟨none, 0, by rw [HRL.out.2]; rfl⟩
  obtain ⟨w6, hw6⟩ : ∃ w6, w6 = wA := ⟨_, rfl⟩
  have HH6 : Hid (HeldAt w6 b B R1) := by rw [hw6, HRL.out.1]; exact HT.out.below HBA.out
  have HMO : Hid (MsgsNew w6 w.heap.size (.slice ao L1.length co) L1) := by rw [← hvo, HRL.out.2]; exact msgsNil _ _
  have HM6 : Hid (Box w6 w.heap.size 31 [.int .i64 M.kind, .int .i64 M.frm, .int .i64 M.dst, .int .i64 M.view, .int .i64 M.normal, .int .i64 M.commit, .int .i64 M.n, .slice am M.log.length cm]) := by rw [hw6]; exact HBM.out.below HBA.out HBM.out.lt
  have HBS6 : Hid (Beside w.heap.size b w w6) := by rw [hw6]; exact Beside.of (Below.far HB0.out HBA.out)
  go_upto_region 5 with fail
  rw [← hw6, hvo]
  clear hw6 hvo y0 y1 y2 y3 y4 y5 y6 y7
  clear HRL HT HX HBM HB0 HBA HME
  obtain ⟨vl6, vh6, vw6, vg6, vn6, ps6, hx6, ho6⟩ := HH6.out
  obtain ⟨al6, cl6, ah6, ch6, aw6, cw6, ag6, cg6, an6, cn6, rfl, rfl, rfl, rfl, rfl⟩ := ho6.forms
  have hy6 := HM6.out
  have x0 := hx6.cell 0 _ rfl
  have x1 := hx6.cell 1 _ rfl
  have x2 := hx6.cell 2 _ rfl
  have x3 := hx6.cell 3 _ rfl
  have x4 := hx6.cell 4 _ rfl
  have x5 := hx6.cell 5 _ rfl
  have x6 := hx6.cell 6 _ rfl
  have x7 := hx6.cell 7 _ rfl
  have x8 := hx6.cell 8 _ rfl
  have x9 := hx6.cell 9 _ rfl
  have y0 := hy6.cell 0 _ rfl
  have y1 := hy6.cell 1 _ rfl
  have y2 := hy6.cell 2 _ rfl
  have y3 := hy6.cell 3 _ rfl
  have y4 := hy6.cell 4 _ rfl
  have y5 := hy6.cell 5 _ rfl
  have y6 := hy6.cell 6 _ rfl
  have y7 := hy6.cell 7 _ rfl
  rw [HKD.out] at y0
  have HX6 : Hid (Box w6 b _ _) := hx6
  have HO6 : Hid (ReplOwn w6 B R1 _ _ _ _ _ _) := ho6
  clear hx6 ho6 hy6
  obtain ⟨gw, cw', hvw, hgwB, _, hcw0, hfw⟩ := own_cell HO6.out.2.2.2.1 mi (by have := H31.out.1.1; have := HMI.out.2.2; omega)
  injection hvw with q1 _ q3
  rw [q1] at x7
  have HQW : Hid (aw6 = some ⟨gw, 0, none⟩) := q1
  clear q1 q3
  have hcw : w6.cell? ⟨gw, mi, none⟩ = some (.bool (R1.wants.getD mi false)) := by
    rw [hcw0]
    have : mi < R1.wants.length := by have := H31.out.1.1; have := HMI.out.2.2; omega
    simp [encB, List.getD, this]
  clear hcw0
  rw [HMI.out.1] at y1
  have k0 : (0 : Int) ≤ (mi : Int) := by omega
  have k1 : (mi : Int) < (R1.wants.length : Int) := by have := H31.out.1.1; have := HMI.out.2.2; omega
  go_upto_region 41 with fail
  by_cases hc : R1.kept.calm = true
  · have HEQ : Hid (RR = R1 ∧ LL = L1) := by
      rw [HRR.out.1, HRR.out.2]; unfold wantedR wantedL
      rw [if_pos (Or.inl hc), if_pos (Or.inl hc), List.append_nil]; exact ⟨rfl, rfl⟩
    have HE : Hid (∀ W, Below w6.heap.size w6 W → GoesTo b B RR LL w (.returned (.slice ao L1.length co)) W) := fun W hW => by
      rw [HEQ.out.1, HEQ.out.2]
      exact ⟨_, rfl, HH6.out.below hW, HMO.out.below' hW, (HBS6.out.far (Nat.le_refl _) hW).mono HBS.out⟩
    rw [hc] at x3
    clear hc hcw hfw
    go_big_region
    go_wp2_with fail
    go_ret
    exact HE.out _ (below_drewN 1 (Below.refl _ _))
  · have hc' : R1.kept.calm = false := by simpa using hc
    rw [hc'] at x3
    by_cases hw : R1.wants.getD mi false = true
    · have HEQ : Hid (RR = R1 ∧ LL = L1) := by
        rw [HRR.out.1, HRR.out.2]; unfold wantedR wantedL
        rw [HMI.out.2.1, if_pos (Or.inr hw), if_pos (Or.inr hw), List.append_nil]; exact ⟨rfl, rfl⟩
      have HE : Hid (∀ W, Below w6.heap.size w6 W → GoesTo b B RR LL w (.returned (.slice ao L1.length co)) W) := fun W hW => by
        rw [HEQ.out.1, HEQ.out.2]
        exact ⟨_, rfl, HH6.out.below hW, HMO.out.below' hW, (HBS6.out.far (Nat.le_refl _) hW).mono HBS.out⟩
      rw [hw] at hcw
      clear hc hc' hw hfw
      go_big_region
      go_wp2_with fail
      go_ret
      exact HE.out _ (below_drewN 1 (Below.refl _ _))
    · have hw' : R1.wants.getD mi false = false := by simpa using hw
      rw [hw'] at hcw
      obtain ⟨R2, hR2⟩ : ∃ R2 : ReplM, R2 = ⟨R1.me, R1.kept, R1.hav, R1.wants.set mi true, R1.gives, R1.given⟩ := ⟨_, rfl⟩
      have HQ2 : Hid (RR = (if R1.kept.view.tmod 3 = R1.me then beginR (withGive R2 R1.me.toNat (ownK R2)) else R2) ∧ LL = L1 ++ (if R1.kept.view.tmod 3 = R1.me then beginL (withGive R2 R1.me.toNat (ownK R2)) else [⟨4, R1.me, R1.kept.view.tmod 3, R1.kept.view, R1.kept.normal, R1.kept.commit, 0, R1.kept.log⟩])) := by
        rw [HRR.out.1, HRR.out.2, hR2]; unfold wantedR wantedL
        have hn : ¬ (R1.kept.calm = true ∨ R1.wants.getD mi false = true) := by rintro (h | h); exact hc h; exact hw h
        rw [HMI.out.2.1, if_neg hn, if_neg hn]
        exact ⟨rfl, rfl⟩
      clear hc hc' hw hw' hfw HRR
      go_big_region
      clear k0 k1
      have hb7 : Below w6.heap.size w6 w6.drew := below_drewN 1 (Below.refl _ _)
      generalize w6.drew = w7 at hb7 ⊢
      have HX7 : Hid (Box w7 b _ _) := HX6.out.below hb7 HX6.out.lt
      have HO7 : Hid (ReplOwn w7 B R1 _ _ _ _ _ _) := HO6.out.below hb7
      have HM7 : Hid (Box w7 w.heap.size _ _) := HM6.out.below hb7 HM6.out.lt
      have HMO7 : Hid (MsgsNew w7 w.heap.size _ L1) := HMO.out.below' hb7
      have HBS7 : Hid (Beside B b w w7) := (HBS6.out.far (Nat.le_refl _) hb7).mono HBS.out
      have hcw := keep_cell9 hb7 hcw
      clear x0 x1 x2 x3 x4 x5 x6 x7 x8 x9 y0 y1 y2 y3 y4 y5 y6 y7 hb7
      have hx7 := HX7.out
      have hy7 := HM7.out
      have x0 := hx7.cell 0 _ rfl
      have x1 := hx7.cell 1 _ rfl
      have x2 := hx7.cell 2 _ rfl
      have x3 := hx7.cell 3 _ rfl
      have x4 := hx7.cell 4 _ rfl
      have x5 := hx7.cell 5 _ rfl
      have x6 := hx7.cell 6 _ rfl
      have x7 := hx7.cell 7 _ rfl
      have x8 := hx7.cell 8 _ rfl
      have x9 := hx7.cell 9 _ rfl
      have y0 := hy7.cell 0 _ rfl
      have y1 := hy7.cell 1 _ rfl
      have y2 := hy7.cell 2 _ rfl
      have y3 := hy7.cell 3 _ rfl
      have y4 := hy7.cell 4 _ rfl
      have y5 := hy7.cell 5 _ rfl
      have y6 := hy7.cell 6 _ rfl
      have y7 := hy7.cell 7 _ rfl
      rw [HQW.out] at x7
      rw [HMI.out.1] at y1
      clear hx7 hy7
      have hfw : w7.frozen? ⟨gw, mi, none⟩ = false := by
        have := HO7.out.2.2.2.1
        rw [HQW.out] at this
        obtain ⟨g', c2, hv, _, _, _, hf⟩ := own_cell this mi (by have := H31.out.1.1; have := HMI.out.2.2; omega)
        simp only [Value.slice.injEq, true_and, Option.some.injEq, Addr.mk.injEq, and_true] at hv
        obtain ⟨rfl, _⟩ := hv
        exact hf
      have k0 : (0 : Int) ≤ (mi : Int) := by omega
      have k1 : (mi : Int) < (R1.wants.length : Int) := by have := H31.out.1.1; have := HMI.out.2.2; omega
      go_upto_region 43 with fail
      refine wp_region_two [0, 0, 0, 0, 0, 0, 0, 1] (by kernel_rfl) (by kernel_rfl) ?_
      simp only [sel, ↓reduceIte, Nat.reduceEqDiff]
      repeat (go_big_quiet_step (fail))
      refine wpQuiet_nil ?_
      intro w9 hw9
      obtain ⟨nq, rfl⟩ := hw9
      go_upto_region 44 with fail
      have hod : ReplOwn (w7.drewN nq) B R1 _ _ _ _ _ _ := HO7.out.below (below_drewN nq (Below.refl _ _))
      rw [HQW.out] at hod
      have hx8 := (HX7.out.drewN nq).row hod.2.2.2.1 rfl (by decide) (.bool true) (i := mi)
      have ho8 := hod.wants mi true
      rw [← hR2, ← HQW.out] at ho8
      have HM8 : Hid (Box ((w7.drewN nq).setCell ⟨gw, mi, none⟩ (.bool true)) w.heap.size 31 [.int .i64 M.kind, .int .i64 M.frm, .int .i64 M.dst, .int .i64 M.view, .int .i64 M.normal, .int .i64 M.commit, .int .i64 M.n, .slice am M.log.length cm]) := (HM7.out.drewN nq).row hod.2.2.2.1 rfl (by decide) (.bool true) (i := mi)
      have HMO8 : Hid (MsgsNew ((w7.drewN nq).setCell ⟨gw, mi, none⟩ (.bool true)) w.heap.size (.slice ao L1.length co) L1) := (HMO7.out.below' (below_drewN nq (Below.refl _ _))).row hod.2.2.2.1 rfl (by decide) (by decide) _
      have HBS8 : Hid (Beside B b w ((w7.drewN nq).setCell ⟨gw, mi, none⟩ (.bool true))) := (HBS7.out.far HBS.out (below_drewN nq (Below.refl _ _))).setCell (a := ⟨gw, mi, none⟩) (Or.inr hgwB) _
      generalize World.setCell (w7.drewN nq) _ _ = w8 at hx8 ho8 HM8 HMO8 HBS8 ⊢
      obtain ⟨mei, hmei⟩ : ∃ mei : Nat, R1.me = (mei : Int) := ⟨R1.me.toNat, by have := H31.out.2; omega⟩
      have hmei3 : mei < 3 := by have := H31.out.2; omega
      have HF2 : Hid (ReplFits R2) := by rw [hR2]; exact HF1.out.kept R1.kept HF1.out.log R1.hav rfl _ (by rw [List.length_set])
      have H32 : Hid (R2.wants.length = R1.wants.length ∧ R2.gives.length = 3 ∧ R2.given.length = 3 ∧ R2.me = (mei : Int) ∧ R2.me.toNat = mei ∧ mei < 3) := by
        rw [hR2]; exact ⟨List.length_set .., H31.out.1.2.1, H31.out.1.2.2, hmei, by show R1.me.toNat = mei; omega, hmei3⟩
      have e2 : R1.kept = R2.kept ∧ R1.me = R2.me ∧ R1.hav = R2.hav ∧ R1.gives = R2.gives ∧ R1.given = R2.given := by rw [hR2]; exact ⟨rfl, rfl, rfl, rfl, rfl⟩
      rw [e2.1, e2.2.1, H32.out.2.2.2.2.1] at HQ2
      rw [e2.1, e2.2.1, e2.2.2.1, e2.2.2.2.1, e2.2.2.2.2, ← H32.out.1, H32.out.2.2.2.1] at hx8
      rw [e2.2.2.2.1, e2.2.2.2.2, e2.1, e2.2.2.1, ← H32.out.1] at ho8
      have HX8 : Hid (Box w8 b 29 _) := hx8
      have HO8 : Hid (ReplOwn w8 B R2 _ _ _ _ _ _) := ho8
      clear hR2 e2 hod hmei hmei3 x0 x1 x2 x3 x4 x5 x6 x7 x8 x9 y0 y1 y2 y3 y4 y5 y6 y7 hcw hfw k0 k1 HX7 HO7 HM7 HMO7 HBS7 HX6 HO6 HM6 HMO HBS6 HH6 HF1 H31 HQW hgwB
      have hy8 := HM8.out
      have x0 := hx8.cell 0 _ rfl
      have x1 := hx8.cell 1 _ rfl
      have x2 := hx8.cell 2 _ rfl
      have x3 := hx8.cell 3 _ rfl
      have x4 := hx8.cell 4 _ rfl
      have x5 := hx8.cell 5 _ rfl
      have x6 := hx8.cell 6 _ rfl
      have x7 := hx8.cell 7 _ rfl
      have x8 := hx8.cell 8 _ rfl
      have x9 := hx8.cell 9 _ rfl
      have y0 := hy8.cell 0 _ rfl
      have y1 := hy8.cell 1 _ rfl
      have y2 := hy8.cell 2 _ rfl
      have y3 := hy8.cell 3 _ rfl
      have y4 := hy8.cell 4 _ rfl
      have y5 := hy8.cell 5 _ rfl
      have y6 := hy8.cell 6 _ rfl
      have y7 := hy8.cell 7 _ rfl
      clear hx8 ho8 hy8
      by_cases hto : R2.kept.view.tmod 3 = R2.me
      · have HQ3 : Hid (RR = beginR (withGive R2 mei (ownK R2)) ∧ LL = L1 ++ beginL (withGive R2 mei (ownK R2))) := by
          have := HQ2.out
          rw [if_pos hto, if_pos hto] at this
          exact this
        rw [H32.out.2.2.2.1] at hto
        have hq : (R2.kept.view.tmod 3 == (mei : Int)) = true := by simpa using hto
        obtain ⟨g, cg', hvg, _, _, _, _⟩ := own_cellN HO8.out.2.2.2.2.1.1 (by decide) 0 (by have e := HO8.out.1; have := H32.out.2.1; rw [e, List.length_map] at this; omega)
        obtain ⟨gn, cn', hvn, _, _, _, _⟩ := own_cell HO8.out.2.2.2.2.2.1 0 (by have := H32.out.2.2.1; omega)
        simp only [Value.slice.injEq] at hvg hvn
        obtain ⟨rfl, hlq1, rfl⟩ := hvg
        obtain ⟨rfl, hlq2, rfl⟩ := hvn
        clear hlq1 hlq2
        have HF8 : Hid (ReplFits R2) := HF2.out
        have HN8 : Hid (R2.gives.length = 3 ∧ R2.given.length = 3 ∧ R2.me = (mei : Int) ∧ mei < 3) := ⟨H32.out.2.1, H32.out.2.2.1, H32.out.2.2.2.1, H32.out.2.2.2.2.2⟩
        go_upto_region 46 with fail
        clear hto hq HQ2 HF2 H32
        have HA8 : Hid (ReplAt w8 (.agg #[.int .i64 (mei : Int), .int .i64 R2.kept.view, .int .i64 R2.kept.normal, .bool R2.kept.calm, .slice al6 R2.kept.log.length cl6, .int .i64 R2.kept.commit, .slice ah6 R2.hav.length ch6, .slice aw6 R2.wants.length cw6, .slice (some ⟨g, 0, none⟩) R2.gives.length cg6, .slice (some ⟨gn, 0, none⟩) R2.given.length cn6]) R2) := by
          have := HO8.out.at HF8.out
          simp only [replCells, HN8.out.2.2.1] at this
          exact this
        have HPL8 : Hid ((ps6).length = 3) := by have e := HO8.out.1; have := HN8.out.1; rw [e, List.length_map] at this; exact this
        clear x0 x1 x2 x3 x4 x5 x6 x7 x8 x9 y0 y1 y2 y3 y4 y5 y6 y7
        refine wp_region_free [0, 0, 0, 0, 0, 0, 0, 0, 0, 0, 0, 1, 2, 2] (by kernel_rfl) (by kernel_rfl) (fun h => h) (Below w8.heap.size w8) (Below.refl _ _) (fun V n hV => below_drewN n hV) ?_
        apply Exists.intro
        refine ⟨?_, ?_⟩
        · intro V hV
          have bx := HX8.out.below hV HX8.out.lt
          have x0 := bx.cell 0 _ rfl
          have x1 := bx.cell 1 _ rfl
          have x2 := bx.cell 2 _ rfl
          have x3 := bx.cell 3 _ rfl
          have x4 := bx.cell 4 _ rfl
          have x5 := bx.cell 5 _ rfl
          have x6 := bx.cell 6 _ rfl
          have x7 := bx.cell 7 _ rfl
          have x8 := bx.cell 8 _ rfl
          have x9 := bx.cell 9 _ rfl
          simp only [sel, ↓reduceIte, Nat.reduceEqDiff]
          repeat (go_big_quiet_step (fail))
          refine wpQuiet_nil ?_
          rfl
        · intro n
          simp only [sel, ↓reduceIte, Nat.reduceEqDiff]
          refine wpEarly_cons ?_
          go_wp2_with fail
          refine (ownOf_any R2 _ (w8.drewN n) (HA8.out.below (below_drewN n (Below.refl _ _))) HF8.out.log).mono ?_
          rintro e wx ⟨a9, c9, rfl, hown9, hb9⟩
          have hbw : Below w8.heap.size w8 wx := ⟨hb9.os, hb9.tape, hb9.output, hb9.size, hb9.block⟩
          have HBW : Hid (Below w8.heap.size w8 wx) := hbw
          have HOW : Hid (wx.ownsRow w8.heap.size 9 1 (.slice a9 R2.kept.log.length c9) R2.kept.log.length (R2.kept.log.map enc)) := hown9
          clear hown9 hb9
          go_wp2_with fail
          refine wpEarly_next hbw fun m => ?_
          refine wpEarly_nil ?_
          clear hbw
          obtain ⟨wt, hwt⟩ : ∃ wt, wt = wx.drewN m := ⟨_, rfl⟩
          rw [← hwt]
          have hbt : Below w8.heap.size w8 wt := by rw [hwt]; exact below_drewN m HBW.out
          have hot : wt.ownsRow w8.heap.size 9 1 (.slice a9 R2.kept.log.length c9) R2.kept.log.length (R2.kept.log.map enc) := by rw [hwt]; exact own_drewN m HOW.out
          clear hwt HBW HOW
          have HKF : Hid (TextsIn (ownK R2).log) := own_fits HF8.out
          have hxt := HX8.out.below hbt HX8.out.lt
          have hrt : ReplOwn wt B R2 _ _ _ _ _ _ := HO8.out.below hbt
          have hmt := HM8.out.below hbt HM8.out.lt
          have hmot := HMO8.out.below' hbt
          have hsz : B ≤ w8.heap.size := HBS8.out.up HBS.out
          have hbg : b ≠ g := fun e => own_type hrt.2.2.2.2.1.1 hxt (by decide) (congrArg some e.symm)
          have hmg : w.heap.size ≠ g := fun e => own_type hrt.2.2.2.2.1.1 hmt (by decide) (congrArg some e.symm)
          have hgB : B ≤ g := own_ge hrt.2.2.2.2.1.1 g rfl
          have hbst : Beside B b w wt := HBS8.out.far HBS.out hbt
          have hpl3 := HPL8.out
          have hat3 : mei < 3 := by first | exact HN8.out.2.2.2 | exact HMI.out.2.2
          have hl3 : R2.gives.length = 3 := HN8.out.1
          obtain ⟨w3, hw3⟩ : ∃ w3, w3 = setAll wt g (mei * 5) (keptCells (ownK R2) (.slice a9 R2.kept.log.length c9)) := ⟨_, rfl⟩
          have hx3 := Box.setAll_other hbg (keptCells (ownK R2) (.slice a9 R2.kept.log.length c9)) (mei * 5) hxt
          have ho3 := gives1_own (i := mei) (K := ownK R2) (vk := (.slice a9 R2.kept.log.length c9)) hrt (by omega) (own_base hot hsz) (Asunder.symm (asunder_new (W := wt) (C := 0) HO8.out.2.1 (fun k hk => own_ge hot k hk)))
          have hm3 := Box.setAll_other hmg (keptCells (ownK R2) (.slice a9 R2.kept.log.length c9)) (mei * 5) hmt
          have hmo3 : MsgsNew (setAll wt g (mei * 5) (keptCells (ownK R2) (.slice a9 R2.kept.log.length c9))) w.heap.size (.slice ao L1.length co) L1 := by
            obtain ⟨os, hL, hq⟩ := hmot
            exact ⟨os, hL, msgs_setAll hq hrt.2.2.2.2.1.1 (by decide) (by decide) _⟩
          have hbs3 := setAll_beside_up hgB (keptCells (ownK R2) (.slice a9 R2.kept.log.length c9)) _ _ (mei * 5) hbst
          rw [← hw3] at hx3 ho3 hm3 hmo3 hbs3
          simp only [setAll, keptCells, ownK, msgKept, Nat.add_assoc, Nat.reduceAdd] at hw3
          have HX3 : Hid (Box w3 b 29 [.int .i64 (mei : Int), .int .i64 R2.kept.view, .int .i64 R2.kept.normal, .bool R2.kept.calm, .slice al6 R2.kept.log.length cl6, .int .i64 R2.kept.commit, .slice ah6 R2.hav.length ch6, .slice aw6 R2.wants.length cw6, .slice (some ⟨g, 0, none⟩) R2.gives.length cg6, .slice (some ⟨gn, 0, none⟩) R2.given.length cn6]) := hx3
          have HO3 : Hid (ReplOwn w3 B (withG R2 mei (ownK R2)) (.slice al6 R2.kept.log.length cl6) (.slice ah6 R2.hav.length ch6) (.slice aw6 R2.wants.length cw6) (.slice (some ⟨g, 0, none⟩) R2.gives.length cg6) (.slice (some ⟨gn, 0, none⟩) R2.given.length cn6) _) := ho3
          have HM3 : Hid (Box w3 w.heap.size 31 [.int .i64 M.kind, .int .i64 M.frm, .int .i64 M.dst, .int .i64 M.view, .int .i64 M.normal, .int .i64 M.commit, .int .i64 M.n, .slice am M.log.length cm]) := hm3
          have HMO3 : Hid (MsgsNew w3 w.heap.size (.slice ao L1.length co) L1) := hmo3
          have HBS3 : Hid (Beside B b w w3) := hbs3
          obtain ⟨⟨q0, p0⟩, r0⟩ := give_cells hrt.2.2.2.2.1 (by omega) (i := mei) (by omega) 0 (by omega)
          obtain ⟨⟨q1, p1⟩, r1⟩ := give_cells hrt.2.2.2.2.1 (by omega) (i := mei) (by omega) 1 (by omega)
          obtain ⟨⟨q2, p2⟩, r2⟩ := give_cells hrt.2.2.2.2.1 (by omega) (i := mei) (by omega) 2 (by omega)
          obtain ⟨⟨q3, p3⟩, r3⟩ := give_cells hrt.2.2.2.2.1 (by omega) (i := mei) (by omega) 3 (by omega)
          obtain ⟨⟨q4, p4⟩, r4⟩ := give_cells hrt.2.2.2.2.1 (by omega) (i := mei) (by omega) 4 (by omega)
          rw [Nat.add_zero] at p0 r0
          have k0 : (0 : Int) ≤ (mei : Int) := by omega
          have k1 : (mei : Int) < (R2.gives.length : Int) := by omega
          clear hxt hrt hmt hmot hsz hbg hmg hgB hbst hx3 ho3 hm3 hmo3 hbs3 hbt hot hpl3 hl3
          go_upto_region 47 with fail
          rw [← hw3]
          clear hw3 p0 p1 p2 p3 p4 r0 r1 r2 r3 r4 q0 q1 q2 q3 q4 k0 k1
          have HPG : Hid (R2.given.length = 3) := HN8.out.2.1
          have hgl : mei < R2.given.length := by have := HPG.out; omega
          have hgc := given_cell (l := R2.given) HO3.out.2.2.2.2.2.1 hgl
          obtain ⟨hgc1, hgc2⟩ := hgc
          generalize R2.given.getD mei false = s5 at hgc1
          have k0 : (0 : Int) ≤ (mei : Int) := by omega
          have k1 : (mei : Int) < (R2.given.length : Int) := by omega
          have hx3 := HX3.out
          have hy3 := HM3.out
          have x0 := hx3.cell 0 _ rfl
          have x1 := hx3.cell 1 _ rfl
          have x2 := hx3.cell 2 _ rfl
          have x3 := hx3.cell 3 _ rfl
          have x4 := hx3.cell 4 _ rfl
          have x5 := hx3.cell 5 _ rfl
          have x6 := hx3.cell 6 _ rfl
          have x7 := hx3.cell 7 _ rfl
          have x8 := hx3.cell 8 _ rfl
          have x9 := hx3.cell 9 _ rfl
          have y0 := hy3.cell 0 _ rfl
          have y1 := hy3.cell 1 _ rfl
          have y2 := hy3.cell 2 _ rfl
          have y3 := hy3.cell 3 _ rfl
          have y4 := hy3.cell 4 _ rfl
          have y5 := hy3.cell 5 _ rfl
          have y6 := hy3.cell 6 _ rfl
          have y7 := hy3.cell 7 _ rfl
          rw [HMI.out.1] at y1
          clear hx3 hy3
          refine wp_region_two [0, 0, 0, 0, 0, 0, 0, 0, 0, 1] (by kernel_rfl) (by kernel_rfl) ?_
          simp only [sel, ↓reduceIte, Nat.reduceEqDiff]
          repeat (go_big_quiet_step (fail))
          refine wpQuiet_nil ?_
          intro w9 hw9
          obtain ⟨nq, rfl⟩ := hw9
          go_upto_region 48 with fail
          have hod : ReplOwn (w3.drewN nq) B (withG R2 mei (ownK R2)) _ _ _ _ _ _ := HO3.out.below (below_drewN nq (Below.refl _ _))
          have hbgn : b ≠ gn := fun e => own_type hod.2.2.2.2.2.1 (HX3.out.drewN nq) (by decide) (congrArg some e.symm)
          have hgnB : B ≤ gn := own_ge hod.2.2.2.2.2.1 gn rfl
          have HX4 : Hid (Box ((w3.drewN nq).setCell ⟨gn, mei, none⟩ (.bool true)) b 29 [.int .i64 (mei : Int), .int .i64 R2.kept.view, .int .i64 R2.kept.normal, .bool R2.kept.calm, .slice al6 R2.kept.log.length cl6, .int .i64 R2.kept.commit, .slice ah6 R2.hav.length ch6, .slice aw6 R2.wants.length cw6, .slice (some ⟨g, 0, none⟩) R2.gives.length cg6, .slice (some ⟨gn, 0, none⟩) R2.given.length cn6]) := (HX3.out.drewN nq).other (a := ⟨gn, mei, none⟩) _ hbgn
          have HO4 : Hid (ReplOwn ((w3.drewN nq).setCell ⟨gn, mei, none⟩ (.bool true)) B (withGive R2 mei (ownK R2)) (.slice al6 R2.kept.log.length cl6) (.slice ah6 R2.hav.length ch6) (.slice aw6 R2.wants.length cw6) (.slice (some ⟨g, 0, none⟩) R2.gives.length cg6) (.slice (some ⟨gn, 0, none⟩) R2.given.length cn6) _) := given1_own (R := withG R2 mei (ownK R2)) hod mei
          have HM4 : Hid (Box ((w3.drewN nq).setCell ⟨gn, mei, none⟩ (.bool true)) w.heap.size 31 [.int .i64 M.kind, .int .i64 M.frm, .int .i64 M.dst, .int .i64 M.view, .int .i64 M.normal, .int .i64 M.commit, .int .i64 M.n, .slice am M.log.length cm]) := (HM3.out.drewN nq).row hod.2.2.2.2.2.1 rfl (by decide) (.bool true) (i := mei)
          have HMO4 : Hid (MsgsNew ((w3.drewN nq).setCell ⟨gn, mei, none⟩ (.bool true)) w.heap.size (.slice ao L1.length co) L1) := (HMO3.out.below' (below_drewN nq (Below.refl _ _))).row hod.2.2.2.2.2.1 rfl (by decide) (by decide) _
          have HBS4 : Hid (Beside B b w ((w3.drewN nq).setCell ⟨gn, mei, none⟩ (.bool true))) := (HBS3.out.far HBS.out (below_drewN nq (Below.refl _ _))).setCell (a := ⟨gn, mei, none⟩) (Or.inr hgnB) _
          generalize World.setCell (w3.drewN nq) _ _ = w4 at HX4 HO4 HM4 HMO4 HBS4 ⊢
          obtain ⟨R3, hR3⟩ : ∃ R3, R3 = withGive R2 mei (ownK R2) := ⟨_, rfl⟩
          have HF4 : Hid (ReplFits R3) := by rw [hR3]; exact withGive_fits HF8.out _ _ HKF.out
          have e9 : R2.me = R3.me ∧ R2.kept = R3.kept ∧ R2.hav = R3.hav ∧ R2.wants = R3.wants ∧ R2.gives.length = R3.gives.length ∧ R2.given.length = R3.given.length := by rw [hR3]; exact ⟨rfl, rfl, rfl, rfl, by simp [withGive], by simp [withGive]⟩
          have HN4 : Hid (R3.gives.length = 3 ∧ R3.given.length = 3 ∧ R3.me = (mei : Int) ∧ mei < 3) := by unfold Hid; rw [← e9.1, ← e9.2.2.2.2.1, ← e9.2.2.2.2.2]; exact HN8.out
          rw [e9.2.1, e9.2.2.1, e9.2.2.2.1, e9.2.2.2.2.1, e9.2.2.2.2.2] at HX4
          rw [← hR3, e9.2.1, e9.2.2.1, e9.2.2.2.1, e9.2.2.2.2.1, e9.2.2.2.2.2] at HO4
          have HR4 : Hid (R3 = withGive R2 mei (ownK R2)) := hR3
          clear x0 x1 x2 x3 x4 x5 x6 x7 x8 x9 y0 y1 y2 y3 y4 y5 y6 y7 hod hbgn hgnB hgl hgc1 hgc2 k0 k1 hR3 e9 HX3 HO3 HM3 HMO3 HBS3 HPG HKF s5
          have HQ5 : Hid (RR = beginR R3 ∧ LL = L1 ++ beginL R3) := by rw [HR4.out]; exact HQ3.out
          clear HQ3
          have HH4 : Hid (HeldAt w4 b B R3) := by
            refine ⟨_, _, _, _, _, _, ?_, HO4.out⟩
            rw [HN4.out.2.2.1]
            exact HX4.out
          have HBC : Hid (Calls _ _ _ w4 _) := begunOf_any b B R3 w4 HH4.out HN4.out.1 HN4.out.2.1 (by rw [HN4.out.2.2.1]; omega) (by rw [HN4.out.2.2.1]; have := HN4.out.2.2.2; omega) HF4.out.each (HBS4.out.up HBS.out)
          go_wp2_with fail
          refine HBC.out.mono ?_
          rintro e w9 ⟨v9, rfl, hh9, hm9, hb9⟩
          have hsw := HBS4.out.size
          obtain ⟨qs, hLq, hq⟩ := hm9
          obtain ⟨os, hLo, hoo⟩ := HMO4.out
          obtain ⟨a8, c8, rfl⟩ := own_formN hq.1
          have hol : os.length ≤ 3 := by have := HLF.out; rw [hLo, List.length_map] at this; exact this
          have hql : qs.length ≤ 3 := by have := (beginL_few HF4.out).1; rw [hLq, List.length_map] at this; exact this
          have HOO : Hid (MsgsOwn w9 w.heap.size (.slice ao L1.length co) os ∧ L1 = os.map Prod.fst) := ⟨msgs_beside hoo HX4.out hb9, hLo⟩
          have HQQ : Hid (MsgsOwn w9 w.heap.size (.slice a8 qs.length c8) qs ∧ beginL R3 = qs.map Prod.fst) := ⟨hq.base hsw, hLq⟩
          have HH9 : Hid (HeldAt w9 b B (beginR R3)) := hh9
          have HBS9 : Hid (Beside B b w w9) := HBS4.out.trans (hb9.mono (HBS4.out.up HBS.out))
          have hst : w.heap.size ≤ w9.heap.size := Nat.le_trans hsw hb9.size
          clear hq hLq hoo hLo hh9 hb9 hsw HBC HH4
          go_wp2_with (at_builtin; refine wpList_append_row _ rfl _ _ 33 rfl w.heap.size 31 Try.t31 _ 8 80 Try.underlying33 infoMsg zeroMsgV sizeMsg bytesMsg rfl (by decide) _ os.length (os.flatMap msgRow) rfl HOO.out.1.1 _ qs.length (qs.flatMap msgRow) rfl (MsgsOwn.row HQQ.out.1) (msgRow_one qs (msgs_forms HQQ.out.1)) (by unfold maxLen; omega) (by omega) hst ?_)
          intro v7 u4 hown4 hg4 hat4
          have hkp := Keeps.grown HOO.out.1.1 hg4
          have HE : Hid (GoesTo b B RR LL w (.returned v7) u4) := by
            refine ⟨_, rfl, ?_, ?_, ?_⟩
            · rw [HQ5.out.1]; exact HH9.out.grown HOO.out.1.1 hg4
            · rw [HQ5.out.2, HQQ.out.2, HOO.out.2]
              exact ⟨_, by rw [List.map_append], MsgsOwn.app HOO.out.1 HQQ.out.1 hkp hown4⟩
            · exact HBS9.out.grown HOO.out.1.1 hg4 HBS.out HBS.out
          clear hown4 hg4 hat4 hkp
          go_wp2_with fail
          go_ret
          exact HE.out
      · have HQ3 : Hid (RR = R2 ∧ LL = L1 ++ [⟨4, R2.me, R2.kept.view.tmod 3, R2.kept.view, R2.kept.normal, R2.kept.commit, 0, R2.kept.log⟩]) := by
          have := HQ2.out
          rw [if_neg hto, if_neg hto] at this
          exact this
        rw [H32.out.2.2.2.1] at hto
        have hq : (R2.kept.view.tmod 3 == (mei : Int)) = false := by simpa using hto
        go_upto_region 49 with fail
        clear hto hq HQ2
        have HA8 : Hid (ReplAt w8 (.agg #[.int .i64 (mei : Int), .int .i64 R2.kept.view, .int .i64 R2.kept.normal, .bool R2.kept.calm, .slice al6 R2.kept.log.length cl6, .int .i64 R2.kept.commit, .slice ah6 R2.hav.length ch6, .slice aw6 R2.wants.length cw6, .slice ag6 R2.gives.length cg6, .slice an6 R2.given.length cn6]) R2) := by
          have := HO8.out.at HF2.out
          simp only [replCells, H32.out.2.2.2.1] at this
          exact this
        have HH8 : Hid (HeldAt w8 b B R2) := by
          refine ⟨_, _, _, _, _, _, ?_, HO8.out⟩
          rw [H32.out.2.2.2.1]
          exact HX8.out
        go_wp2_with fail
        refine (ownOf_any R2 _ w8 HA8.out HF2.out.log).mono ?_
        rintro e wx ⟨a9, c9, rfl, hown9, hb9⟩
        have hbx9 := Box.new wx 24 [.int .i64 R2.kept.view, .int .i64 R2.kept.normal, .bool false, .slice a9 R2.kept.log.length c9, .int .i64 R2.kept.commit]
        have hal := below_alloc wx (.cells #[.int .i64 R2.kept.view, .int .i64 R2.kept.normal, .bool false, .slice a9 R2.kept.log.length c9, .int .i64 R2.kept.commit] 24)
        obtain ⟨wy, hwy⟩ : ∃ wy, wy = wx.alloc (.cells #[.int .i64 R2.kept.view, .int .i64 R2.kept.normal, .bool false, .slice a9 R2.kept.log.length c9, .int .i64 R2.kept.commit] 24) := ⟨_, rfl⟩
        clear x0 x1 x2 x3 x4 x5 x6 x7 x8 x9 y0 y1 y2 y3 y4 y5 y6 y7
        have x0 := (HX8.out.below hb9 HX8.out.lt).cell 0 _ rfl
        go_upto_region 50 with fail
        rw [← hwy] at hbx9 hal ⊢
        clear hwy x0
        have hb8y : Below w8.heap.size w8 wy := Below.far hb9 hal
        have hsw8 := HBS8.out.size
        have HX9 : Hid (Box wy b 29 [.int .i64 (mei : Int), .int .i64 R2.kept.view, .int .i64 R2.kept.normal, .bool R2.kept.calm, .slice al6 R2.kept.log.length cl6, .int .i64 R2.kept.commit, .slice ah6 R2.hav.length ch6, .slice aw6 R2.wants.length cw6, .slice ag6 R2.gives.length cg6, .slice an6 R2.given.length cn6]) := HX8.out.below hb8y HX8.out.lt
        have HM9 : Hid (Box wy w.heap.size 31 [.int .i64 M.kind, .int .i64 M.frm, .int .i64 M.dst, .int .i64 M.view, .int .i64 M.normal, .int .i64 M.commit, .int .i64 M.n, .slice am M.log.length cm]) := HM8.out.below hb8y HM8.out.lt
        have HMO9 : Hid (MsgsNew wy w.heap.size (.slice ao L1.length co) L1) := HMO8.out.below' hb8y
        have HK9 : Hid (Box wy wx.heap.size 24 [.int .i64 R2.kept.view, .int .i64 R2.kept.normal, .bool false, .slice a9 R2.kept.log.length c9, .int .i64 R2.kept.commit]) := hbx9
        have HOW9 : Hid (wy.ownsRow w.heap.size 9 1 (.slice a9 R2.kept.log.length c9) R2.kept.log.length (R2.kept.log.map enc)) := own_base (own_below hown9 hal (own_lt hown9)) hsw8
        have HH9 : Hid (HeldAt wy b B R2) := HH8.out.below hb8y
        have HBS9 : Hid (Beside B b w wy) := HBS8.out.far HBS.out hb8y
        have HSW : Hid (w.heap.size ≤ wy.heap.size) := Nat.le_trans hsw8 hb8y.size
        clear hbx9 hal hb8y hsw8 hown9 hb9 HX8 HO8 HM8 HMO8 HBS8 HA8 HH8
        refine wp_region_free [0, 0, 0, 0, 0, 0, 0, 0, 0, 0, 0, 0, 0, 0, 0, 0, 0, 1, 1, 2] (by kernel_rfl) (by kernel_rfl) (fun h => h) (fun V => Box V b 29 [.int .i64 (mei : Int), .int .i64 R2.kept.view, .int .i64 R2.kept.normal, .bool R2.kept.calm, .slice al6 R2.kept.log.length cl6, .int .i64 R2.kept.commit, .slice ah6 R2.hav.length ch6, .slice aw6 R2.wants.length cw6, .slice ag6 R2.gives.length cg6, .slice an6 R2.given.length cn6] ∧ Box V wx.heap.size 24 [.int .i64 R2.kept.view, .int .i64 R2.kept.normal, .bool false, .slice a9 R2.kept.log.length c9, .int .i64 R2.kept.commit]) ⟨HX9.out, HK9.out⟩ (fun V n hV => hV) ?_
        apply Exists.intro
        refine ⟨?_, ?_⟩
        · rintro V ⟨hV1, hV2⟩
          have x0 := hV1.cell 0 _ rfl
          have x1 := hV1.cell 1 _ rfl
          have x2 := hV1.cell 2 _ rfl
          have x3 := hV1.cell 3 _ rfl
          have x4 := hV1.cell 4 _ rfl
          have x5 := hV1.cell 5 _ rfl
          have x6 := hV1.cell 6 _ rfl
          have x7 := hV1.cell 7 _ rfl
          have x8 := hV1.cell 8 _ rfl
          have x9 := hV1.cell 9 _ rfl
          have y0 := hV2.cell 0 _ rfl
          have y1 := hV2.cell 1 _ rfl
          have y2 := hV2.cell 2 _ rfl
          have y3 := hV2.cell 3 _ rfl
          have y4 := hV2.cell 4 _ rfl
          simp only [sel, ↓reduceIte, Nat.reduceEqDiff]
          repeat (go_big_quiet_step (fail))
          refine wpQuiet_nil ?_
          rfl
        · intro n
          simp only [sel, ↓reduceIte, Nat.reduceEqDiff]
          refine wpEarly_cons ?_
          go_wp2_with fail
          obtain ⟨wz, hwz⟩ : ∃ wz, wz = (wy.drewN n).alloc (.cells #[.int .i64 4, .int .i64 (mei : Int), .int .i64 (R2.kept.view.tmod 3), .int .i64 R2.kept.view, .int .i64 R2.kept.normal, .int .i64 R2.kept.commit, .int .i64 0, .slice a9 R2.kept.log.length c9] 31) := ⟨_, rfl⟩
          have hbz : Box wz wy.heap.size 31 [.int .i64 4, .int .i64 (mei : Int), .int .i64 (R2.kept.view.tmod 3), .int .i64 R2.kept.view, .int .i64 R2.kept.normal, .int .i64 R2.kept.commit, .int .i64 0, .slice a9 R2.kept.log.length c9] := by rw [hwz]; exact Box.new (wy.drewN n) 31 _
          have hbl : Below wy.heap.size wy wz := by rw [hwz]; exact Below.far (below_drewN n (Below.refl _ _)) (below_alloc _ _)
          rw [← hwz]
          clear hwz
          have HBZ : Hid (Box wz wy.heap.size _ _) := hbz
          have HBL : Hid (Below wy.heap.size wy wz) := hbl
          refine wpEarly_next ⟨HX9.out.below hbl HX9.out.lt, HK9.out.below hbl HK9.out.lt⟩ fun m1 => ?_
          clear hbz hbl
          refine wpEarly_cons ?_
          have hld := below_drewN m1 HBL.out
          obtain ⟨wt, hwt⟩ : ∃ wt, wt = wz.drewN m1 := ⟨_, rfl⟩
          have HBT : Hid (Box wt wy.heap.size 31 [.int .i64 4, .int .i64 (mei : Int), .int .i64 (R2.kept.view.tmod 3), .int .i64 R2.kept.view, .int .i64 R2.kept.normal, .int .i64 R2.kept.commit, .int .i64 0, .slice a9 R2.kept.log.length c9]) := by rw [hwt]; exact HBZ.out
          rw [← hwt] at hld ⊢
          clear hwt
          have HXT : Hid (Box wt b _ _) := HX9.out.below hld HX9.out.lt
          have HKT : Hid (Box wt wx.heap.size _ _) := HK9.out.below hld HK9.out.lt
          have HHT : Hid (HeldAt wt b B R2) := HH9.out.below hld
          have HBST : Hid (Beside B b w wt) := HBS9.out.far HBS.out hld
          have hmo := HMO9.out.below' hld
          have hst : w.heap.size ≤ wt.heap.size := Nat.le_trans HSW.out hld.size
          have HOWT : Hid (wt.ownsRow w.heap.size _ _ _ _ _) := own_below HOW9.out hld (own_lt HOW9.out)
          obtain ⟨os, hLo, hoo⟩ := hmo
          have hol : os.length ≤ 3 := by have := HLF.out; rw [hLo, List.length_map] at this; exact this
          have HOO : Hid (MsgsOwn wt w.heap.size (.slice ao L1.length co) os ∧ L1 = os.map Prod.fst) := ⟨hoo, hLo⟩
          clear hld hLo hoo
          go_wp2_with (at_builtin; refine wpList_append_row _ rfl _ _ 33 rfl w.heap.size 31 Try.t31 _ 8 80 Try.underlying33 infoMsg zeroMsgV sizeMsg bytesMsg rfl (by decide) _ os.length (os.flatMap msgRow) rfl HOO.out.1.1 _ 1 [.int .i64 4, .int .i64 (mei : Int), .int .i64 (R2.kept.view.tmod 3), .int .i64 R2.kept.view, .int .i64 R2.kept.normal, .int .i64 R2.kept.commit, .int .i64 0, .slice a9 R2.kept.log.length c9] rfl (rowAt_box HBT.out 1 8 rfl) (by simp [Value.oneCell']) (by unfold maxLen; omega) (by omega) hst ?_)
          intro v7 u4 hown4 hg4 hat4
          have hkp := Keeps.grown HOO.out.1.1 hg4
          have HE : Hid (∀ m, GoesTo b B RR LL w (.returned v7) (u4.drewN m)) := fun m => by
            have hsn := MsgsOwn.snoc (M := ⟨4, (mei : Int), R2.kept.view.tmod 3, R2.kept.view, R2.kept.normal, R2.kept.commit, 0, R2.kept.log⟩) (vm := .slice a9 R2.kept.log.length c9) HOO.out.1 hkp hown4 (hkp _ _ _ _ _ _ (Or.inl rfl) HOWT.out)
            have hbd := below_drewN m (Below.refl u4.heap.size u4)
            refine ⟨_, rfl, ?_, ?_, ?_⟩
            · rw [HQ3.out.1]; exact (HHT.out.grown HOO.out.1.1 hg4).below hbd
            · rw [HQ3.out.2, H32.out.2.2.2.1, HOO.out.2]
              exact ⟨_, by rw [List.map_append]; rfl, hsn.below hbd⟩
            · exact (HBST.out.grown HOO.out.1.1 hg4 HBS.out HBS.out).far HBS.out hbd
          refine wpEarly_next ⟨HXT.out.grown hg4 (own_type HOO.out.1.1 HXT.out (by decide)), HKT.out.grown hg4 (own_type HOO.out.1.1 HKT.out (by decide))⟩ fun m => ?_
          refine wpEarly_nil ?_
          clear hown4 hg4 hat4 hkp
          go_wp2_with fail
          go_ret
          exact HE.out m

end Go.Proofs.Ytmdgkjbiicaljag
