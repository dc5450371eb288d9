/- The document's heard, at a Has. -/
import Derived.Test.YtmdgkjbiicaljagBegunRef
import Derived.Test.YtmdgkjbiicaljagHearHs
import Derived.Deep.DeepCutAuto
namespace Go.Proofs.Ytmdgkjbiicaljag
open Go.RowKit
set_option linter.unusedVariables false
set_option linter.unusedSimpArgs false

/-- A call through a pointer to a replica, that comes to R with the messages L. -/
def GoesTo (b B : Nat) (R : ReplM) (L : List MsgM) (w : World) (e : Ending) (w' : World) : Prop :=
  ∃ v, e = .returned v ∧ HeldAt w' b B R ∧ MsgsNew w' w.heap.size v L ∧ Beside B b w w'

set_option maxRecDepth 4000 in
set_option maxHeartbeats 16000000 in
theorem heardHas_any (b B : Nat) (R : ReplM) (M : MsgM) (u : Value) (w : World) (h : HeldAt w b B R) (hm : MsgAt w u M) (hk : M.kind = 2) (hf : ReplFits R) (hl3 : R.hav.length = 3) (hf0 : 0 ≤ M.frm) (hf1 : M.frm ≤ 2) (hB : B ≤ w.heap.size) :
    Calls Try.prog 27 #[.pointer (some ⟨b, 0, none⟩), u] w (GoesTo b B (hasR R M) (hasL R M) w) := by
  obtain ⟨RR, hRR⟩ : ∃ RR, RR = hasR R M := ⟨_, rfl⟩
  obtain ⟨LL, hLL⟩ : ∃ LL, LL = hasL R M := ⟨_, rfl⟩
  rw [← hRR, ← hLL]
  have HRR : Hid (RR = hasR R M ∧ LL = hasL R M) := ⟨hRR, hLL⟩
  have HRF : Hid (RR = hasR R M) := hRR
  clear hRR hLL
  obtain ⟨mi, hmi⟩ : ∃ mi : Nat, M.frm = (mi : Int) := ⟨M.frm.toNat, by omega⟩
  have hml : mi < R.hav.length := by omega
  have k0 : (0 : Int) ≤ (mi : Int) := by omega
  have k1 : (mi : Int) < (R.hav.length : Int) := by omega
  obtain ⟨N, hN⟩ : ∃ N, N = min M.n (R.kept.log.length : Int) := ⟨_, rfl⟩
  obtain ⟨H, hH⟩ : ∃ H, H = R.hav.getD mi 0 := ⟨_, rfl⟩
  have HN : Hid (N = min M.n (R.kept.log.length : Int)) := hN
  have HH : Hid (H = R.hav.getD mi 0) := hH
  have HM2I : Hid (M.frm = (mi : Int)) := hmi
  have HMI : Hid (M.frm.toNat = mi) := (show M.frm.toNat = mi by omega)
  have HKD : Hid (M.kind = 2) := hk
  clear hN hH hl3 hk
  obtain ⟨vm, rfl, hs⟩ := hm
  obtain ⟨am, cm, rfl, _, _⟩ := hs
  have bm := Box.new w 31 [.int .i64 M.kind, .int .i64 M.frm, .int .i64 M.dst, .int .i64 M.view, .int .i64 M.normal, .int .i64 M.commit, .int .i64 M.n, .slice am M.log.length cm]
  obtain ⟨w0, hw0⟩ : ∃ w0, w0 = w.alloc (.cells #[.int .i64 M.kind, .int .i64 M.frm, .int .i64 M.dst, .int .i64 M.view, .int .i64 M.normal, .int .i64 M.commit, .int .i64 M.n, .slice am M.log.length cm] 31) := ⟨_, rfl⟩
  have hb0 : Below w.heap.size w w0 := by rw [hw0]; exact below_alloc _ _
  have hs0 : w0.heap.size = w.heap.size + 1 := by rw [hw0]; simp
  simp only [msgCells]
  rw [← hw0] at bm
  have HS0 : Hid (w0.heap.size = w.heap.size + 1) := hs0
  have HT : Hid (HeldAt w b B R) := h
  obtain ⟨vl, vh, vw, vg, vn, ps, hx, ho⟩ := h.below hb0
  obtain ⟨al, cl, ah, ch, aw, cw, ag, cg, an, cn, rfl, rfl, rfl, rfl, rfl⟩ := ho.forms
  obtain ⟨g, ch', hvh, hgB, _, _, _⟩ := own_cell ho.2.2.1 mi (by omega)
  simp only [Value.slice.injEq, true_and] at hvh
  obtain ⟨rfl, rfl⟩ := hvh
  have HA : Hid (ReplAt w0 _ R) := ho.at hf
  simp only [replCells] at HA
  have HFT : Hid (ReplFits R) := hf
  have HX : Hid (Box w0 b _ _) := hx
  have HBM : Hid (Box w0 w.heap.size _ _) := bm
  have HO : Hid (ReplOwn w0 B R _ _ _ _ _ _) := ho
  have HB0 : Hid (Below w.heap.size w w0) := hb0
  have HBS : Hid (B ≤ w.heap.size) := hB
  have y0 := bm.cell 0 _ rfl
  have y1 := bm.cell 1 _ rfl
  have y2 := bm.cell 2 _ rfl
  have y3 := bm.cell 3 _ rfl
  have y4 := bm.cell 4 _ rfl
  have y5 := bm.cell 5 _ rfl
  have y6 := bm.cell 6 _ rfl
  have y7 := bm.cell 7 _ rfl
  rw [hmi] at y1
  rw [HKD.out] at y0
  clear hx ho bm hb0 hs0 hf hmi hf0 hf1 hB
  go_enter Try.func27, Try.ntmps27
  go_upto_region 3 with fail
  rw [← hw0]
  clear hw0
  go_big_region
  have hbA : Below w0.heap.size w0 w0.drew := below_drewN 1 (Below.refl _ _)
  generalize w0.drew = wA at hbA ⊢
  have HBA : Hid (Below w0.heap.size w0 wA) := hbA
  clear y0 y1 y2 y3 y4 y5 y6 y7
  have bm := HBM.out.below hbA HBM.out.lt
  have y0 := bm.cell 0 _ rfl
  have y1 := bm.cell 1 _ rfl
  have y2 := bm.cell 2 _ rfl
  have y3 := bm.cell 3 _ rfl
  have y4 := bm.cell 4 _ rfl
  have y5 := bm.cell 5 _ rfl
  have y6 := bm.cell 6 _ rfl
  have y7 := bm.cell 7 _ rfl
  rw [HKD.out] at y0
  clear bm hbA
  go_upto_region 30 with fail
  have HLD : Hid (∀ W, Below w0.heap.size w0 W → Calls _ _ _ W _) := fun W hW => leadsNow_any R _ W (HA.out.below hW)
  clear y0 y1 y2 y3 y4 y5 y6 y7
  by_cases hv : M.view = R.kept.view
  · have qv : (M.view != R.kept.view) = false := by simpa using hv
    refine wp_region_free [0, 0, 0, 0, 0, 0, 0, 0, 0, 0, 0, 1, 2, 2] (by kernel_rfl) (by kernel_rfl) (fun h => h) (Below w0.heap.size w0) HBA.out (fun V n hV => below_drewN n hV) ?_
    apply Exists.intro
    refine ⟨?_, ?_⟩
    · intro V hV
      have bx := HX.out.below hV HX.out.lt
      have by' := HBM.out.below hV HBM.out.lt
      have x0 := bx.cell 0 _ rfl
      have x1 := bx.cell 1 _ rfl
      have x2 := bx.cell 2 _ rfl
      have x3 := bx.cell 3 _ rfl
      have x4 := bx.cell 4 _ rfl
      have x5 := bx.cell 5 _ rfl
      have x6 := bx.cell 6 _ rfl
      have x7 := bx.cell 7 _ rfl
      have x8 := bx.cell 8 _ rfl
      have x9 := bx.cell 9 _ rfl
      have y0 := by'.cell 0 _ rfl
      have y1 := by'.cell 1 _ rfl
      have y2 := by'.cell 2 _ rfl
      have y3 := by'.cell 3 _ rfl
      have y4 := by'.cell 4 _ rfl
      have y5 := by'.cell 5 _ rfl
      have y6 := by'.cell 6 _ rfl
      have y7 := by'.cell 7 _ rfl
      simp only [sel, ↓reduceIte, Nat.reduceEqDiff]
      repeat (go_big_quiet_step (fail))
      refine wpQuiet_nil ?_
      rfl
    · intro n
      simp only [sel, ↓reduceIte, Nat.reduceEqDiff]
      refine wpEarly_cons ?_
      go_wp2_with fail
      refine (HLD.out (wA.drewN n) (below_drewN n HBA.out)).mono ?_
      rintro e wx ⟨rfl, hb2⟩
      have hbw : Below w0.heap.size w0 wx := Below.far HBA.out (⟨hb2.os, hb2.tape, hb2.output, hb2.size, hb2.block⟩ : Below wA.heap.size wA wx)
      go_wp2_with fail
      refine wpEarly_next hbw fun m => ?_
      refine wpEarly_nil ?_
      obtain ⟨w2, hw2⟩ : ∃ w2, w2 = wx.drewN m := ⟨_, rfl⟩
      rw [← hw2]
      have hb2' : Below w0.heap.size w0 w2 := by rw [hw2]; exact below_drewN m hbw
      have HB2 : Hid (Below w0.heap.size w0 w2) := hb2'
      clear hw2 hbw hb2 hb2'
      by_cases hl : leads R = true
      · rw [hl]
        have hbx := HX.out.below HB2.out HX.out.lt
        have hby := HBM.out.below HB2.out HBM.out.lt
        have x0 := hbx.cell 0 _ rfl
        have x1 := hbx.cell 1 _ rfl
        have x2 := hbx.cell 2 _ rfl
        have x3 := hbx.cell 3 _ rfl
        have x4 := hbx.cell 4 _ rfl
        have x5 := hbx.cell 5 _ rfl
        have x6 := hbx.cell 6 _ rfl
        have x7 := hbx.cell 7 _ rfl
        have x8 := hbx.cell 8 _ rfl
        have x9 := hbx.cell 9 _ rfl
        have y0 := hby.cell 0 _ rfl
        have y1 := hby.cell 1 _ rfl
        have y2 := hby.cell 2 _ rfl
        have y3 := hby.cell 3 _ rfl
        have y4 := hby.cell 4 _ rfl
        have y5 := hby.cell 5 _ rfl
        have y6 := hby.cell 6 _ rfl
        have y7 := hby.cell 7 _ rfl
        rw [HM2I.out] at y1
        clear hby
        have e1 : RR = ⟨R.me, ⟨R.kept.view, R.kept.normal, R.kept.calm, R.kept.log, max R.kept.commit N⟩, R.hav.set mi (max H N), R.wants, R.gives, R.given⟩ ∧ LL = if R.kept.commit < N then ledBy RR else [] := by
          rw [HRR.out.2, HRR.out.1, HN.out, HH.out]
          unfold hasL hasR
          rw [if_pos ⟨hv, hl⟩, if_pos ⟨hv, hl⟩, HMI.out]
          exact ⟨rfl, rfl⟩
        have HR : Hid (RR = _ ∧ LL = _) := e1
        have HO2 : Hid (ReplOwn w2 B R _ _ _ _ _ _) := HO.out.below HB2.out
        have HX2 : Hid (Box w2 b _ _) := hbx
        have HBS2 : Hid (Beside B b w w2) := Beside.of ((Below.far HB0.out HB2.out).mono HBS.out)
        clear hbx e1 HRR qv hv hl HLD
        go_upto_region 33 with fail
        by_cases hnl : (R.kept.log.length : Int) < M.n
        · have HQ : Hid ((R.kept.log.length : Int) = N) := by unfold Hid; rw [HN.out]; omega
          go_upto_region 35 with fail
          rw [HQ.out]
          obtain ⟨g', ch2, hvh, _, _, hcell, hfz⟩ := own_cell HO2.out.2.2.1 mi (by omega)
          simp only [Value.slice.injEq, true_and, Option.some.injEq, Addr.mk.injEq, and_true] at hvh
          obtain ⟨rfl, rfl⟩ := hvh
          rw [show (R.hav.map encI)[mi]? = some (.int .i64 H) from by rw [HH.out]; simp [encI, List.getD, hml]] at hcell
          by_cases hh : H < N
          · go_big_region
            have hb3 : Below w2.heap.size w2 w2.drew := below_drewN 1 (Below.refl _ _)
            generalize w2.drew = w3 at hb3 ⊢
            have hcell := keep_cell9 hb3 hcell
            have hfz : w3.frozen? ⟨g, mi, none⟩ = false := by
              obtain ⟨g', ch2, hvh, _, _, _, hfz⟩ := own_cell (own_below HO2.out.2.2.1 hb3 (own_lt HO2.out.2.2.1)) mi (by omega)
              simp only [Value.slice.injEq, true_and, Option.some.injEq, Addr.mk.injEq, and_true] at hvh
              obtain ⟨rfl, rfl⟩ := hvh
              exact hfz
            have hbx := HX2.out.below hb3 HX2.out.lt
            have hby := HBM.out.below (Below.far HB2.out hb3) HBM.out.lt
            have HO3 : Hid (ReplOwn w3 B R _ _ _ _ _ _) := HO2.out.below hb3
            have HX3 : Hid (Box w3 b _ _) := hbx
            have HBS3 : Hid (Beside B b w w3) := HBS2.out.far HBS.out hb3
            clear x0 x1 x2 x3 x4 x5 x6 x7 x8 x9 y0 y1 y2 y3 y4 y5 y6 y7 hb3
            have x0 := hbx.cell 0 _ rfl
            have x1 := hbx.cell 1 _ rfl
            have x2 := hbx.cell 2 _ rfl
            have x3 := hbx.cell 3 _ rfl
            have x4 := hbx.cell 4 _ rfl
            have x5 := hbx.cell 5 _ rfl
            have x6 := hbx.cell 6 _ rfl
            have x7 := hbx.cell 7 _ rfl
            have x8 := hbx.cell 8 _ rfl
            have x9 := hbx.cell 9 _ rfl
            have y0 := hby.cell 0 _ rfl
            have y1 := hby.cell 1 _ rfl
            have y2 := hby.cell 2 _ rfl
            have y3 := hby.cell 3 _ rfl
            have y4 := hby.cell 4 _ rfl
            have y5 := hby.cell 5 _ rfl
            have y6 := hby.cell 6 _ rfl
            have y7 := hby.cell 7 _ rfl
            rw [HM2I.out] at y1
            clear hbx hby
            go_upto_region 36 with fail
            refine wp_region_two [0, 0, 0, 0, 0, 0, 0, 0, 1] (by kernel_rfl) (by kernel_rfl) ?_
            simp only [sel, ↓reduceIte, Nat.reduceEqDiff]
            repeat (go_big_quiet_step (fail))
            refine wpQuiet_nil ?_
            intro w9 hw9
            obtain ⟨nq, rfl⟩ := hw9
            go_upto_region 37 with fail
            have HO4 : Hid (ReplOwn ((w3.drewN nq).setCell ⟨g, mi, none⟩ (.int .i64 N)) B ⟨R.me, R.kept, R.hav.set mi (max H N), R.wants, R.gives, R.given⟩ (.slice al R.kept.log.length cl) (.slice (some ⟨g, 0, none⟩) R.hav.length ch) (.slice aw R.wants.length cw) (.slice ag R.gives.length cg) (.slice an R.given.length cn) ps) := by
              rw [show max H N = N by omega]
              exact (HO3.out.below (below_drewN nq (Below.refl _ _))).havs mi N
            have HX4 : Hid (Box ((w3.drewN nq).setCell ⟨g, mi, none⟩ (.int .i64 N)) b 29 [.int .i64 R.me, .int .i64 R.kept.view, .int .i64 R.kept.normal, .bool R.kept.calm, .slice al R.kept.log.length cl, .int .i64 R.kept.commit, .slice (some ⟨g, 0, none⟩) R.hav.length ch, .slice aw R.wants.length cw, .slice ag R.gives.length cg, .slice an R.given.length cn]) := (HX3.out.drewN nq).row (own_drewN nq HO3.out.2.2.1) rfl (by decide) (.int .i64 N) (i := mi)
            have HBS4 : Hid (Beside B b w ((w3.drewN nq).setCell ⟨g, mi, none⟩ (.int .i64 N))) := (HBS3.out.far HBS.out (below_drewN nq (Below.refl _ _))).setCell (a := ⟨g, mi, none⟩) (Or.inr hgB) _
            generalize World.setCell (w3.drewN nq) _ _ = w4 at HO4 HX4 HBS4 ⊢
            clear x0 x1 x2 x3 x4 x5 x6 x7 x8 x9 y0 y1 y2 y3 y4 y5 y6 y7 hcell hfz hh
            have hbx := HX4.out
            have x0 := hbx.cell 0 _ rfl
            have x1 := hbx.cell 1 _ rfl
            have x2 := hbx.cell 2 _ rfl
            have x3 := hbx.cell 3 _ rfl
            have x4 := hbx.cell 4 _ rfl
            have x5 := hbx.cell 5 _ rfl
            have x6 := hbx.cell 6 _ rfl
            have x7 := hbx.cell 7 _ rfl
            have x8 := hbx.cell 8 _ rfl
            have x9 := hbx.cell 9 _ rfl
            have f5 := hbx.frozen 5
            have hz5 := HBS4.out.up HBS.out
            have HZ5 : Hid (B ≤ w4.heap.size) := hz5
            clear hz5
            by_cases hc : R.kept.commit < N
            · have HL5 : Hid (LL = ledBy RR) := by unfold Hid; rw [HR.out.2, if_pos hc]
              have HX5 : Hid (Box (w4.setCell ⟨b, 5, none⟩ (.int .i64 N)) b 29 [.int .i64 R.me, .int .i64 R.kept.view, .int .i64 R.kept.normal, .bool R.kept.calm, .slice al R.kept.log.length cl, .int .i64 N, .slice (some ⟨g, 0, none⟩) R.hav.length ch, .slice aw R.wants.length cw, .slice ag R.gives.length cg, .slice an R.given.length cn]) := hbx.set 5 (.int .i64 N)
              have HO5 : Hid (ReplOwn (w4.setCell ⟨b, 5, none⟩ (.int .i64 N)) B RR (.slice al R.kept.log.length cl) (.slice (some ⟨g, 0, none⟩) R.hav.length ch) (.slice aw R.wants.length cw) (.slice ag R.gives.length cg) (.slice an R.given.length cn) ps) := by
                rw [HR.out.1, show max R.kept.commit N = N by omega]
                exact HO4.out.type hbx (by decide) (by decide) (by decide) (by decide) 5 (.int .i64 N)
              have HBS5 : Hid (Beside B b w (w4.setCell ⟨b, 5, none⟩ (.int .i64 N))) := HBS4.out.setCell (a := ⟨b, 5, none⟩) (Or.inl rfl) _
              have HF5 : Hid (ReplFits RR) := by unfold Hid; rw [HRF.out]; exact hasR_fits HFT.out M
              have HC5 : Hid (RR.kept.log.length = R.kept.log.length ∧ RR.me = R.me ∧ RR.kept.view = R.kept.view ∧ RR.kept.normal = R.kept.normal ∧ RR.kept.calm = R.kept.calm ∧ RR.kept.commit = N ∧ RR.hav.length = R.hav.length ∧ RR.wants = R.wants ∧ RR.gives = R.gives ∧ RR.given = R.given) := by
                rw [HR.out.1]; exact ⟨rfl, rfl, rfl, rfl, rfl, by show max R.kept.commit N = N; omega, by simp, rfl, rfl, rfl⟩
              go_upto_region 39 with fail
              generalize World.setCell w4 _ _ = w5 at HX5 HO5 HBS5 ⊢
              clear x0 x1 x2 x3 x4 x5 x6 x7 x8 x9 f5 hbx hc HO4 HX4 HBS4
              have hbx := HX5.out
              have x0 := hbx.cell 0 _ rfl
              have x1 := hbx.cell 1 _ rfl
              have x2 := hbx.cell 2 _ rfl
              have x3 := hbx.cell 3 _ rfl
              have x4 := hbx.cell 4 _ rfl
              have x5 := hbx.cell 5 _ rfl
              have x6 := hbx.cell 6 _ rfl
              have x7 := hbx.cell 7 _ rfl
              have x8 := hbx.cell 8 _ rfl
              have x9 := hbx.cell 9 _ rfl
              clear hbx
              have HA5 : Hid (ReplAt w5 (.agg #[.int .i64 R.me, .int .i64 R.kept.view, .int .i64 R.kept.normal, .bool R.kept.calm, .slice al R.kept.log.length cl, .int .i64 N, .slice (some ⟨g, 0, none⟩) R.hav.length ch, .slice aw R.wants.length cw, .slice ag R.gives.length cg, .slice an R.given.length cn]) RR) := by
                have := HO5.out.at HF5.out
                obtain ⟨q1, q2, q3, q4, q5, q6, q7, q8, q9, q10⟩ := HC5.out
                simp only [replCells, q2, q3, q4, q5, q6] at this
                exact this
              have HH5 : Hid (HeldAt w5 b B RR) := by
                obtain ⟨q1, q2, q3, q4, q5, q6, q7, q8, q9, q10⟩ := HC5.out
                refine ⟨_, _, _, _, _, _, ?_, HO5.out⟩
                rw [q2, q3, q4, q5, q6]
                exact HX5.out
              go_wp2_with fail
              refine (ledByOf_any RR _ w5 HA5.out HF5.out).mono ?_
              rintro e w7 ⟨v7, rfl, hm7, hb7⟩
              obtain ⟨a7, c7, rfl⟩ := hm7.form
              have HE : Hid (GoesTo b B RR LL w (.returned (.slice a7 (ledBy RR).length c7)) w7) := by
                refine ⟨_, rfl, HH5.out.below hb7, ?_, HBS5.out.far HBS.out hb7⟩
                rw [HL5.out]; exact hm7.base HBS5.out.size
              clear hm7 hb7 x0 x1 x2 x3 x4 x5 x6 x7 x8 x9
              go_wp2_with fail
              go_ret
              exact HE.out
            · have HE : Hid (GoesTo b B RR LL w (.returned (.slice none 0 0)) w4) := by
                refine ⟨_, rfl, ?_, ?_, HBS4.out⟩
                · rw [HR.out.1, show max R.kept.commit N = R.kept.commit by omega]
                  exact ⟨_, _, _, _, _, _, hbx, HO4.out⟩
                · rw [HR.out.2, if_neg hc]; exact msgsNil _ _
              clear hbx
              go_wp2_with fail
              go_ret
              exact HE.out
          · go_big_region
            have hb3 : Below w2.heap.size w2 w2.drew := below_drewN 1 (Below.refl _ _)
            generalize w2.drew = w4 at hb3 ⊢
            have HO4 : Hid (ReplOwn w4 B ⟨R.me, R.kept, R.hav.set mi (max H N), R.wants, R.gives, R.given⟩ (.slice al R.kept.log.length cl) (.slice (some ⟨g, 0, none⟩) R.hav.length ch) (.slice aw R.wants.length cw) (.slice ag R.gives.length cg) (.slice an R.given.length cn) ps) := by
              have e : R.hav.set mi (max H N) = R.hav := by
                rw [show max H N = H by omega, HH.out]
                have : R.hav.getD mi 0 = R.hav[mi] := by simp [List.getD, hml]
                rw [this, List.set_getElem_self]
              rw [e]
              exact HO2.out.below hb3
            have HX4 : Hid (Box w4 b 29 [.int .i64 R.me, .int .i64 R.kept.view, .int .i64 R.kept.normal, .bool R.kept.calm, .slice al R.kept.log.length cl, .int .i64 R.kept.commit, .slice (some ⟨g, 0, none⟩) R.hav.length ch, .slice aw R.wants.length cw, .slice ag R.gives.length cg, .slice an R.given.length cn]) := HX2.out.below hb3 HX2.out.lt
            have HBS4 : Hid (Beside B b w w4) := HBS2.out.far HBS.out hb3
            clear x0 x1 x2 x3 x4 x5 x6 x7 x8 x9 y0 y1 y2 y3 y4 y5 y6 y7 hcell hfz hh hb3
            have hbx := HX4.out
            have x0 := hbx.cell 0 _ rfl
            have x1 := hbx.cell 1 _ rfl
            have x2 := hbx.cell 2 _ rfl
            have x3 := hbx.cell 3 _ rfl
            have x4 := hbx.cell 4 _ rfl
            have x5 := hbx.cell 5 _ rfl
            have x6 := hbx.cell 6 _ rfl
            have x7 := hbx.cell 7 _ rfl
            have x8 := hbx.cell 8 _ rfl
            have x9 := hbx.cell 9 _ rfl
            have f5 := hbx.frozen 5
            have hz5 := HBS4.out.up HBS.out
            have HZ5 : Hid (B ≤ w4.heap.size) := hz5
            clear hz5
            by_cases hc : R.kept.commit < N
            · have HL5 : Hid (LL = ledBy RR) := by unfold Hid; rw [HR.out.2, if_pos hc]
              have HX5 : Hid (Box (w4.setCell ⟨b, 5, none⟩ (.int .i64 N)) b 29 [.int .i64 R.me, .int .i64 R.kept.view, .int .i64 R.kept.normal, .bool R.kept.calm, .slice al R.kept.log.length cl, .int .i64 N, .slice (some ⟨g, 0, none⟩) R.hav.length ch, .slice aw R.wants.length cw, .slice ag R.gives.length cg, .slice an R.given.length cn]) := hbx.set 5 (.int .i64 N)
              have HO5 : Hid (ReplOwn (w4.setCell ⟨b, 5, none⟩ (.int .i64 N)) B RR (.slice al R.kept.log.length cl) (.slice (some ⟨g, 0, none⟩) R.hav.length ch) (.slice aw R.wants.length cw) (.slice ag R.gives.length cg) (.slice an R.given.length cn) ps) := by
                rw [HR.out.1, show max R.kept.commit N = N by omega]
                exact HO4.out.type hbx (by decide) (by decide) (by decide) (by decide) 5 (.int .i64 N)
              have HBS5 : Hid (Beside B b w (w4.setCell ⟨b, 5, none⟩ (.int .i64 N))) := HBS4.out.setCell (a := ⟨b, 5, none⟩) (Or.inl rfl) _
              have HF5 : Hid (ReplFits RR) := by unfold Hid; rw [HRF.out]; exact hasR_fits HFT.out M
              have HC5 : Hid (RR.kept.log.length = R.kept.log.length ∧ RR.me = R.me ∧ RR.kept.view = R.kept.view ∧ RR.kept.normal = R.kept.normal ∧ RR.kept.calm = R.kept.calm ∧ RR.kept.commit = N ∧ RR.hav.length = R.hav.length ∧ RR.wants = R.wants ∧ RR.gives = R.gives ∧ RR.given = R.given) := by
                rw [HR.out.1]; exact ⟨rfl, rfl, rfl, rfl, rfl, by show max R.kept.commit N = N; omega, by simp, rfl, rfl, rfl⟩
              go_upto_region 39 with fail
              generalize World.setCell w4 _ _ = w5 at HX5 HO5 HBS5 ⊢
              clear x0 x1 x2 x3 x4 x5 x6 x7 x8 x9 f5 hbx hc HO4 HX4 HBS4
              have hbx := HX5.out
              have x0 := hbx.cell 0 _ rfl
              have x1 := hbx.cell 1 _ rfl
              have x2 := hbx.cell 2 _ rfl
              have x3 := hbx.cell 3 _ rfl
              have x4 := hbx.cell 4 _ rfl
              have x5 := hbx.cell 5 _ rfl
              have x6 := hbx.cell 6 _ rfl
              have x7 := hbx.cell 7 _ rfl
              have x8 := hbx.cell 8 _ rfl
              have x9 := hbx.cell 9 _ rfl
              clear hbx
              have HA5 : Hid (ReplAt w5 (.agg #[.int .i64 R.me, .int .i64 R.kept.view, .int .i64 R.kept.normal, .bool R.kept.calm, .slice al R.kept.log.length cl, .int .i64 N, .slice (some ⟨g, 0, none⟩) R.hav.length ch, .slice aw R.wants.length cw, .slice ag R.gives.length cg, .slice an R.given.length cn]) RR) := by
                have := HO5.out.at HF5.out
                obtain ⟨q1, q2, q3, q4, q5, q6, q7, q8, q9, q10⟩ := HC5.out
                simp only [replCells, q2, q3, q4, q5, q6] at this
                exact this
              have HH5 : Hid (HeldAt w5 b B RR) := by
                obtain ⟨q1, q2, q3, q4, q5, q6, q7, q8, q9, q10⟩ := HC5.out
                refine ⟨_, _, _, _, _, _, ?_, HO5.out⟩
                rw [q2, q3, q4, q5, q6]
                exact HX5.out
              go_wp2_with fail
              refine (ledByOf_any RR _ w5 HA5.out HF5.out).mono ?_
              rintro e w7 ⟨v7, rfl, hm7, hb7⟩
              obtain ⟨a7, c7, rfl⟩ := hm7.form
              have HE : Hid (GoesTo b B RR LL w (.returned (.slice a7 (ledBy RR).length c7)) w7) := by
                refine ⟨_, rfl, HH5.out.below hb7, ?_, HBS5.out.far HBS.out hb7⟩
                rw [HL5.out]; exact hm7.base HBS5.out.size
              clear hm7 hb7 x0 x1 x2 x3 x4 x5 x6 x7 x8 x9
              go_wp2_with fail
              go_ret
              exact HE.out
            · have HE : Hid (GoesTo b B RR LL w (.returned (.slice none 0 0)) w4) := by
                refine ⟨_, rfl, ?_, ?_, HBS4.out⟩
                · rw [HR.out.1, show max R.kept.commit N = R.kept.commit by omega]
                  exact ⟨_, _, _, _, _, _, hbx, HO4.out⟩
                · rw [HR.out.2, if_neg hc]; exact msgsNil _ _
              clear hbx
              go_wp2_with fail
              go_ret
              exact HE.out
        · have HQ : Hid (M.n = N) := by unfold Hid; rw [HN.out]; omega
          go_upto_region 35 with fail
          rw [HQ.out]
          obtain ⟨g', ch2, hvh, _, _, hcell, hfz⟩ := own_cell HO2.out.2.2.1 mi (by omega)
          simp only [Value.slice.injEq, true_and, Option.some.injEq, Addr.mk.injEq, and_true] at hvh
          obtain ⟨rfl, rfl⟩ := hvh
          rw [show (R.hav.map encI)[mi]? = some (.int .i64 H) from by rw [HH.out]; simp [encI, List.getD, hml]] at hcell
          by_cases hh : H < N
          · go_big_region
            have hb3 : Below w2.heap.size w2 w2.drew := below_drewN 1 (Below.refl _ _)
            generalize w2.drew = w3 at hb3 ⊢
            have hcell := keep_cell9 hb3 hcell
            have hfz : w3.frozen? ⟨g, mi, none⟩ = false := by
              obtain ⟨g', ch2, hvh, _, _, _, hfz⟩ := own_cell (own_below HO2.out.2.2.1 hb3 (own_lt HO2.out.2.2.1)) mi (by omega)
              simp only [Value.slice.injEq, true_and, Option.some.injEq, Addr.mk.injEq, and_true] at hvh
              obtain ⟨rfl, rfl⟩ := hvh
              exact hfz
            have hbx := HX2.out.below hb3 HX2.out.lt
            have hby := HBM.out.below (Below.far HB2.out hb3) HBM.out.lt
            have HO3 : Hid (ReplOwn w3 B R _ _ _ _ _ _) := HO2.out.below hb3
            have HX3 : Hid (Box w3 b _ _) := hbx
            have HBS3 : Hid (Beside B b w w3) := HBS2.out.far HBS.out hb3
            clear x0 x1 x2 x3 x4 x5 x6 x7 x8 x9 y0 y1 y2 y3 y4 y5 y6 y7 hb3
            have x0 := hbx.cell 0 _ rfl
            have x1 := hbx.cell 1 _ rfl
            have x2 := hbx.cell 2 _ rfl
            have x3 := hbx.cell 3 _ rfl
            have x4 := hbx.cell 4 _ rfl
            have x5 := hbx.cell 5 _ rfl
            have x6 := hbx.cell 6 _ rfl
            have x7 := hbx.cell 7 _ rfl
            have x8 := hbx.cell 8 _ rfl
            have x9 := hbx.cell 9 _ rfl
            have y0 := hby.cell 0 _ rfl
            have y1 := hby.cell 1 _ rfl
            have y2 := hby.cell 2 _ rfl
            have y3 := hby.cell 3 _ rfl
            have y4 := hby.cell 4 _ rfl
            have y5 := hby.cell 5 _ rfl
            have y6 := hby.cell 6 _ rfl
            have y7 := hby.cell 7 _ rfl
            rw [HM2I.out] at y1
            clear hbx hby
            go_upto_region 36 with fail
            refine wp_region_two [0, 0, 0, 0, 0, 0, 0, 0, 1] (by kernel_rfl) (by kernel_rfl) ?_
            simp only [sel, ↓reduceIte, Nat.reduceEqDiff]
            repeat (go_big_quiet_step (fail))
            refine wpQuiet_nil ?_
            intro w9 hw9
            obtain ⟨nq, rfl⟩ := hw9
            go_upto_region 37 with fail
            have HO4 : Hid (ReplOwn ((w3.drewN nq).setCell ⟨g, mi, none⟩ (.int .i64 N)) B ⟨R.me, R.kept, R.hav.set mi (max H N), R.wants, R.gives, R.given⟩ (.slice al R.kept.log.length cl) (.slice (some ⟨g, 0, none⟩) R.hav.length ch) (.slice aw R.wants.length cw) (.slice ag R.gives.length cg) (.slice an R.given.length cn) ps) := by
              rw [show max H N = N by omega]
              exact (HO3.out.below (below_drewN nq (Below.refl _ _))).havs mi N
            have HX4 : Hid (Box ((w3.drewN nq).setCell ⟨g, mi, none⟩ (.int .i64 N)) b 29 [.int .i64 R.me, .int .i64 R.kept.view, .int .i64 R.kept.normal, .bool R.kept.calm, .slice al R.kept.log.length cl, .int .i64 R.kept.commit, .slice (some ⟨g, 0, none⟩) R.hav.length ch, .slice aw R.wants.length cw, .slice ag R.gives.length cg, .slice an R.given.length cn]) := (HX3.out.drewN nq).row (own_drewN nq HO3.out.2.2.1) rfl (by decide) (.int .i64 N) (i := mi)
            have HBS4 : Hid (Beside B b w ((w3.drewN nq).setCell ⟨g, mi, none⟩ (.int .i64 N))) := (HBS3.out.far HBS.out (below_drewN nq (Below.refl _ _))).setCell (a := ⟨g, mi, none⟩) (Or.inr hgB) _
            generalize World.setCell (w3.drewN nq) _ _ = w4 at HO4 HX4 HBS4 ⊢
            clear x0 x1 x2 x3 x4 x5 x6 x7 x8 x9 y0 y1 y2 y3 y4 y5 y6 y7 hcell hfz hh
            have hbx := HX4.out
            have x0 := hbx.cell 0 _ rfl
            have x1 := hbx.cell 1 _ rfl
            have x2 := hbx.cell 2 _ rfl
            have x3 := hbx.cell 3 _ rfl
            have x4 := hbx.cell 4 _ rfl
            have x5 := hbx.cell 5 _ rfl
            have x6 := hbx.cell 6 _ rfl
            have x7 := hbx.cell 7 _ rfl
            have x8 := hbx.cell 8 _ rfl
            have x9 := hbx.cell 9 _ rfl
            have f5 := hbx.frozen 5
            have hz5 := HBS4.out.up HBS.out
            have HZ5 : Hid (B ≤ w4.heap.size) := hz5
            clear hz5
            by_cases hc : R.kept.commit < N
            · have HL5 : Hid (LL = ledBy RR) := by unfold Hid; rw [HR.out.2, if_pos hc]
              have HX5 : Hid (Box (w4.setCell ⟨b, 5, none⟩ (.int .i64 N)) b 29 [.int .i64 R.me, .int .i64 R.kept.view, .int .i64 R.kept.normal, .bool R.kept.calm, .slice al R.kept.log.length cl, .int .i64 N, .slice (some ⟨g, 0, none⟩) R.hav.length ch, .slice aw R.wants.length cw, .slice ag R.gives.length cg, .slice an R.given.length cn]) := hbx.set 5 (.int .i64 N)
              have HO5 : Hid (ReplOwn (w4.setCell ⟨b, 5, none⟩ (.int .i64 N)) B RR (.slice al R.kept.log.length cl) (.slice (some ⟨g, 0, none⟩) R.hav.length ch) (.slice aw R.wants.length cw) (.slice ag R.gives.length cg) (.slice an R.given.length cn) ps) := by
                rw [HR.out.1, show max R.kept.commit N = N by omega]
                exact HO4.out.type hbx (by decide) (by decide) (by decide) (by decide) 5 (.int .i64 N)
              have HBS5 : Hid (Beside B b w (w4.setCell ⟨b, 5, none⟩ (.int .i64 N))) := HBS4.out.setCell (a := ⟨b, 5, none⟩) (Or.inl rfl) _
              have HF5 : Hid (ReplFits RR) := by unfold Hid; rw [HRF.out]; exact hasR_fits HFT.out M
              have HC5 : Hid (RR.kept.log.length = R.kept.log.length ∧ RR.me = R.me ∧ RR.kept.view = R.kept.view ∧ RR.kept.normal = R.kept.normal ∧ RR.kept.calm = R.kept.calm ∧ RR.kept.commit = N ∧ RR.hav.length = R.hav.length ∧ RR.wants = R.wants ∧ RR.gives = R.gives ∧ RR.given = R.given) := by
                rw [HR.out.1]; exact ⟨rfl, rfl, rfl, rfl, rfl, by show max R.kept.commit N = N; omega, by simp, rfl, rfl, rfl⟩
              go_upto_region 39 with fail
              generalize World.setCell w4 _ _ = w5 at HX5 HO5 HBS5 ⊢
              clear x0 x1 x2 x3 x4 x5 x6 x7 x8 x9 f5 hbx hc HO4 HX4 HBS4
              have hbx := HX5.out
              have x0 := hbx.cell 0 _ rfl
              have x1 := hbx.cell 1 _ rfl
              have x2 := hbx.cell 2 _ rfl
              have x3 := hbx.cell 3 _ rfl
              have x4 := hbx.cell 4 _ rfl
              have x5 := hbx.cell 5 _ rfl
              have x6 := hbx.cell 6 _ rfl
              have x7 := hbx.cell 7 _ rfl
              have x8 := hbx.cell 8 _ rfl
              have x9 := hbx.cell 9 _ rfl
              clear hbx
              have HA5 : Hid (ReplAt w5 (.agg #[.int .i64 R.me, .int .i64 R.kept.view, .int .i64 R.kept.normal, .bool R.kept.calm, .slice al R.kept.log.length cl, .int .i64 N, .slice (some ⟨g, 0, none⟩) R.hav.length ch, .slice aw R.wants.length cw, .slice ag R.gives.length cg, .slice an R.given.length cn]) RR) := by
                have := HO5.out.at HF5.out
                obtain ⟨q1, q2, q3, q4, q5, q6, q7, q8, q9, q10⟩ := HC5.out
                simp only [replCells, q2, q3, q4, q5, q6] at this
                exact this
              have HH5 : Hid (HeldAt w5 b B RR) := by
                obtain ⟨q1, q2, q3, q4, q5, q6, q7, q8, q9, q10⟩ := HC5.out
                refine ⟨_, _, _, _, _, _, ?_, HO5.out⟩
                rw [q2, q3, q4, q5, q6]
                exact HX5.out
              go_wp2_with fail
              refine (ledByOf_any RR _ w5 HA5.out HF5.out).mono ?_
              rintro e w7 ⟨v7, rfl, hm7, hb7⟩
              obtain ⟨a7, c7, rfl⟩ := hm7.form
              have HE : Hid (GoesTo b B RR LL w (.returned (.slice a7 (ledBy RR).length c7)) w7) := by
                refine ⟨_, rfl, HH5.out.below hb7, ?_, HBS5.out.far HBS.out hb7⟩
                rw [HL5.out]; exact hm7.base HBS5.out.size
              clear hm7 hb7 x0 x1 x2 x3 x4 x5 x6 x7 x8 x9
              go_wp2_with fail
              go_ret
              exact HE.out
            · have HE : Hid (GoesTo b B RR LL w (.returned (.slice none 0 0)) w4) := by
                refine ⟨_, rfl, ?_, ?_, HBS4.out⟩
                · rw [HR.out.1, show max R.kept.commit N = R.kept.commit by omega]
                  exact ⟨_, _, _, _, _, _, hbx, HO4.out⟩
                · rw [HR.out.2, if_neg hc]; exact msgsNil _ _
              clear hbx
              go_wp2_with fail
              go_ret
              exact HE.out
          · go_big_region
            have hb3 : Below w2.heap.size w2 w2.drew := below_drewN 1 (Below.refl _ _)
            generalize w2.drew = w4 at hb3 ⊢
            have HO4 : Hid (ReplOwn w4 B ⟨R.me, R.kept, R.hav.set mi (max H N), R.wants, R.gives, R.given⟩ (.slice al R.kept.log.length cl) (.slice (some ⟨g, 0, none⟩) R.hav.length ch) (.slice aw R.wants.length cw) (.slice ag R.gives.length cg) (.slice an R.given.length cn) ps) := by
              have e : R.hav.set mi (max H N) = R.hav := by
                rw [show max H N = H by omega, HH.out]
                have : R.hav.getD mi 0 = R.hav[mi] := by simp [List.getD, hml]
                rw [this, List.set_getElem_self]
              rw [e]
              exact HO2.out.below hb3
            have HX4 : Hid (Box w4 b 29 [.int .i64 R.me, .int .i64 R.kept.view, .int .i64 R.kept.normal, .bool R.kept.calm, .slice al R.kept.log.length cl, .int .i64 R.kept.commit, .slice (some ⟨g, 0, none⟩) R.hav.length ch, .slice aw R.wants.length cw, .slice ag R.gives.length cg, .slice an R.given.length cn]) := HX2.out.below hb3 HX2.out.lt
            have HBS4 : Hid (Beside B b w w4) := HBS2.out.far HBS.out hb3
            clear x0 x1 x2 x3 x4 x5 x6 x7 x8 x9 y0 y1 y2 y3 y4 y5 y6 y7 hcell hfz hh hb3
            have hbx := HX4.out
            have x0 := hbx.cell 0 _ rfl
            have x1 := hbx.cell 1 _ rfl
            have x2 := hbx.cell 2 _ rfl
            have x3 := hbx.cell 3 _ rfl
            have x4 := hbx.cell 4 _ rfl
            have x5 := hbx.cell 5 _ rfl
            have x6 := hbx.cell 6 _ rfl
            have x7 := hbx.cell 7 _ rfl
            have x8 := hbx.cell 8 _ rfl
            have x9 := hbx.cell 9 _ rfl
            have f5 := hbx.frozen 5
            have hz5 := HBS4.out.up HBS.out
            have HZ5 : Hid (B ≤ w4.heap.size) := hz5
            clear hz5
            by_cases hc : R.kept.commit < N
            · have HL5 : Hid (LL = ledBy RR) := by unfold Hid; rw [HR.out.2, if_pos hc]
              have HX5 : Hid (Box (w4.setCell ⟨b, 5, none⟩ (.int .i64 N)) b 29 [.int .i64 R.me, .int .i64 R.kept.view, .int .i64 R.kept.normal, .bool R.kept.calm, .slice al R.kept.log.length cl, .int .i64 N, .slice (some ⟨g, 0, none⟩) R.hav.length ch, .slice aw R.wants.length cw, .slice ag R.gives.length cg, .slice an R.given.length cn]) := hbx.set 5 (.int .i64 N)
              have HO5 : Hid (ReplOwn (w4.setCell ⟨b, 5, none⟩ (.int .i64 N)) B RR (.slice al R.kept.log.length cl) (.slice (some ⟨g, 0, none⟩) R.hav.length ch) (.slice aw R.wants.length cw) (.slice ag R.gives.length cg) (.slice an R.given.length cn) ps) := by
                rw [HR.out.1, show max R.kept.commit N = N by omega]
                exact HO4.out.type hbx (by decide) (by decide) (by decide) (by decide) 5 (.int .i64 N)
              have HBS5 : Hid (Beside B b w (w4.setCell ⟨b, 5, none⟩ (.int .i64 N))) := HBS4.out.setCell (a := ⟨b, 5, none⟩) (Or.inl rfl) _
              have HF5 : Hid (ReplFits RR) := by unfold Hid; rw [HRF.out]; exact hasR_fits HFT.out M
              have HC5 : Hid (RR.kept.log.length = R.kept.log.length ∧ RR.me = R.me ∧ RR.kept.view = R.kept.view ∧ RR.kept.normal = R.kept.normal ∧ RR.kept.calm = R.kept.calm ∧ RR.kept.commit = N ∧ RR.hav.length = R.hav.length ∧ RR.wants = R.wants ∧ RR.gives = R.gives ∧ RR.given = R.given) := by
                rw [HR.out.1]; exact ⟨rfl, rfl, rfl, rfl, rfl, by show max R.kept.commit N = N; omega, by simp, rfl, rfl, rfl⟩
              go_upto_region 39 with fail
              generalize World.setCell w4 _ _ = w5 at HX5 HO5 HBS5 ⊢
              clear x0 x1 x2 x3 x4 x5 x6 x7 x8 x9 f5 hbx hc HO4 HX4 HBS4
              have hbx := HX5.out
              have x0 := hbx.cell 0 _ rfl
              have x1 := hbx.cell 1 _ rfl
              have x2 := hbx.cell 2 _ rfl
              have x3 := hbx.cell 3 _ rfl
              have x4 := hbx.cell 4 _ rfl
              have x5 := hbx.cell 5 _ rfl
              have x6 := hbx.cell 6 _ rfl
              have x7 := hbx.cell 7 _ rfl
              have x8 := hbx.cell 8 _ rfl
              have x9 := hbx.cell 9 _ rfl
              clear hbx
              have HA5 : Hid (ReplAt w5 (.agg #[.int .i64 R.me, .int .i64 R.kept.view, .int .i64 R.kept.normal, .bool R.kept.calm, .slice al R.kept.log.length cl, .int .i64 N, .slice (some ⟨g, 0, none⟩) R.hav.length ch, .slice aw R.wants.length cw, .slice ag R.gives.length cg, .slice an R.given.length cn]) RR) := by
                have := HO5.out.at HF5.out
                obtain ⟨q1, q2, q3, q4, q5, q6, q7, q8, q9, q10⟩ := HC5.out
                simp only [replCells, q2, q3, q4, q5, q6] at this
                exact this
              have HH5 : Hid (HeldAt w5 b B RR) := by
                obtain ⟨q1, q2, q3, q4, q5, q6, q7, q8, q9, q10⟩ := HC5.out
                refine ⟨_, _, _, _, _, _, ?_, HO5.out⟩
                rw [q2, q3, q4, q5, q6]
                exact HX5.out
              go_wp2_with fail
              refine (ledByOf_any RR _ w5 HA5.out HF5.out).mono ?_
              rintro e w7 ⟨v7, rfl, hm7, hb7⟩
              obtain ⟨a7, c7, rfl⟩ := hm7.form
              have HE : Hid (GoesTo b B RR LL w (.returned (.slice a7 (ledBy RR).length c7)) w7) := by
                refine ⟨_, rfl, HH5.out.below hb7, ?_, HBS5.out.far HBS.out hb7⟩
                rw [HL5.out]; exact hm7.base HBS5.out.size
              clear hm7 hb7 x0 x1 x2 x3 x4 x5 x6 x7 x8 x9
              go_wp2_with fail
              go_ret
              exact HE.out
            · have HE : Hid (GoesTo b B RR LL w (.returned (.slice none 0 0)) w4) := by
                refine ⟨_, rfl, ?_, ?_, HBS4.out⟩
                · rw [HR.out.1, show max R.kept.commit N = R.kept.commit by omega]
                  exact ⟨_, _, _, _, _, _, hbx, HO4.out⟩
                · rw [HR.out.2, if_neg hc]; exact msgsNil _ _
              clear hbx
              go_wp2_with fail
              go_ret
              exact HE.out
      · have hl' : leads R = false := by simpa using hl
        rw [hl']
        have HE : Hid (GoesTo b B RR LL w (.returned (.slice none 0 0)) w2) := by
          have hb : Below w.heap.size w w2 := Below.far HB0.out HB2.out
          have e1 : RR = R ∧ LL = [] := by
            rw [HRR.out.2, HRR.out.1]; unfold hasL hasR
            rw [if_neg (fun h => hl h.2), if_neg (fun h => hl h.2)]
            exact ⟨rfl, rfl⟩
          rw [e1.1, e1.2]
          exact ⟨_, rfl, HT.out.below hb, msgsNil _ _, Beside.of (hb.mono HBS.out)⟩
        clear hl hl' qv hv
        go_wp2_with fail
        go_ret
        exact HE.out
  · have qv : (M.view != R.kept.view) = true := by simpa using hv
    have HE : Hid (∀ W, Below w0.heap.size w0 W → GoesTo b B RR LL w (.returned (.slice none 0 0)) W) := fun W hW => by
      have hb : Below w.heap.size w W := Below.far HB0.out hW
      have e1 : RR = R ∧ LL = [] := by
        rw [HRR.out.2, HRR.out.1]; unfold hasL hasR
        rw [if_neg (fun h => hv h.1), if_neg (fun h => hv h.1)]
        exact ⟨rfl, rfl⟩
      rw [e1.1, e1.2]
      exact ⟨_, rfl, HT.out.below hb, msgsNil _ _, Beside.of (hb.mono HBS.out)⟩
    have bx := HX.out.below HBA.out HX.out.lt
    have by' := HBM.out.below HBA.out HBM.out.lt
    have x0 := bx.cell 0 _ rfl
    have x1 := bx.cell 1 _ rfl
    have x2 := bx.cell 2 _ rfl
    have x3 := bx.cell 3 _ rfl
    have x4 := bx.cell 4 _ rfl
    have x5 := bx.cell 5 _ rfl
    have x6 := bx.cell 6 _ rfl
    have x7 := bx.cell 7 _ rfl
    have x8 := bx.cell 8 _ rfl
    have x9 := bx.cell 9 _ rfl
    have y0 := by'.cell 0 _ rfl
    have y1 := by'.cell 1 _ rfl
    have y2 := by'.cell 2 _ rfl
    have y3 := by'.cell 3 _ rfl
    have y4 := by'.cell 4 _ rfl
    have y5 := by'.cell 5 _ rfl
    have y6 := by'.cell 6 _ rfl
    have y7 := by'.cell 7 _ rfl
    clear bx by' hv
    go_big_region
    go_wp2_with fail
    go_ret
    exact HE.out _ (below_drewN 1 HBA.out)

end Go.Proofs.Ytmdgkjbiicaljag
