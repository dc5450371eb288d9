/- The document's heard, at a Lead: of its view, where it is not calm. -/
import Derived.Test.YtmdgkjbiicaljagHeardLeadA
namespace Go.Proofs.Ytmdgkjbiicaljag
open Go.RowKit
set_option linter.unusedVariables false
set_option linter.unusedSimpArgs false

set_option maxRecDepth 4000 in
set_option maxHeartbeats 32000000 in
theorem heardLeadB_any (b B : Nat) (R : ReplM) (M : MsgM) (u : Value) (w : World) (h : HeldAt w b B R) (hm : MsgAt w u M) (hk : M.kind = 1) (hf : ReplFits R) (hmf : TextsIn M.log) (hB : B ≤ w.heap.size) (hv : ¬ R.kept.view < M.view) (hc' : R.kept.calm = false) :
    Calls Try.prog 27 #[.pointer (some ⟨b, 0, none⟩), u] w (GoesTo b B (leadR R M) [hasMsg (leadR R M) M.frm] w) := by
  obtain ⟨RR, hRR⟩ : ∃ RR, RR = leadR R M := ⟨_, rfl⟩
  rw [← hRR]
  have HRR : Hid (RR = leadR R M) := hRR
  clear hRR
  have HKD : Hid (M.kind = 1) := hk
  have HMF : Hid (TextsIn M.log) := hmf
  clear hk
  obtain ⟨vm, rfl, hs⟩ := hm
  have HST : Hid (Strs w vm M.log) := hs
  obtain ⟨am, cm, rfl, _, _⟩ := hs
  have bm := Box.new w 31 [.int .i64 M.kind, .int .i64 M.frm, .int .i64 M.dst, .int .i64 M.view, .int .i64 M.normal, .int .i64 M.commit, .int .i64 M.n, .slice am M.log.length cm]
  obtain ⟨w0, hw0⟩ : ∃ w0, w0 = w.alloc (.cells #[.int .i64 M.kind, .int .i64 M.frm, .int .i64 M.dst, .int .i64 M.view, .int .i64 M.normal, .int .i64 M.commit, .int .i64 M.n, .slice am M.log.length cm] 31) := ⟨_, rfl⟩
  have hb0 : Below w.heap.size w w0 := by rw [hw0]; exact below_alloc _ _
  have hs0 : w0.heap.size = w.heap.size + 1 := by rw [hw0]; simp
  simp only [msgCells]
  rw [← hw0] at bm
  have HS0 : Hid (w0.heap.size = w.heap.size + 1) := hs0
  have HT : Hid (HeldAt w0 b B R) := h.below hb0
  obtain ⟨vl, vh, vw, vg, vn, ps, hx, ho⟩ := h.below hb0
  obtain ⟨al, cl, ah, ch, aw, cw, ag, cg, an, cn, rfl, rfl, rfl, rfl, rfl⟩ := ho.forms
  have HFT : Hid (ReplFits R) := hf
  have HX : Hid (Box w0 b _ _) := hx
  have HBM : Hid (Box w0 w.heap.size _ _) := bm
  have HO : Hid (ReplOwn w0 B R _ _ _ _ _ _) := ho
  have HB0 : Hid (Below w.heap.size w w0) := hb0
  have HBS : Hid (B ≤ w.heap.size) := hB
  have hzm := hmf.1
  have hbl := hx.lt
  have hbne : b ≠ w.heap.size := by
    obtain ⟨_, _, _, _, _, _, hx0, _⟩ := h
    have := hx0.lt
    omega
  have y0 := bm.cell 0 _ rfl
  have y1 := bm.cell 1 _ rfl
  have y2 := bm.cell 2 _ rfl
  have y3 := bm.cell 3 _ rfl
  have y4 := bm.cell 4 _ rfl
  have y5 := bm.cell 5 _ rfl
  have y6 := bm.cell 6 _ rfl
  have y7 := bm.cell 7 _ rfl
  rw [HKD.out] at y0
  clear hx ho bm hb0 hs0 hf hB hmf
  go_enter Try.func27, Try.ntmps27
  go_upto_region 3 with fail
  rw [← hw0]
  clear hw0
  go_big_region
  have hbA : Below w0.heap.size w0 w0.drew := below_drewN 1 (Below.refl _ _)
  generalize w0.drew = wA at hbA ⊢
  have HBA : Hid (Below w0.heap.size w0 wA) := hbA
  clear y0 y1 y2 y3 y4 y5 y6 y7
  have bm := HBM.out.below hbA HBM.out.lt
  have bx := HX.out.below hbA HX.out.lt
  have y0 := bm.cell 0 _ rfl
  have y1 := bm.cell 1 _ rfl
  have y2 := bm.cell 2 _ rfl
  have y3 := bm.cell 3 _ rfl
  have y4 := bm.cell 4 _ rfl
  have y5 := bm.cell 5 _ rfl
  have y6 := bm.cell 6 _ rfl
  have y7 := bm.cell 7 _ rfl
  have x0 := bx.cell 0 _ rfl
  have x1 := bx.cell 1 _ rfl
  have x2 := bx.cell 2 _ rfl
  have x3 := bx.cell 3 _ rfl
  have x4 := bx.cell 4 _ rfl
  have x5 := bx.cell 5 _ rfl
  have x6 := bx.cell 6 _ rfl
  have x7 := bx.cell 7 _ rfl
  have x8 := bx.cell 8 _ rfl
  have x9 := bx.cell 9 _ rfl
  rw [HKD.out] at y0
  clear bm bx hbA
  go_upto_region 15 with fail
  have HCB : Hid (M.view > R.kept.view ∨ R.kept.calm = false) := Or.inr hc'
  rw [hc'] at x3
  clear hc'
  go_big_region
  have hb : Below wA.heap.size wA wA.drew := below_drewN 1 (Below.refl _ _)
  generalize wA.drew = wC at hb ⊢
  have HBC : Hid (Below w0.heap.size w0 wC) := Below.far HBA.out hb
  clear x0 x1 x2 x3 x4 x5 x6 x7 x8 x9 y0 y1 y2 y3 y4 y5 y6 y7 hb
  have bm := HBM.out.below HBC.out HBM.out.lt
  have bx := HX.out.below HBC.out HX.out.lt
  have HXC : Hid (Box wC b _ _) := bx
  have HMC : Hid (Box wC w.heap.size _ _) := bm
  have HOC : Hid (ReplOwn wC B R _ _ _ _ _ _) := HO.out.below HBC.out
  have y0 := bm.cell 0 _ rfl
  have y1 := bm.cell 1 _ rfl
  have y2 := bm.cell 2 _ rfl
  have y3 := bm.cell 3 _ rfl
  have y4 := bm.cell 4 _ rfl
  have y5 := bm.cell 5 _ rfl
  have y6 := bm.cell 6 _ rfl
  have y7 := bm.cell 7 _ rfl
  have x0 := bx.cell 0 _ rfl
  have x1 := bx.cell 1 _ rfl
  have x2 := bx.cell 2 _ rfl
  have x3 := bx.cell 3 _ rfl
  have x4 := bx.cell 4 _ rfl
  have x5 := bx.cell 5 _ rfl
  have x6 := bx.cell 6 _ rfl
  have x7 := bx.cell 7 _ rfl
  have x8 := bx.cell 8 _ rfl
  have x9 := bx.cell 9 _ rfl
  have f0 := bx.frozen 0
  have f1 := bx.frozen 1
  have f2 := bx.frozen 2
  have f3 := bx.frozen 3
  have f4 := bx.frozen 4
  have f5 := bx.frozen 5
  have f6 := bx.frozen 6
  have f7 := bx.frozen 7
  have f8 := bx.frozen 8
  have f9 := bx.frozen 9
  clear bm bx
  clear f0 f1 f2 f3 f4 f5 f6 f7 f8 f9
  by_cases hcl : (M.log.length : Int) < R.kept.commit
  · have HCM : Hid (min R.kept.commit (M.log.length : Int) = (M.log.length : Int)) := by unfold Hid; omega
    clear hv
    go_upto_region 19 with fail
    clear hcl
    refine wp_region_free [0, 0, 0, 0, 0, 0, 0, 1, 0, 1, 2, 2] (by kernel_rfl) (by kernel_rfl) (fun h => h) (Below wC.heap.size wC) (Below.refl _ _) (fun V n hV => below_drewN n hV) ?_
    clear x0 x1 x2 x3 x4 x5 x6 x7 x8 x9 y0 y1 y2 y3 y4 y5 y6 y7
    apply Exists.intro
    refine ⟨?_, ?_⟩
    · intro V hV
      have bx := HXC.out.below hV HXC.out.lt
      have bm := HMC.out.below hV HMC.out.lt
      have x0 := bx.cell 0 _ rfl
      have x1 := bx.cell 1 _ rfl
      have x2 := bx.cell 2 _ rfl
      have x3 := bx.cell 3 _ rfl
      have x4 := bx.cell 4 _ rfl
      have x5 := bx.cell 5 _ rfl
      have x6 := bx.cell 6 _ rfl
      have x7 := bx.cell 7 _ rfl
      have x8 := bx.cell 8 _ rfl
      have x9 := bx.cell 9 _ rfl
      have y0 := bm.cell 0 _ rfl
      have y1 := bm.cell 1 _ rfl
      have y2 := bm.cell 2 _ rfl
      have y3 := bm.cell 3 _ rfl
      have y4 := bm.cell 4 _ rfl
      have y5 := bm.cell 5 _ rfl
      have y6 := bm.cell 6 _ rfl
      have y7 := bm.cell 7 _ rfl
      simp only [sel, ↓reduceIte, Nat.reduceEqDiff]
      repeat (go_big_quiet_step (fail))
      refine wpQuiet_nil ?_
      rfl
    · intro n
      simp only [sel, ↓reduceIte, Nat.reduceEqDiff]
      refine wpEarly_cons ?_
      have HRW : Hid (RowAt (wC.drewN n) (.slice am M.log.length cm) M.log.length 1 (M.log.map enc)) := (HST.out.below (Below.far HB0.out (below_drewN n HBC.out))).row
      go_wp2_with (at_builtin; refine wpList_append_row _ rfl _ _ 22 rfl wC.heap.size 9 Try.t9 _ 1 16 Try.underlying22 infoStrR zeroStrR sizeStrR bytesStrR rfl (by decide) _ 0 [] rfl (World.ownsRow_nil _ _ _ _) _ M.log.length (M.log.map enc) rfl HRW.out (by intro u hu; obtain ⟨x, _, rfl⟩ := List.mem_map.1 hu; rfl) (by unfold maxLen; omega) (by omega) (Nat.le_refl _) ?_)
      intro v5 wB hownB hgB hatB
      try rw [Nat.zero_add, List.nil_append] at hownB
      have hbB : Below wC.heap.size wC wB := (below_drewN n (Below.refl wC.heap.size wC)).trans ((Below.refl _ _).grown hgB (Nat.le_refl _) (fun k e => by cases e))
      obtain ⟨a5, c5, rfl⟩ := own_formN hownB
      have HBB : Hid (Below wC.heap.size wC wB) := hbB
      have HOB : Hid (wB.ownsRow wC.heap.size _ _ _ _ _) := hownB
      clear hownB hgB hatB HRW
      refine wpEarly_next hbB fun m1 => ?_
      refine wpEarly_cons ?_
      go_wp2_with fail
      refine wpEarly_next (below_drewN m1 hbB) fun m2 => ?_
      refine wpEarly_nil ?_
      clear hbB
      obtain ⟨m, hm⟩ : ∃ m, m = m1 + m2 := ⟨_, rfl⟩
      rw [show (wB.drewN m1).drewN m2 = wB.drewN m from by rw [hm]; exact World.drewN_drewN wB m1 m2]
      clear hm
      have hsz : B ≤ wC.heap.size := Nat.le_trans HBS.out (Nat.le_trans HB0.out.size HBC.out.size)
      have HSZ : Hid (w.heap.size < wC.heap.size) := HMC.out.lt
      have hbm := below_drewN m HBB.out
      have hxm := HXC.out.below hbm HXC.out.lt
      have hom := own_drewN m (own_base HOB.out hsz)
      have HMM : Hid (Box (wB.drewN m) w.heap.size _ _) := HMC.out.below hbm HMC.out.lt
      have HXN : Hid (Box (setAll (wB.drewN m) b 1 [.int .i64 M.view, .int .i64 M.view, .bool true, .slice a5 M.log.length c5, .int .i64 ((M.log.length : Int))]) b 29 [.int .i64 R.me, .int .i64 M.view, .int .i64 M.view, .bool true, .slice a5 M.log.length c5, .int .i64 ((M.log.length : Int)), .slice ah R.hav.length ch, .slice aw R.wants.length cw, .slice ag R.gives.length cg, .slice an R.given.length cn]) := setAll_put _ _ _ 1 hxm
      have HON : Hid (World.ownsRow (setAll (wB.drewN m) b 1 [.int .i64 M.view, .int .i64 M.view, .bool true, .slice a5 M.log.length c5, .int .i64 ((M.log.length : Int))]) B 9 1 (.slice a5 M.log.length c5) M.log.length (M.log.map enc)) := setAll_own _ _ _ hom (own_type hom hxm (by decide))
      have HBN : Hid (Beside B b w (setAll (wB.drewN m) b 1 [.int .i64 M.view, .int .i64 M.view, .bool true, .slice a5 M.log.length c5, .int .i64 ((M.log.length : Int))])) := setAll_beside _ _ _ _ (Beside.of ((Below.far (Below.far HB0.out HBC.out) hbm).mono HBS.out))
      have HMN : Hid (Box (setAll (wB.drewN m) b 1 [.int .i64 M.view, .int .i64 M.view, .bool true, .slice a5 M.log.length c5, .int .i64 ((M.log.length : Int))]) w.heap.size 31 [.int .i64 M.kind, .int .i64 M.frm, .int .i64 M.dst, .int .i64 M.view, .int .i64 M.normal, .int .i64 M.commit, .int .i64 M.n, .slice am M.log.length cm]) := Box.setAll_other (Ne.symm hbne) _ _ HMM.out
      simp only [setAll, Nat.reduceAdd] at HXN HON HBN HMN
      have x0 := hxm.cell 0 _ rfl
      have x1 := hxm.cell 1 _ rfl
      have x2 := hxm.cell 2 _ rfl
      have x3 := hxm.cell 3 _ rfl
      have x4 := hxm.cell 4 _ rfl
      have x5 := hxm.cell 5 _ rfl
      have x6 := hxm.cell 6 _ rfl
      have x7 := hxm.cell 7 _ rfl
      have x8 := hxm.cell 8 _ rfl
      have x9 := hxm.cell 9 _ rfl
      have f0 := hxm.frozen 0
      have f1 := hxm.frozen 1
      have f2 := hxm.frozen 2
      have f3 := hxm.frozen 3
      have f4 := hxm.frozen 4
      have f5 := hxm.frozen 5
      have f6 := hxm.frozen 6
      have f7 := hxm.frozen 7
      have f8 := hxm.frozen 8
      have f9 := hxm.frozen 9
      clear hbm hxm hom HMM hsz
      go_upto_region 20 with fail
      generalize hw5 : World.setCell _ ⟨b, 5, none⟩ _ = w5 at HXN HON HBN HMN ⊢
      clear hw5 x0 x1 x2 x3 x4 x5 x6 x7 x8 x9 f0 f1 f2 f3 f4 f5 f6 f7 f8 f9 HBB HOB
      go_wp2_with fail
      refine (forgotten_any b _ _ _ _ _ _ _ _ _ _ w5 HXN.out).mono ?_
      rintro e w6 ⟨bh, bw, bg, bn, rfl, hF, hx6, hb6⟩
      have hsz5 := HBN.out.size
      have hl6 : w6.ownsRow B 9 1 (.slice a5 M.log.length c5) M.log.length (M.log.map enc) := own_beside HON.out hb6 fun k hk => ⟨own_lt HON.out k hk, fun e => own_type HON.out HXN.out (by decide) (by rw [← e]; exact hk)⟩
      have hBS := HBS.out
      have ho6 := four_own (hF.base (B' := B) (by omega)) R.me ⟨M.view, M.view, true, M.log, (M.log.length : Int)⟩ _ hl6 [] [] [] []
      have HBS6 : Hid (Beside B b w w6) := HBN.out.trans (hb6.mono (by omega))
      have HM6 : Hid (Box w6 w.heap.size 31 [.int .i64 M.kind, .int .i64 M.frm, .int .i64 M.dst, .int .i64 M.view, .int .i64 M.normal, .int .i64 M.commit, .int .i64 M.n, .slice am M.log.length cm]) := HMN.out.beside hb6 HMN.out.lt (Ne.symm hbne)
      have hx6 : Box w6 b 29 [.int .i64 R.me, .int .i64 M.view, .int .i64 M.view, .bool true, .slice a5 M.log.length c5, .int .i64 ((M.log.length : Int)), row3 bh, row3 bw, row3 bg, row3 bn] := hx6
      obtain ⟨R1, hR1⟩ : ∃ R1, R1 = forgot ⟨R.me, ⟨M.view, M.view, true, M.log, (M.log.length : Int)⟩, [], [], [], []⟩ := ⟨_, rfl⟩
      have HH6 : Hid (HeldAt w6 b B R1) := by rw [hR1]; exact ⟨_, _, _, _, _, _, hx6, ho6⟩
      have HFIN : Hid (RR = ⟨R1.me, ⟨R1.kept.view, R1.kept.normal, R1.kept.calm, R1.kept.log, max R1.kept.commit (min M.commit R1.kept.log.length)⟩, R1.hav, R1.wants, R1.gives, R1.given⟩) := by
        rw [HRR.out, hR1]
        unfold leadR leadK
        simp only [if_pos HCB.out]
        rw [HCM.out]
        rfl
      clear hR1 hx6 ho6 hl6 hF hb6 hsz5 hBS HXN HON HBN HMN HT HX HBM HO HB0 HBA HBC HXC HMC HOC HST HRR HCB HCM HKD HMF HS0 HSZ HFT hzm hbl h
      obtain ⟨vl6, vh6, vw6, vg6, vn6, ps6, hx6, ho6⟩ := HH6.out
      obtain ⟨al6, cl6, ah6, ch6, aw6, cw6, ag6, cg6, an6, cn6, rfl, rfl, rfl, rfl, rfl⟩ := ho6.forms
      have HX6 : Hid (Box w6 b _ _) := hx6
      have hy6 := HM6.out
      obtain ⟨DM, hDM⟩ : ∃ DM, DM = min M.commit (R1.kept.log.length : Int) := ⟨_, rfl⟩
      have HDM : Hid (DM = min M.commit (R1.kept.log.length : Int)) := hDM
      clear hDM
      have x0 := hx6.cell 0 _ rfl
      have x1 := hx6.cell 1 _ rfl
      have x2 := hx6.cell 2 _ rfl
      have x3 := hx6.cell 3 _ rfl
      have x4 := hx6.cell 4 _ rfl
      have x5 := hx6.cell 5 _ rfl
      have x6 := hx6.cell 6 _ rfl
      have x7 := hx6.cell 7 _ rfl
      have x8 := hx6.cell 8 _ rfl
      have x9 := hx6.cell 9 _ rfl
      have y0 := hy6.cell 0 _ rfl
      have y1 := hy6.cell 1 _ rfl
      have y2 := hy6.cell 2 _ rfl
      have y3 := hy6.cell 3 _ rfl
      have y4 := hy6.cell 4 _ rfl
      have y5 := hy6.cell 5 _ rfl
      have y6 := hy6.cell 6 _ rfl
      have y7 := hy6.cell 7 _ rfl
      have f5 := hx6.frozen 5
      clear hy6
      by_cases hdl : (R1.kept.log.length : Int) < M.commit
      · have HQ : Hid ((R1.kept.log.length : Int) = DM) := by unfold Hid; rw [HDM.out]; omega
        go_upto_region 26 with fail
        rw [HQ.out]
        clear hdl
        by_cases hcd : R1.kept.commit < DM
        · have HX7 : Hid (Box (w6.setCell ⟨b, 5, none⟩ (.int .i64 DM)) b 29 [.int .i64 R1.me, .int .i64 R1.kept.view, .int .i64 R1.kept.normal, .bool R1.kept.calm, .slice al6 R1.kept.log.length cl6, .int .i64 DM, .slice ah6 R1.hav.length ch6, .slice aw6 R1.wants.length cw6, .slice ag6 R1.gives.length cg6, .slice an6 R1.given.length cn6]) := hx6.set 5 (.int .i64 DM)
          have HH7 : Hid (HeldAt (w6.setCell ⟨b, 5, none⟩ (.int .i64 DM)) b B RR) := by
            rw [HFIN.out, ← HDM.out, max_is _ _ hcd]
            exact ⟨_, _, _, _, _, _, hx6.set 5 (.int .i64 DM), (ho6.type hx6 (by decide) (by decide) (by decide) (by decide) 5 (.int .i64 DM) : ReplOwn _ B R1 _ _ _ _ _ _)⟩
          have HM7 : Hid (Box (w6.setCell ⟨b, 5, none⟩ (.int .i64 DM)) w.heap.size _ _) := HM6.out.other (a := ⟨b, 5, none⟩) _ (Ne.symm hbne)
          have HBS7 : Hid (Beside B b w (w6.setCell ⟨b, 5, none⟩ (.int .i64 DM))) := HBS6.out.setCell (a := ⟨b, 5, none⟩) (Or.inl rfl) _
          go_upto_region 28 with fail
          generalize World.setCell w6 _ _ = w7 at HX7 HH7 HM7 HBS7 ⊢
          clear x0 x1 x2 x3 x4 x5 x6 x7 x8 x9 y0 y1 y2 y3 y4 y5 y6 y7 f5 hx6 ho6 hcd
          refine wp_region_free [0, 0, 0, 0, 0, 0, 0, 0, 0, 0, 0, 0, 0, 0, 0, 0, 1, 2] (by kernel_rfl) (by kernel_rfl) (fun h => h) (Below w7.heap.size w7) (Below.refl _ _) (fun V n hV => below_drewN n hV) ?_
          apply Exists.intro
          refine ⟨?_, ?_⟩
          · intro V hV
            have bx := HX7.out.below hV HX7.out.lt
            have bm := HM7.out.below hV HM7.out.lt
            have x0 := bx.cell 0 _ rfl
            have x1 := bx.cell 1 _ rfl
            have x2 := bx.cell 2 _ rfl
            have x3 := bx.cell 3 _ rfl
            have x4 := bx.cell 4 _ rfl
            have x5 := bx.cell 5 _ rfl
            have x6 := bx.cell 6 _ rfl
            have x7 := bx.cell 7 _ rfl
            have x8 := bx.cell 8 _ rfl
            have x9 := bx.cell 9 _ rfl
            have y0 := bm.cell 0 _ rfl
            have y1 := bm.cell 1 _ rfl
            have y2 := bm.cell 2 _ rfl
            have y3 := bm.cell 3 _ rfl
            have y4 := bm.cell 4 _ rfl
            have y5 := bm.cell 5 _ rfl
            have y6 := bm.cell 6 _ rfl
            have y7 := bm.cell 7 _ rfl
            simp only [sel, ↓reduceIte, Nat.reduceEqDiff]
            repeat (go_big_quiet_step (fail))
            refine wpQuiet_nil ?_
            rfl
          · intro n
            simp only [sel, ↓reduceIte, Nat.reduceEqDiff]
            refine wpEarly_cons ?_
            go_wp2_with fail
            obtain ⟨wa, hwa⟩ : ∃ wa, wa = (w7.drewN n).alloc (.cells #[.int .i64 2, .int .i64 R1.me, .int .i64 M.frm, .int .i64 R1.kept.view, .int .i64 0, .int .i64 0, .int .i64 R1.kept.log.length, .slice none 0 0] 31) := ⟨_, rfl⟩
            have hbx : Box wa w7.heap.size 31 (msgCells (hasMsg RR M.frm) (.slice none 0 0)) := by
              rw [hwa, HFIN.out]; exact Box.new (w7.drewN n) 31 _
            have hba : Below w7.heap.size w7 wa := by rw [hwa]; exact Below.far (below_drewN n (Below.refl _ _)) (below_alloc _ _)
            rw [← hwa]
            clear hwa
            have HE : Hid (∀ m, GoesTo b B RR [hasMsg RR M.frm] w (.returned (.slice (some ⟨w7.heap.size, 0, none⟩) 1 1)) (wa.drewN m)) := fun m => by
              have hbd := below_drewN m hba
              have hbd2 := below_drewN m (Below.refl wa.heap.size wa)
              refine ⟨_, rfl, HH7.out.below hbd, MsgsNew.one (hbx.below hbd2 hbx.lt) HBS7.out.size (World.ownsRow_nil _ _ _ _) (fun k hk => by cases hk), HBS7.out.far HBS.out hbd⟩
            refine wpEarly_next hba fun m => ?_
            refine wpEarly_nil ?_
            clear hba hbx
            go_wp2_with fail
            go_ret
            exact HE.out m
        · go_upto_region 28 with fail
          obtain ⟨w7, hw7⟩ : ∃ w7, w7 = w6 := ⟨_, rfl⟩
          have HX7 : Hid (Box w7 b 29 [.int .i64 R1.me, .int .i64 R1.kept.view, .int .i64 R1.kept.normal, .bool R1.kept.calm, .slice al6 R1.kept.log.length cl6, .int .i64 R1.kept.commit, .slice ah6 R1.hav.length ch6, .slice aw6 R1.wants.length cw6, .slice ag6 R1.gives.length cg6, .slice an6 R1.given.length cn6]) := by rw [hw7]; exact hx6
          have HH7 : Hid (HeldAt w7 b B RR) := by
            rw [HFIN.out, ← HDM.out, show max R1.kept.commit DM = R1.kept.commit by omega, hw7]
            exact HH6.out
          have HM7 : Hid (Box w7 w.heap.size 31 [.int .i64 M.kind, .int .i64 M.frm, .int .i64 M.dst, .int .i64 M.view, .int .i64 M.normal, .int .i64 M.commit, .int .i64 M.n, .slice am M.log.length cm]) := by have := HM6.out; rw [← hw7] at this; exact this
          have HBS7 : Hid (Beside B b w w7) := by rw [hw7]; exact HBS6.out
          rw [← hw7]
          clear x0 x1 x2 x3 x4 x5 x6 x7 x8 x9 y0 y1 y2 y3 y4 y5 y6 y7 f5 hx6 ho6 hcd hw7
          refine wp_region_free [0, 0, 0, 0, 0, 0, 0, 0, 0, 0, 0, 0, 0, 0, 0, 0, 1, 2] (by kernel_rfl) (by kernel_rfl) (fun h => h) (Below w7.heap.size w7) (Below.refl _ _) (fun V n hV => below_drewN n hV) ?_
          apply Exists.intro
          refine ⟨?_, ?_⟩
          · intro V hV
            have bx := HX7.out.below hV HX7.out.lt
            have bm := HM7.out.below hV HM7.out.lt
            have x0 := bx.cell 0 _ rfl
            have x1 := bx.cell 1 _ rfl
            have x2 := bx.cell 2 _ rfl
            have x3 := bx.cell 3 _ rfl
            have x4 := bx.cell 4 _ rfl
            have x5 := bx.cell 5 _ rfl
            have x6 := bx.cell 6 _ rfl
            have x7 := bx.cell 7 _ rfl
            have x8 := bx.cell 8 _ rfl
            have x9 := bx.cell 9 _ rfl
            have y0 := bm.cell 0 _ rfl
            have y1 := bm.cell 1 _ rfl
            have y2 := bm.cell 2 _ rfl
            have y3 := bm.cell 3 _ rfl
            have y4 := bm.cell 4 _ rfl
            have y5 := bm.cell 5 _ rfl
            have y6 := bm.cell 6 _ rfl
            have y7 := bm.cell 7 _ rfl
            simp only [sel, ↓reduceIte, Nat.reduceEqDiff]
            repeat (go_big_quiet_step (fail))
            refine wpQuiet_nil ?_
            rfl
          · intro n
            simp only [sel, ↓reduceIte, Nat.reduceEqDiff]
            refine wpEarly_cons ?_
            go_wp2_with fail
            obtain ⟨wa, hwa⟩ : ∃ wa, wa = (w7.drewN n).alloc (.cells #[.int .i64 2, .int .i64 R1.me, .int .i64 M.frm, .int .i64 R1.kept.view, .int .i64 0, .int .i64 0, .int .i64 R1.kept.log.length, .slice none 0 0] 31) := ⟨_, rfl⟩
            have hbx : Box wa w7.heap.size 31 (msgCells (hasMsg RR M.frm) (.slice none 0 0)) := by
              rw [hwa, HFIN.out]; exact Box.new (w7.drewN n) 31 _
            have hba : Below w7.heap.size w7 wa := by rw [hwa]; exact Below.far (below_drewN n (Below.refl _ _)) (below_alloc _ _)
            rw [← hwa]
            clear hwa
            have HE : Hid (∀ m, GoesTo b B RR [hasMsg RR M.frm] w (.returned (.slice (some ⟨w7.heap.size, 0, none⟩) 1 1)) (wa.drewN m)) := fun m => by
              have hbd := below_drewN m hba
              have hbd2 := below_drewN m (Below.refl wa.heap.size wa)
              refine ⟨_, rfl, HH7.out.below hbd, MsgsNew.one (hbx.below hbd2 hbx.lt) HBS7.out.size (World.ownsRow_nil _ _ _ _) (fun k hk => by cases hk), HBS7.out.far HBS.out hbd⟩
            refine wpEarly_next hba fun m => ?_
            refine wpEarly_nil ?_
            clear hba hbx
            go_wp2_with fail
            go_ret
            exact HE.out m
      · have HQ : Hid (M.commit = DM) := by unfold Hid; rw [HDM.out]; omega
        go_upto_region 26 with fail
        rw [HQ.out]
        clear hdl
        by_cases hcd : R1.kept.commit < DM
        · have HX7 : Hid (Box (w6.setCell ⟨b, 5, none⟩ (.int .i64 DM)) b 29 [.int .i64 R1.me, .int .i64 R1.kept.view, .int .i64 R1.kept.normal, .bool R1.kept.calm, .slice al6 R1.kept.log.length cl6, .int .i64 DM, .slice ah6 R1.hav.length ch6, .slice aw6 R1.wants.length cw6, .slice ag6 R1.gives.length cg6, .slice an6 R1.given.length cn6]) := hx6.set 5 (.int .i64 DM)
          have HH7 : Hid (HeldAt (w6.setCell ⟨b, 5, none⟩ (.int .i64 DM)) b B RR) := by
            rw [HFIN.out, ← HDM.out, max_is _ _ hcd]
            exact ⟨_, _, _, _, _, _, hx6.set 5 (.int .i64 DM), (ho6.type hx6 (by decide) (by decide) (by decide) (by decide) 5 (.int .i64 DM) : ReplOwn _ B R1 _ _ _ _ _ _)⟩
          have HM7 : Hid (Box (w6.setCell ⟨b, 5, none⟩ (.int .i64 DM)) w.heap.size _ _) := HM6.out.other (a := ⟨b, 5, none⟩) _ (Ne.symm hbne)
          have HBS7 : Hid (Beside B b w (w6.setCell ⟨b, 5, none⟩ (.int .i64 DM))) := HBS6.out.setCell (a := ⟨b, 5, none⟩) (Or.inl rfl) _
          go_upto_region 28 with fail
          generalize World.setCell w6 _ _ = w7 at HX7 HH7 HM7 HBS7 ⊢
          clear x0 x1 x2 x3 x4 x5 x6 x7 x8 x9 y0 y1 y2 y3 y4 y5 y6 y7 f5 hx6 ho6 hcd
          refine wp_region_free [0, 0, 0, 0, 0, 0, 0, 0, 0, 0, 0, 0, 0, 0, 0, 0, 1, 2] (by kernel_rfl) (by kernel_rfl) (fun h => h) (Below w7.heap.size w7) (Below.refl _ _) (fun V n hV => below_drewN n hV) ?_
          apply Exists.intro
          refine ⟨?_, ?_⟩
          · intro V hV
            have bx := HX7.out.below hV HX7.out.lt
            have bm := HM7.out.below hV HM7.out.lt
            have x0 := bx.cell 0 _ rfl
            have x1 := bx.cell 1 _ rfl
            have x2 := bx.cell 2 _ rfl
            have x3 := bx.cell 3 _ rfl
            have x4 := bx.cell 4 _ rfl
            have x5 := bx.cell 5 _ rfl
            have x6 := bx.cell 6 _ rfl
            have x7 := bx.cell 7 _ rfl
            have x8 := bx.cell 8 _ rfl
            have x9 := bx.cell 9 _ rfl
            have y0 := bm.cell 0 _ rfl
            have y1 := bm.cell 1 _ rfl
            have y2 := bm.cell 2 _ rfl
            have y3 := bm.cell 3 _ rfl
            have y4 := bm.cell 4 _ rfl
            have y5 := bm.cell 5 _ rfl
            have y6 := bm.cell 6 _ rfl
            have y7 := bm.cell 7 _ rfl
            simp only [sel, ↓reduceIte, Nat.reduceEqDiff]
            repeat (go_big_quiet_step (fail))
            refine wpQuiet_nil ?_
            rfl
          · intro n
            simp only [sel, ↓reduceIte, Nat.reduceEqDiff]
            refine wpEarly_cons ?_
            go_wp2_with fail
            obtain ⟨wa, hwa⟩ : ∃ wa, wa = (w7.drewN n).alloc (.cells #[.int .i64 2, .int .i64 R1.me, .int .i64 M.frm, .int .i64 R1.kept.view, .int .i64 0, .int .i64 0, .int .i64 R1.kept.log.length, .slice none 0 0] 31) := ⟨_, rfl⟩
            have hbx : Box wa w7.heap.size 31 (msgCells (hasMsg RR M.frm) (.slice none 0 0)) := by
              rw [hwa, HFIN.out]; exact Box.new (w7.drewN n) 31 _
            have hba : Below w7.heap.size w7 wa := by rw [hwa]; exact Below.far (below_drewN n (Below.refl _ _)) (below_alloc _ _)
            rw [← hwa]
            clear hwa
            have HE : Hid (∀ m, GoesTo b B RR [hasMsg RR M.frm] w (.returned (.slice (some ⟨w7.heap.size, 0, none⟩) 1 1)) (wa.drewN m)) := fun m => by
              have hbd := below_drewN m hba
              have hbd2 := below_drewN m (Below.refl wa.heap.size wa)
              refine ⟨_, rfl, HH7.out.below hbd, MsgsNew.one (hbx.below hbd2 hbx.lt) HBS7.out.size (World.ownsRow_nil _ _ _ _) (fun k hk => by cases hk), HBS7.out.far HBS.out hbd⟩
            refine wpEarly_next hba fun m => ?_
            refine wpEarly_nil ?_
            clear hba hbx
            go_wp2_with fail
            go_ret
            exact HE.out m
        · go_upto_region 28 with fail
          obtain ⟨w7, hw7⟩ : ∃ w7, w7 = w6 := ⟨_, rfl⟩
          have HX7 : Hid (Box w7 b 29 [.int .i64 R1.me, .int .i64 R1.kept.view, .int .i64 R1.kept.normal, .bool R1.kept.calm, .slice al6 R1.kept.log.length cl6, .int .i64 R1.kept.commit, .slice ah6 R1.hav.length ch6, .slice aw6 R1.wants.length cw6, .slice ag6 R1.gives.length cg6, .slice an6 R1.given.length cn6]) := by rw [hw7]; exact hx6
          have HH7 : Hid (HeldAt w7 b B RR) := by
            rw [HFIN.out, ← HDM.out, show max R1.kept.commit DM = R1.kept.commit by omega, hw7]
            exact HH6.out
          have HM7 : Hid (Box w7 w.heap.size 31 [.int .i64 M.kind, .int .i64 M.frm, .int .i64 M.dst, .int .i64 M.view, .int .i64 M.normal, .int .i64 M.commit, .int .i64 M.n, .slice am M.log.length cm]) := by have := HM6.out; rw [← hw7] at this; exact this
          have HBS7 : Hid (Beside B b w w7) := by rw [hw7]; exact HBS6.out
          rw [← hw7]
          clear x0 x1 x2 x3 x4 x5 x6 x7 x8 x9 y0 y1 y2 y3 y4 y5 y6 y7 f5 hx6 ho6 hcd hw7
          refine wp_region_free [0, 0, 0, 0, 0, 0, 0, 0, 0, 0, 0, 0, 0, 0, 0, 0, 1, 2] (by kernel_rfl) (by kernel_rfl) (fun h => h) (Below w7.heap.size w7) (Below.refl _ _) (fun V n hV => below_drewN n hV) ?_
          apply Exists.intro
          refine ⟨?_, ?_⟩
          · intro V hV
            have bx := HX7.out.below hV HX7.out.lt
            have bm := HM7.out.below hV HM7.out.lt
            have x0 := bx.cell 0 _ rfl
            have x1 := bx.cell 1 _ rfl
            have x2 := bx.cell 2 _ rfl
            have x3 := bx.cell 3 _ rfl
            have x4 := bx.cell 4 _ rfl
            have x5 := bx.cell 5 _ rfl
            have x6 := bx.cell 6 _ rfl
            have x7 := bx.cell 7 _ rfl
            have x8 := bx.cell 8 _ rfl
            have x9 := bx.cell 9 _ rfl
            have y0 := bm.cell 0 _ rfl
            have y1 := bm.cell 1 _ rfl
            have y2 := bm.cell 2 _ rfl
            have y3 := bm.cell 3 _ rfl
            have y4 := bm.cell 4 _ rfl
            have y5 := bm.cell 5 _ rfl
            have y6 := bm.cell 6 _ rfl
            have y7 := bm.cell 7 _ rfl
            simp only [sel, ↓reduceIte, Nat.reduceEqDiff]
            repeat (go_big_quiet_step (fail))
            refine wpQuiet_nil ?_
            rfl
          · intro n
            simp only [sel, ↓reduceIte, Nat.reduceEqDiff]
            refine wpEarly_cons ?_
            go_wp2_with fail
            obtain ⟨wa, hwa⟩ : ∃ wa, wa = (w7.drewN n).alloc (.cells #[.int .i64 2, .int .i64 R1.me, .int .i64 M.frm, .int .i64 R1.kept.view, .int .i64 0, .int .i64 0, .int .i64 R1.kept.log.length, .slice none 0 0] 31) := ⟨_, rfl⟩
            have hbx : Box wa w7.heap.size 31 (msgCells (hasMsg RR M.frm) (.slice none 0 0)) := by
              rw [hwa, HFIN.out]; exact Box.new (w7.drewN n) 31 _
            have hba : Below w7.heap.size w7 wa := by rw [hwa]; exact Below.far (below_drewN n (Below.refl _ _)) (below_alloc _ _)
            rw [← hwa]
            clear hwa
            have HE : Hid (∀ m, GoesTo b B RR [hasMsg RR M.frm] w (.returned (.slice (some ⟨w7.heap.size, 0, none⟩) 1 1)) (wa.drewN m)) := fun m => by
              have hbd := below_drewN m hba
              have hbd2 := below_drewN m (Below.refl wa.heap.size wa)
              refine ⟨_, rfl, HH7.out.below hbd, MsgsNew.one (hbx.below hbd2 hbx.lt) HBS7.out.size (World.ownsRow_nil _ _ _ _) (fun k hk => by cases hk), HBS7.out.far HBS.out hbd⟩
            refine wpEarly_next hba fun m => ?_
            refine wpEarly_nil ?_
            clear hba hbx
            go_wp2_with fail
            go_ret
            exact HE.out m
  · have HCM : Hid (min R.kept.commit (M.log.length : Int) = R.kept.commit) := by unfold Hid; omega
    clear hv
    go_upto_region 19 with fail
    clear hcl
    refine wp_region_free [0, 0, 0, 0, 0, 0, 0, 1, 0, 1, 2, 2] (by kernel_rfl) (by kernel_rfl) (fun h => h) (Below wC.heap.size wC) (Below.refl _ _) (fun V n hV => below_drewN n hV) ?_
    clear x0 x1 x2 x3 x4 x5 x6 x7 x8 x9 y0 y1 y2 y3 y4 y5 y6 y7
    apply Exists.intro
    refine ⟨?_, ?_⟩
    · intro V hV
      have bx := HXC.out.below hV HXC.out.lt
      have bm := HMC.out.below hV HMC.out.lt
      have x0 := bx.cell 0 _ rfl
      have x1 := bx.cell 1 _ rfl
      have x2 := bx.cell 2 _ rfl
      have x3 := bx.cell 3 _ rfl
      have x4 := bx.cell 4 _ rfl
      have x5 := bx.cell 5 _ rfl
      have x6 := bx.cell 6 _ rfl
      have x7 := bx.cell 7 _ rfl
      have x8 := bx.cell 8 _ rfl
      have x9 := bx.cell 9 _ rfl
      have y0 := bm.cell 0 _ rfl
      have y1 := bm.cell 1 _ rfl
      have y2 := bm.cell 2 _ rfl
      have y3 := bm.cell 3 _ rfl
      have y4 := bm.cell 4 _ rfl
      have y5 := bm.cell 5 _ rfl
      have y6 := bm.cell 6 _ rfl
      have y7 := bm.cell 7 _ rfl
      simp only [sel, ↓reduceIte, Nat.reduceEqDiff]
      repeat (go_big_quiet_step (fail))
      refine wpQuiet_nil ?_
      rfl
    · intro n
      simp only [sel, ↓reduceIte, Nat.reduceEqDiff]
      refine wpEarly_cons ?_
      have HRW : Hid (RowAt (wC.drewN n) (.slice am M.log.length cm) M.log.length 1 (M.log.map enc)) := (HST.out.below (Below.far HB0.out (below_drewN n HBC.out))).row
      go_wp2_with (at_builtin; refine wpList_append_row _ rfl _ _ 22 rfl wC.heap.size 9 Try.t9 _ 1 16 Try.underlying22 infoStrR zeroStrR sizeStrR bytesStrR rfl (by decide) _ 0 [] rfl (World.ownsRow_nil _ _ _ _) _ M.log.length (M.log.map enc) rfl HRW.out (by intro u hu; obtain ⟨x, _, rfl⟩ := List.mem_map.1 hu; rfl) (by unfold maxLen; omega) (by omega) (Nat.le_refl _) ?_)
      intro v5 wB hownB hgB hatB
      try rw [Nat.zero_add, List.nil_append] at hownB
      have hbB : Below wC.heap.size wC wB := (below_drewN n (Below.refl wC.heap.size wC)).trans ((Below.refl _ _).grown hgB (Nat.le_refl _) (fun k e => by cases e))
      obtain ⟨a5, c5, rfl⟩ := own_formN hownB
      have HBB : Hid (Below wC.heap.size wC wB) := hbB
      have HOB : Hid (wB.ownsRow wC.heap.size _ _ _ _ _) := hownB
      clear hownB hgB hatB HRW
      refine wpEarly_next hbB fun m1 => ?_
      refine wpEarly_cons ?_
      go_wp2_with fail
      refine wpEarly_next (below_drewN m1 hbB) fun m2 => ?_
      refine wpEarly_nil ?_
      clear hbB
      obtain ⟨m, hm⟩ : ∃ m, m = m1 + m2 := ⟨_, rfl⟩
      rw [show (wB.drewN m1).drewN m2 = wB.drewN m from by rw [hm]; exact World.drewN_drewN wB m1 m2]
      clear hm
      have hsz : B ≤ wC.heap.size := Nat.le_trans HBS.out (Nat.le_trans HB0.out.size HBC.out.size)
      have HSZ : Hid (w.heap.size < wC.heap.size) := HMC.out.lt
      have hbm := below_drewN m HBB.out
      have hxm := HXC.out.below hbm HXC.out.lt
      have hom := own_drewN m (own_base HOB.out hsz)
      have HMM : Hid (Box (wB.drewN m) w.heap.size _ _) := HMC.out.below hbm HMC.out.lt
      have HXN : Hid (Box (setAll (wB.drewN m) b 1 [.int .i64 M.view, .int .i64 M.view, .bool true, .slice a5 M.log.length c5, .int .i64 (R.kept.commit)]) b 29 [.int .i64 R.me, .int .i64 M.view, .int .i64 M.view, .bool true, .slice a5 M.log.length c5, .int .i64 (R.kept.commit), .slice ah R.hav.length ch, .slice aw R.wants.length cw, .slice ag R.gives.length cg, .slice an R.given.length cn]) := setAll_put _ _ _ 1 hxm
      have HON : Hid (World.ownsRow (setAll (wB.drewN m) b 1 [.int .i64 M.view, .int .i64 M.view, .bool true, .slice a5 M.log.length c5, .int .i64 (R.kept.commit)]) B 9 1 (.slice a5 M.log.length c5) M.log.length (M.log.map enc)) := setAll_own _ _ _ hom (own_type hom hxm (by decide))
      have HBN : Hid (Beside B b w (setAll (wB.drewN m) b 1 [.int .i64 M.view, .int .i64 M.view, .bool true, .slice a5 M.log.length c5, .int .i64 (R.kept.commit)])) := setAll_beside _ _ _ _ (Beside.of ((Below.far (Below.far HB0.out HBC.out) hbm).mono HBS.out))
      have HMN : Hid (Box (setAll (wB.drewN m) b 1 [.int .i64 M.view, .int .i64 M.view, .bool true, .slice a5 M.log.length c5, .int .i64 (R.kept.commit)]) w.heap.size 31 [.int .i64 M.kind, .int .i64 M.frm, .int .i64 M.dst, .int .i64 M.view, .int .i64 M.normal, .int .i64 M.commit, .int .i64 M.n, .slice am M.log.length cm]) := Box.setAll_other (Ne.symm hbne) _ _ HMM.out
      simp only [setAll, Nat.reduceAdd] at HXN HON HBN HMN
      have x0 := hxm.cell 0 _ rfl
      have x1 := hxm.cell 1 _ rfl
      have x2 := hxm.cell 2 _ rfl
      have x3 := hxm.cell 3 _ rfl
      have x4 := hxm.cell 4 _ rfl
      have x5 := hxm.cell 5 _ rfl
      have x6 := hxm.cell 6 _ rfl
      have x7 := hxm.cell 7 _ rfl
      have x8 := hxm.cell 8 _ rfl
      have x9 := hxm.cell 9 _ rfl
      have f0 := hxm.frozen 0
      have f1 := hxm.frozen 1
      have f2 := hxm.frozen 2
      have f3 := hxm.frozen 3
      have f4 := hxm.frozen 4
      have f5 := hxm.frozen 5
      have f6 := hxm.frozen 6
      have f7 := hxm.frozen 7
      have f8 := hxm.frozen 8
      have f9 := hxm.frozen 9
      clear hbm hxm hom HMM hsz
      go_upto_region 20 with fail
      generalize hw5 : World.setCell _ ⟨b, 5, none⟩ _ = w5 at HXN HON HBN HMN ⊢
      clear hw5 x0 x1 x2 x3 x4 x5 x6 x7 x8 x9 f0 f1 f2 f3 f4 f5 f6 f7 f8 f9 HBB HOB
      go_wp2_with fail
      refine (forgotten_any b _ _ _ _ _ _ _ _ _ _ w5 HXN.out).mono ?_
      rintro e w6 ⟨bh, bw, bg, bn, rfl, hF, hx6, hb6⟩
      have hsz5 := HBN.out.size
      have hl6 : w6.ownsRow B 9 1 (.slice a5 M.log.length c5) M.log.length (M.log.map enc) := own_beside HON.out hb6 fun k hk => ⟨own_lt HON.out k hk, fun e => own_type HON.out HXN.out (by decide) (by rw [← e]; exact hk)⟩
      have hBS := HBS.out
      have ho6 := four_own (hF.base (B' := B) (by omega)) R.me ⟨M.view, M.view, true, M.log, R.kept.commit⟩ _ hl6 [] [] [] []
      have HBS6 : Hid (Beside B b w w6) := HBN.out.trans (hb6.mono (by omega))
      have HM6 : Hid (Box w6 w.heap.size 31 [.int .i64 M.kind, .int .i64 M.frm, .int .i64 M.dst, .int .i64 M.view, .int .i64 M.normal, .int .i64 M.commit, .int .i64 M.n, .slice am M.log.length cm]) := HMN.out.beside hb6 HMN.out.lt (Ne.symm hbne)
      have hx6 : Box w6 b 29 [.int .i64 R.me, .int .i64 M.view, .int .i64 M.view, .bool true, .slice a5 M.log.length c5, .int .i64 (R.kept.commit), row3 bh, row3 bw, row3 bg, row3 bn] := hx6
      obtain ⟨R1, hR1⟩ : ∃ R1, R1 = forgot ⟨R.me, ⟨M.view, M.view, true, M.log, R.kept.commit⟩, [], [], [], []⟩ := ⟨_, rfl⟩
      have HH6 : Hid (HeldAt w6 b B R1) := by rw [hR1]; exact ⟨_, _, _, _, _, _, hx6, ho6⟩
      have HFIN : Hid (RR = ⟨R1.me, ⟨R1.kept.view, R1.kept.normal, R1.kept.calm, R1.kept.log, max R1.kept.commit (min M.commit R1.kept.log.length)⟩, R1.hav, R1.wants, R1.gives, R1.given⟩) := by
        rw [HRR.out, hR1]
        unfold leadR leadK
        simp only [if_pos HCB.out]
        rw [HCM.out]
        rfl
      clear hR1 hx6 ho6 hl6 hF hb6 hsz5 hBS HXN HON HBN HMN HT HX HBM HO HB0 HBA HBC HXC HMC HOC HST HRR HCB HCM HKD HMF HS0 HSZ HFT hzm hbl h
      obtain ⟨vl6, vh6, vw6, vg6, vn6, ps6, hx6, ho6⟩ := HH6.out
      obtain ⟨al6, cl6, ah6, ch6, aw6, cw6, ag6, cg6, an6, cn6, rfl, rfl, rfl, rfl, rfl⟩ := ho6.forms
      have HX6 : Hid (Box w6 b _ _) := hx6
      have hy6 := HM6.out
      obtain ⟨DM, hDM⟩ : ∃ DM, DM = min M.commit (R1.kept.log.length : Int) := ⟨_, rfl⟩
      have HDM : Hid (DM = min M.commit (R1.kept.log.length : Int)) := hDM
      clear hDM
      have x0 := hx6.cell 0 _ rfl
      have x1 := hx6.cell 1 _ rfl
      have x2 := hx6.cell 2 _ rfl
      have x3 := hx6.cell 3 _ rfl
      have x4 := hx6.cell 4 _ rfl
      have x5 := hx6.cell 5 _ rfl
      have x6 := hx6.cell 6 _ rfl
      have x7 := hx6.cell 7 _ rfl
      have x8 := hx6.cell 8 _ rfl
      have x9 := hx6.cell 9 _ rfl
      have y0 := hy6.cell 0 _ rfl
      have y1 := hy6.cell 1 _ rfl
      have y2 := hy6.cell 2 _ rfl
      have y3 := hy6.cell 3 _ rfl
      have y4 := hy6.cell 4 _ rfl
      have y5 := hy6.cell 5 _ rfl
      have y6 := hy6.cell 6 _ rfl
      have y7 := hy6.cell 7 _ rfl
      have f5 := hx6.frozen 5
      clear hy6
      by_cases hdl : (R1.kept.log.length : Int) < M.commit
      · have HQ : Hid ((R1.kept.log.length : Int) = DM) := by unfold Hid; rw [HDM.out]; omega
        go_upto_region 26 with fail
        rw [HQ.out]
        clear hdl
        by_cases hcd : R1.kept.commit < DM
        · have HX7 : Hid (Box (w6.setCell ⟨b, 5, none⟩ (.int .i64 DM)) b 29 [.int .i64 R1.me, .int .i64 R1.kept.view, .int .i64 R1.kept.normal, .bool R1.kept.calm, .slice al6 R1.kept.log.length cl6, .int .i64 DM, .slice ah6 R1.hav.length ch6, .slice aw6 R1.wants.length cw6, .slice ag6 R1.gives.length cg6, .slice an6 R1.given.length cn6]) := hx6.set 5 (.int .i64 DM)
          have HH7 : Hid (HeldAt (w6.setCell ⟨b, 5, none⟩ (.int .i64 DM)) b B RR) := by
            rw [HFIN.out, ← HDM.out, max_is _ _ hcd]
            exact ⟨_, _, _, _, _, _, hx6.set 5 (.int .i64 DM), (ho6.type hx6 (by decide) (by decide) (by decide) (by decide) 5 (.int .i64 DM) : ReplOwn _ B R1 _ _ _ _ _ _)⟩
          have HM7 : Hid (Box (w6.setCell ⟨b, 5, none⟩ (.int .i64 DM)) w.heap.size _ _) := HM6.out.other (a := ⟨b, 5, none⟩) _ (Ne.symm hbne)
          have HBS7 : Hid (Beside B b w (w6.setCell ⟨b, 5, none⟩ (.int .i64 DM))) := HBS6.out.setCell (a := ⟨b, 5, none⟩) (Or.inl rfl) _
          go_upto_region 28 with fail
          generalize World.setCell w6 _ _ = w7 at HX7 HH7 HM7 HBS7 ⊢
          clear x0 x1 x2 x3 x4 x5 x6 x7 x8 x9 y0 y1 y2 y3 y4 y5 y6 y7 f5 hx6 ho6 hcd
          refine wp_region_free [0, 0, 0, 0, 0, 0, 0, 0, 0, 0, 0, 0, 0, 0, 0, 0, 1, 2] (by kernel_rfl) (by kernel_rfl) (fun h => h) (Below w7.heap.size w7) (Below.refl _ _) (fun V n hV => below_drewN n hV) ?_
          apply Exists.intro
          refine ⟨?_, ?_⟩
          · intro V hV
            have bx := HX7.out.below hV HX7.out.lt
            have bm := HM7.out.below hV HM7.out.lt
            have x0 := bx.cell 0 _ rfl
            have x1 := bx.cell 1 _ rfl
            have x2 := bx.cell 2 _ rfl
            have x3 := bx.cell 3 _ rfl
            have x4 := bx.cell 4 _ rfl
            have x5 := bx.cell 5 _ rfl
            have x6 := bx.cell 6 _ rfl
            have x7 := bx.cell 7 _ rfl
            have x8 := bx.cell 8 _ rfl
            have x9 := bx.cell 9 _ rfl
            have y0 := bm.cell 0 _ rfl
            have y1 := bm.cell 1 _ rfl
            have y2 := bm.cell 2 _ rfl
            have y3 := bm.cell 3 _ rfl
            have y4 := bm.cell 4 _ rfl
            have y5 := bm.cell 5 _ rfl
            have y6 := bm.cell 6 _ rfl
            have y7 := bm.cell 7 _ rfl
            simp only [sel, ↓reduceIte, Nat.reduceEqDiff]
            repeat (go_big_quiet_step (fail))
            refine wpQuiet_nil ?_
            rfl
          · intro n
            simp only [sel, ↓reduceIte, Nat.reduceEqDiff]
            refine wpEarly_cons ?_
            go_wp2_with fail
            obtain ⟨wa, hwa⟩ : ∃ wa, wa = (w7.drewN n).alloc (.cells #[.int .i64 2, .int .i64 R1.me, .int .i64 M.frm, .int .i64 R1.kept.view, .int .i64 0, .int .i64 0, .int .i64 R1.kept.log.length, .slice none 0 0] 31) := ⟨_, rfl⟩
            have hbx : Box wa w7.heap.size 31 (msgCells (hasMsg RR M.frm) (.slice none 0 0)) := by
              rw [hwa, HFIN.out]; exact Box.new (w7.drewN n) 31 _
            have hba : Below w7.heap.size w7 wa := by rw [hwa]; exact Below.far (below_drewN n (Below.refl _ _)) (below_alloc _ _)
            rw [← hwa]
            clear hwa
            have HE : Hid (∀ m, GoesTo b B RR [hasMsg RR M.frm] w (.returned (.slice (some ⟨w7.heap.size, 0, none⟩) 1 1)) (wa.drewN m)) := fun m => by
              have hbd := below_drewN m hba
              have hbd2 := below_drewN m (Below.refl wa.heap.size wa)
              refine ⟨_, rfl, HH7.out.below hbd, MsgsNew.one (hbx.below hbd2 hbx.lt) HBS7.out.size (World.ownsRow_nil _ _ _ _) (fun k hk => by cases hk), HBS7.out.far HBS.out hbd⟩
            refine wpEarly_next hba fun m => ?_
            refine wpEarly_nil ?_
            clear hba hbx
            go_wp2_with fail
            go_ret
            exact HE.out m
        · go_upto_region 28 with fail
          obtain ⟨w7, hw7⟩ : ∃ w7, w7 = w6 := ⟨_, rfl⟩
          have HX7 : Hid (Box w7 b 29 [.int .i64 R1.me, .int .i64 R1.kept.view, .int .i64 R1.kept.normal, .bool R1.kept.calm, .slice al6 R1.kept.log.length cl6, .int .i64 R1.kept.commit, .slice ah6 R1.hav.length ch6, .slice aw6 R1.wants.length cw6, .slice ag6 R1.gives.length cg6, .slice an6 R1.given.length cn6]) := by rw [hw7]; exact hx6
          have HH7 : Hid (HeldAt w7 b B RR) := by
            rw [HFIN.out, ← HDM.out, show max R1.kept.commit DM = R1.kept.commit by omega, hw7]
            exact HH6.out
          have HM7 : Hid (Box w7 w.heap.size 31 [.int .i64 M.kind, .int .i64 M.frm, .int .i64 M.dst, .int .i64 M.view, .int .i64 M.normal, .int .i64 M.commit, .int .i64 M.n, .slice am M.log.length cm]) := by have := HM6.out; rw [← hw7] at this; exact this
          have HBS7 : Hid (Beside B b w w7) := by rw [hw7]; exact HBS6.out
          rw [← hw7]
          clear x0 x1 x2 x3 x4 x5 x6 x7 x8 x9 y0 y1 y2 y3 y4 y5 y6 y7 f5 hx6 ho6 hcd hw7
          refine wp_region_free [0, 0, 0, 0, 0, 0, 0, 0, 0, 0, 0, 0, 0, 0, 0, 0, 1, 2] (by kernel_rfl) (by kernel_rfl) (fun h => h) (Below w7.heap.size w7) (Below.refl _ _) (fun V n hV => below_drewN n hV) ?_
          apply Exists.intro
          refine ⟨?_, ?_⟩
          · intro V hV
            have bx := HX7.out.below hV HX7.out.lt
            have bm := HM7.out.below hV HM7.out.lt
            have x0 := bx.cell 0 _ rfl
            have x1 := bx.cell 1 _ rfl
            have x2 := bx.cell 2 _ rfl
            have x3 := bx.cell 3 _ rfl
            have x4 := bx.cell 4 _ rfl
            have x5 := bx.cell 5 _ rfl
            have x6 := bx.cell 6 _ rfl
            have x7 := bx.cell 7 _ rfl
            have x8 := bx.cell 8 _ rfl
            have x9 := bx.cell 9 _ rfl
            have y0 := bm.cell 0 _ rfl
            have y1 := bm.cell 1 _ rfl
            have y2 := bm.cell 2 _ rfl
            have y3 := bm.cell 3 _ rfl
            have y4 := bm.cell 4 _ rfl
            have y5 := bm.cell 5 _ rfl
            have y6 := bm.cell 6 _ rfl
            have y7 := bm.cell 7 _ rfl
            simp only [sel, ↓reduceIte, Nat.reduceEqDiff]
            repeat (go_big_quiet_step (fail))
            refine wpQuiet_nil ?_
            rfl
          · intro n
            simp only [sel, ↓reduceIte, Nat.reduceEqDiff]
            refine wpEarly_cons ?_
            go_wp2_with fail
            obtain ⟨wa, hwa⟩ : ∃ wa, wa = (w7.drewN n).alloc (.cells #[.int .i64 2, .int .i64 R1.me, .int .i64 M.frm, .int .i64 R1.kept.view, .int .i64 0, .int .i64 0, .int .i64 R1.kept.log.length, .slice none 0 0] 31) := ⟨_, rfl⟩
            have hbx : Box wa w7.heap.size 31 (msgCells (hasMsg RR M.frm) (.slice none 0 0)) := by
              rw [hwa, HFIN.out]; exact Box.new (w7.drewN n) 31 _
            have hba : Below w7.heap.size w7 wa := by rw [hwa]; exact Below.far (below_drewN n (Below.refl _ _)) (below_alloc _ _)
            rw [← hwa]
            clear hwa
            have HE : Hid (∀ m, GoesTo b B RR [hasMsg RR M.frm] w (.returned (.slice (some ⟨w7.heap.size, 0, none⟩) 1 1)) (wa.drewN m)) := fun m => by
              have hbd := below_drewN m hba
              have hbd2 := below_drewN m (Below.refl wa.heap.size wa)
              refine ⟨_, rfl, HH7.out.below hbd, MsgsNew.one (hbx.below hbd2 hbx.lt) HBS7.out.size (World.ownsRow_nil _ _ _ _) (fun k hk => by cases hk), HBS7.out.far HBS.out hbd⟩
            refine wpEarly_next hba fun m => ?_
            refine wpEarly_nil ?_
            clear hba hbx
            go_wp2_with fail
            go_ret
            exact HE.out m
      · have HQ : Hid (M.commit = DM) := by unfold Hid; rw [HDM.out]; omega
        go_upto_region 26 with fail
        rw [HQ.out]
        clear hdl
        by_cases hcd : R1.kept.commit < DM
        · have HX7 : Hid (Box (w6.setCell ⟨b, 5, none⟩ (.int .i64 DM)) b 29 [.int .i64 R1.me, .int .i64 R1.kept.view, .int .i64 R1.kept.normal, .bool R1.kept.calm, .slice al6 R1.kept.log.length cl6, .int .i64 DM, .slice ah6 R1.hav.length ch6, .slice aw6 R1.wants.length cw6, .slice ag6 R1.gives.length cg6, .slice an6 R1.given.length cn6]) := hx6.set 5 (.int .i64 DM)
          have HH7 : Hid (HeldAt (w6.setCell ⟨b, 5, none⟩ (.int .i64 DM)) b B RR) := by
            rw [HFIN.out, ← HDM.out, max_is _ _ hcd]
            exact ⟨_, _, _, _, _, _, hx6.set 5 (.int .i64 DM), (ho6.type hx6 (by decide) (by decide) (by decide) (by decide) 5 (.int .i64 DM) : ReplOwn _ B R1 _ _ _ _ _ _)⟩
          have HM7 : Hid (Box (w6.setCell ⟨b, 5, none⟩ (.int .i64 DM)) w.heap.size _ _) := HM6.out.other (a := ⟨b, 5, none⟩) _ (Ne.symm hbne)
          have HBS7 : Hid (Beside B b w (w6.setCell ⟨b, 5, none⟩ (.int .i64 DM))) := HBS6.out.setCell (a := ⟨b, 5, none⟩) (Or.inl rfl) _
          go_upto_region 28 with fail
          generalize World.setCell w6 _ _ = w7 at HX7 HH7 HM7 HBS7 ⊢
          clear x0 x1 x2 x3 x4 x5 x6 x7 x8 x9 y0 y1 y2 y3 y4 y5 y6 y7 f5 hx6 ho6 hcd
          refine wp_region_free [0, 0, 0, 0, 0, 0, 0, 0, 0, 0, 0, 0, 0, 0, 0, 0, 1, 2] (by kernel_rfl) (by kernel_rfl) (fun h => h) (Below w7.heap.size w7) (Below.refl _ _) (fun V n hV => below_drewN n hV) ?_
          apply Exists.intro
          refine ⟨?_, ?_⟩
          · intro V hV
            have bx := HX7.out.below hV HX7.out.lt
            have bm := HM7.out.below hV HM7.out.lt
            have x0 := bx.cell 0 _ rfl
            have x1 := bx.cell 1 _ rfl
            have x2 := bx.cell 2 _ rfl
            have x3 := bx.cell 3 _ rfl
            have x4 := bx.cell 4 _ rfl
            have x5 := bx.cell 5 _ rfl
            have x6 := bx.cell 6 _ rfl
            have x7 := bx.cell 7 _ rfl
            have x8 := bx.cell 8 _ rfl
            have x9 := bx.cell 9 _ rfl
            have y0 := bm.cell 0 _ rfl
            have y1 := bm.cell 1 _ rfl
            have y2 := bm.cell 2 _ rfl
            have y3 := bm.cell 3 _ rfl
            have y4 := bm.cell 4 _ rfl
            have y5 := bm.cell 5 _ rfl
            have y6 := bm.cell 6 _ rfl
            have y7 := bm.cell 7 _ rfl
            simp only [sel, ↓reduceIte, Nat.reduceEqDiff]
            repeat (go_big_quiet_step (fail))
            refine wpQuiet_nil ?_
            rfl
          · intro n
            simp only [sel, ↓reduceIte, Nat.reduceEqDiff]
            refine wpEarly_cons ?_
            go_wp2_with fail
            obtain ⟨wa, hwa⟩ : ∃ wa, wa = (w7.drewN n).alloc (.cells #[.int .i64 2, .int .i64 R1.me, .int .i64 M.frm, .int .i64 R1.kept.view, .int .i64 0, .int .i64 0, .int .i64 R1.kept.log.length, .slice none 0 0] 31) := ⟨_, rfl⟩
            have hbx : Box wa w7.heap.size 31 (msgCells (hasMsg RR M.frm) (.slice none 0 0)) := by
              rw [hwa, HFIN.out]; exact Box.new (w7.drewN n) 31 _
            have hba : Below w7.heap.size w7 wa := by rw [hwa]; exact Below.far (below_drewN n (Below.refl _ _)) (below_alloc _ _)
            rw [← hwa]
            clear hwa
            have HE : Hid (∀ m, GoesTo b B RR [hasMsg RR M.frm] w (.returned (.slice (some ⟨w7.heap.size, 0, none⟩) 1 1)) (wa.drewN m)) := fun m => by
              have hbd := below_drewN m hba
              have hbd2 := below_drewN m (Below.refl wa.heap.size wa)
              refine ⟨_, rfl, HH7.out.below hbd, MsgsNew.one (hbx.below hbd2 hbx.lt) HBS7.out.size (World.ownsRow_nil _ _ _ _) (fun k hk => by cases hk), HBS7.out.far HBS.out hbd⟩
            refine wpEarly_next hba fun m => ?_
            refine wpEarly_nil ?_
            clear hba hbx
            go_wp2_with fail
            go_ret
            exact HE.out m
        · go_upto_region 28 with fail
          obtain ⟨w7, hw7⟩ : ∃ w7, w7 = w6 := ⟨_, rfl⟩
          have HX7 : Hid (Box w7 b 29 [.int .i64 R1.me, .int .i64 R1.kept.view, .int .i64 R1.kept.normal, .bool R1.kept.calm, .slice al6 R1.kept.log.length cl6, .int .i64 R1.kept.commit, .slice ah6 R1.hav.length ch6, .slice aw6 R1.wants.length cw6, .slice ag6 R1.gives.length cg6, .slice an6 R1.given.length cn6]) := by rw [hw7]; exact hx6
          have HH7 : Hid (HeldAt w7 b B RR) := by
            rw [HFIN.out, ← HDM.out, show max R1.kept.commit DM = R1.kept.commit by omega, hw7]
            exact HH6.out
          have HM7 : Hid (Box w7 w.heap.size 31 [.int .i64 M.kind, .int .i64 M.frm, .int .i64 M.dst, .int .i64 M.view, .int .i64 M.normal, .int .i64 M.commit, .int .i64 M.n, .slice am M.log.length cm]) := by have := HM6.out; rw [← hw7] at this; exact this
          have HBS7 : Hid (Beside B b w w7) := by rw [hw7]; exact HBS6.out
          rw [← hw7]
          clear x0 x1 x2 x3 x4 x5 x6 x7 x8 x9 y0 y1 y2 y3 y4 y5 y6 y7 f5 hx6 ho6 hcd hw7
          refine wp_region_free [0, 0, 0, 0, 0, 0, 0, 0, 0, 0, 0, 0, 0, 0, 0, 0, 1, 2] (by kernel_rfl) (by kernel_rfl) (fun h => h) (Below w7.heap.size w7) (Below.refl _ _) (fun V n hV => below_drewN n hV) ?_
          apply Exists.intro
          refine ⟨?_, ?_⟩
          · intro V hV
            have bx := HX7.out.below hV HX7.out.lt
            have bm := HM7.out.below hV HM7.out.lt
            have x0 := bx.cell 0 _ rfl
            have x1 := bx.cell 1 _ rfl
            have x2 := bx.cell 2 _ rfl
            have x3 := bx.cell 3 _ rfl
            have x4 := bx.cell 4 _ rfl
            have x5 := bx.cell 5 _ rfl
            have x6 := bx.cell 6 _ rfl
            have x7 := bx.cell 7 _ rfl
            have x8 := bx.cell 8 _ rfl
            have x9 := bx.cell 9 _ rfl
            have y0 := bm.cell 0 _ rfl
            have y1 := bm.cell 1 _ rfl
            have y2 := bm.cell 2 _ rfl
            have y3 := bm.cell 3 _ rfl
            have y4 := bm.cell 4 _ rfl
            have y5 := bm.cell 5 _ rfl
            have y6 := bm.cell 6 _ rfl
            have y7 := bm.cell 7 _ rfl
            simp only [sel, ↓reduceIte, Nat.reduceEqDiff]
            repeat (go_big_quiet_step (fail))
            refine wpQuiet_nil ?_
            rfl
          · intro n
            simp only [sel, ↓reduceIte, Nat.reduceEqDiff]
            refine wpEarly_cons ?_
            go_wp2_with fail
            obtain ⟨wa, hwa⟩ : ∃ wa, wa = (w7.drewN n).alloc (.cells #[.int .i64 2, .int .i64 R1.me, .int .i64 M.frm, .int .i64 R1.kept.view, .int .i64 0, .int .i64 0, .int .i64 R1.kept.log.length, .slice none 0 0] 31) := ⟨_, rfl⟩
            have hbx : Box wa w7.heap.size 31 (msgCells (hasMsg RR M.frm) (.slice none 0 0)) := by
              rw [hwa, HFIN.out]; exact Box.new (w7.drewN n) 31 _
            have hba : Below w7.heap.size w7 wa := by rw [hwa]; exact Below.far (below_drewN n (Below.refl _ _)) (below_alloc _ _)
            rw [← hwa]
            clear hwa
            have HE : Hid (∀ m, GoesTo b B RR [hasMsg RR M.frm] w (.returned (.slice (some ⟨w7.heap.size, 0, none⟩) 1 1)) (wa.drewN m)) := fun m => by
              have hbd := below_drewN m hba
              have hbd2 := below_drewN m (Below.refl wa.heap.size wa)
              refine ⟨_, rfl, HH7.out.below hbd, MsgsNew.one (hbx.below hbd2 hbx.lt) HBS7.out.size (World.ownsRow_nil _ _ _ _) (fun k hk => by cases hk), HBS7.out.far HBS.out hbd⟩
            refine wpEarly_next hba fun m => ?_
            refine wpEarly_nil ?_
            clear hba hbx
            go_wp2_with fail
            go_ret
            exact HE.out m

end Go.Proofs.Ytmdgkjbiicaljag
