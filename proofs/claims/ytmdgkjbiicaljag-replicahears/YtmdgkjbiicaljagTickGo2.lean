/- The program's own replica.Tick. -/
import Derived.Test.YtmdgkjbiicaljagTickGo
namespace Go.Proofs.Ytmdgkjbiicaljag
open Go.RowKit
set_option linter.unusedVariables false
set_option linter.unusedSimpArgs false

theorem repl_wants (R : ReplM) (h : replFault R = 0) : R.wants.length = 3 := by
  unfold replFault at h
  split at h
  · split at h
    · rename_i hk
      unfold fours at hk
      simp only [Bool.and_eq_true, beq_iff_eq] at hk
      exact hk.1.1.2
    · omega
  · omega
theorem turn_below {w w' : World} {b B : Nat} {R : ReplM} {L : List MsgM} (h : TurnAt w b B R L) (hb : Below w.heap.size w w') : TurnAt w' b B R L := by
  obtain ⟨vl, vh, vw, vg, vn, vs, ps, hx, ho, qs, hL, hq⟩ := h
  exact ⟨vl, vh, vw, vg, vn, vs, ps, hx.below hb hx.lt, ho.below hb, qs, hL, hq.below hb⟩

set_option maxRecDepth 4000 in
set_option maxHeartbeats 4000000 in
theorem tickGo_any (R : ReplM) (v : Value) (w : World) (h : ReplAt w v R) (hf : ReplFits R) :
    Calls Try.prog 14 #[v] w fun e w' => Answers w e w' (tickR R) (tickL R) (tickE R) := by
  have HC : Hid (∀ W, Below w.heap.size w W → Calls _ _ _ W _) := fun W hW => replCheck_any R _ W (h.below hW)
  have HD : Hid (∀ W, Below w.heap.size w W → Calls _ _ _ W _) := fun W hW => replCopy_any R _ W (h.below hW) hf
  have HME : Hid (replFault R = 0 → (0 ≤ R.me ∧ R.me < 3) ∧ 0 ≤ R.kept.view ∧ R.kept.view ≤ 1048576) := repl_me R
  have N1 : Hid (¬ replFault R = 0 → tickE R = replFault R ∧ tickR R = zeroRepl ∧ tickL R = []) := fun hE => by
    have eE : tickE R = replFault R := rfl
    exact ⟨eE, by unfold tickR; rw [eE, if_neg hE], by unfold tickL; rw [eE, if_neg hE]⟩
  have N2 : Hid (replFault R = 0 → tickE R = 0 ∧ tickR R = tickR' R ∧ tickL R = tickL' R) := fun hE => by
    have eE : tickE R = 0 := hE
    exact ⟨eE, by unfold tickR; rw [eE]; rfl, by unfold tickL; rw [eE]; rfl⟩
  have HWL : Hid (replFault R = 0 → R.wants.length = 3) := repl_wants R
  generalize tickE R = EE at *
  generalize tickR R = RR at *
  generalize tickL R = LL at *
  obtain ⟨vl, vh, vw, vg, vn, rfl, hl, hh, hw, hg, hn⟩ := h
  obtain ⟨al, cl, rfl, _, _⟩ := hl
  obtain ⟨ah, ch, rfl, _, _⟩ := hh
  obtain ⟨aw, cw, rfl, _, _⟩ := hw
  obtain ⟨ag, cg, rfl, _, _⟩ := hg
  obtain ⟨an, cn, rfl, _, _⟩ := hn
  simp only [replCells] at *
  obtain ⟨b0, b1, hb⟩ := boxes2 w 29 29 [.int .i64 R.me, .int .i64 R.kept.view, .int .i64 R.kept.normal, .bool R.kept.calm, .slice al R.kept.log.length cl, .int .i64 R.kept.commit, .slice ah R.hav.length ch, .slice aw R.wants.length cw, .slice ag R.gives.length cg, .slice an R.given.length cn] [.int .i64 0, .int .i64 0, .int .i64 0, .bool false, .slice none 0 0, .int .i64 0, .slice none 0 0, .slice none 0 0, .slice none 0 0, .slice none 0 0]
  obtain ⟨w0, hw0⟩ : ∃ w0, w0 = (w.alloc (.cells #[.int .i64 R.me, .int .i64 R.kept.view, .int .i64 R.kept.normal, .bool R.kept.calm, .slice al R.kept.log.length cl, .int .i64 R.kept.commit, .slice ah R.hav.length ch, .slice aw R.wants.length cw, .slice ag R.gives.length cg, .slice an R.given.length cn] 29)).alloc (.cells #[.int .i64 0, .int .i64 0, .int .i64 0, .bool false, .slice none 0 0, .int .i64 0, .slice none 0 0, .slice none 0 0, .slice none 0 0, .slice none 0 0] 29) := ⟨_, rfl⟩
  have hsz : w0.heap.size = w.heap.size + 1 + 1 := by rw [hw0]; simp
  go_enter Try.func14, Try.ntmps14
  go_upto_region 1 with fail
  rw [← hw0] at b0 b1 hb ⊢
  clear hw0
  have HB0 : Hid (Box w0 w.heap.size _ _) := b0
  have HB1 : Hid (Box w0 (w.heap.size + 1) _ _) := b1
  have HBW : Hid (Below w.heap.size w w0) := hb
  have HSZ : Hid (w0.heap.size = w.heap.size + 1 + 1) := hsz
  have x0 := b0.cell 0 _ rfl
  have x1 := b0.cell 1 _ rfl
  have x2 := b0.cell 2 _ rfl
  have x3 := b0.cell 3 _ rfl
  have x4 := b0.cell 4 _ rfl
  have x5 := b0.cell 5 _ rfl
  have x6 := b0.cell 6 _ rfl
  have x7 := b0.cell 7 _ rfl
  have x8 := b0.cell 8 _ rfl
  have x9 := b0.cell 9 _ rfl
  clear b0 b1 hb hsz
  go_wp2_with fail
  refine (HC.out _ HBW.out).mono ?_
  rintro e w1 ⟨rfl, hb1⟩
  have HB2 : Hid (Below w0.heap.size w0 w1) := hb1
  have r0 := HB0.out.below hb1 HB0.out.lt
  have r1 := HB1.out.below hb1 HB1.out.lt
  clear hb1 x0 x1 x2 x3 x4 x5 x6 x7 x8 x9 HC
  have x0 := r0.cell 0 _ rfl
  have x1 := r0.cell 1 _ rfl
  have x2 := r0.cell 2 _ rfl
  have x3 := r0.cell 3 _ rfl
  have x4 := r0.cell 4 _ rfl
  have x5 := r0.cell 5 _ rfl
  have x6 := r0.cell 6 _ rfl
  have x7 := r0.cell 7 _ rfl
  have x8 := r0.cell 8 _ rfl
  have x9 := r0.cell 9 _ rfl
  have y0 := r1.cell 0 _ rfl
  have y1 := r1.cell 1 _ rfl
  have y2 := r1.cell 2 _ rfl
  have y3 := r1.cell 3 _ rfl
  have y4 := r1.cell 4 _ rfl
  have y5 := r1.cell 5 _ rfl
  have y6 := r1.cell 6 _ rfl
  have y7 := r1.cell 7 _ rfl
  have y8 := r1.cell 8 _ rfl
  have y9 := r1.cell 9 _ rfl
  have f0 := r1.frozen 0
  have f1 := r1.frozen 1
  have f2 := r1.frozen 2
  have f3 := r1.frozen 3
  have f4 := r1.frozen 4
  have f5 := r1.frozen 5
  have f6 := r1.frozen 6
  have f7 := r1.frozen 7
  have f8 := r1.frozen 8
  have f9 := r1.frozen 9
  have HR1 : Hid (Box w1 (w.heap.size + 1) _ _) := r1
  have HR0 : Hid (Box w1 w.heap.size _ _) := r0
  have HBE : Hid (Below w.heap.size w w1) := Below.far HBW.out HB2.out
  clear r0 r1
  have HFT : Hid (ReplFits R) := hf
  clear hf
  by_cases hE : replFault R = 0
  · obtain ⟨e1, e2, e3⟩ := N2.out hE
    subst e1
    have HER : Hid (RR = tickR' R ∧ LL = tickL' R) := ⟨e2, e3⟩
    obtain ⟨⟨hm0, hm1⟩, hv0, hv1⟩ := HME.out hE
    have HW3 : Hid (R.wants.length = 3) := HWL.out hE
    rw [hE]
    clear N1 N2 HME HWL e2 e3 y0 y1 y2 y3 y4 y5 y6 y7 y8 y9 f0 f1 f2 f3 f4 f5 f6 f7 f8 f9
    go_wp2_with fail
    refine (HD.out _ HBE.out).mono ?_
    rintro e w2 ⟨v2, rfl, ⟨vl2, vh2, vw2, vg2, vn2, ps2, rfl, ho2⟩, hb2⟩
    obtain ⟨al2, cl2, ah2, ch2, aw2, cw2, ag2, cg2, an2, cn2, rfl, rfl, rfl, rfl, rfl⟩ := ho2.forms
    simp only [replCells]
    have r0 := HR0.out.below hb2 HR0.out.lt
    have r1 := HR1.out.below hb2 HR1.out.lt
    obtain ⟨w3, hw3⟩ : ∃ w3, w3 = w2.alloc (.cells #[.int .i64 R.me, .int .i64 R.kept.view, .int .i64 R.kept.normal, .bool R.kept.calm, .slice al2 R.kept.log.length cl2, .int .i64 R.kept.commit, .slice ah2 R.hav.length ch2, .slice aw2 R.wants.length cw2, .slice ag2 R.gives.length cg2, .slice an2 R.given.length cn2, .slice none 0 0] 47) := ⟨_, rfl⟩
    have hs0 := HSZ.out
    have hs1 := HB2.out.size
    have hs2 := hb2.size
    obtain ⟨ht3, hx3, ho3, hb3, hs3⟩ := turn_new ho2 (B' := w.heap.size + 2) (by omega) w3 hw3
    have hf3 := HFT.out
    have HA3 : Hid (ReplAt w3 _ R) := ho3.at hf3
    simp only [replCells] at HA3
    have HT3 : Hid (TurnAt w3 w2.heap.size (w.heap.size + 2) R []) := ht3
    have HBB : Hid (Below w.heap.size w w3) := Below.far (Below.far HBE.out hb2) hb3
    have HQ1 : Hid (Box w3 (w.heap.size + 1) _ _) := r1.below hb3 (by omega)
    have HS3 : Hid (w.heap.size + 2 ≤ w2.heap.size ∧ w3.heap.size = w2.heap.size + 1) := ⟨by omega, hs3⟩
    have z0 := hx3.cell 0 _ rfl
    have z1 := hx3.cell 1 _ rfl
    have z2 := hx3.cell 2 _ rfl
    have z3 := hx3.cell 3 _ rfl
    have z4 := hx3.cell 4 _ rfl
    have z5 := hx3.cell 5 _ rfl
    have z6 := hx3.cell 6 _ rfl
    have z7 := hx3.cell 7 _ rfl
    have z8 := hx3.cell 8 _ rfl
    have z9 := hx3.cell 9 _ rfl
    have z10 := hx3.cell 10 _ rfl
    have HX3 : Hid (Box w3 w2.heap.size _ _) := hx3
    clear ht3 hx3 ho3 hb3 hs3 r0 r1 ho2 hb2 x0 x1 x2 x3 x4 x5 x6 x7 x8 x9 HD hs0 hs1 hs2
    have HLD : Hid (Calls _ _ _ w3 _) := leads_any R _ w3 HA3.out
    go_upto_region 6 with fail
    rw [← hw3]
    clear hw3
    go_wp2_with fail
    refine HLD.out.mono ?_
    rintro e w3' ⟨rfl, hb3'⟩
    have HT3' : Hid (TurnAt w3' w2.heap.size (w.heap.size + 2) R []) := turn_below HT3.out hb3'
    have hx3' := HX3.out.below hb3' HX3.out.lt
    have z3' := hx3'.cell 3 _ rfl
    have HQ1' : Hid (Box w3' (w.heap.size + 1) _ _) := HQ1.out.below hb3' HQ1.out.lt
    have HBB' : Hid (Below w.heap.size w w3') := Below.far HBB.out hb3'
    have HS3' : Hid (w.heap.size + 2 ≤ w2.heap.size ∧ w2.heap.size + 1 ≤ w3'.heap.size) := ⟨HS3.out.1, by have := hb3'.size; have := HS3.out.2; omega⟩
    clear HQ1 HBB HS3 HT3 HX3 hx3' hb3' z0 z1 z2 z3 z4 z5 z6 z7 z8 z9 z10 HLD HA3
    have HQ1 := HQ1'
    have HBB := HBB'
    have HS3 := HS3'
    clear HQ1' HBB' HS3'
    by_cases hl : leads R = true
    · have hRL : RR = R ∧ LL = ledBy R := by
        rw [HER.out.1, HER.out.2]
        unfold tickR' tickL'
        have hc : R.kept.calm = true := by unfold leads at hl; simp at hl; exact hl.1
        rw [if_pos hc, if_pos hl]
        exact ⟨rfl, rfl⟩
      have HRL : Hid (RR = R ∧ LL = ledBy R) := hRL
      rw [hl]
      clear HER hRL
      go_wp2_with fail
      refine (leadOn_any _ _ R [] w3' HT3'.out HFT.out.log.1 (by simp) (by have := HS3.out; omega)).mono ?_
      rintro e w4 ⟨rfl, ht4, hb4⟩
      have ht4 : TurnAt w4 w2.heap.size (w.heap.size + 2) RR LL := by rw [HRL.out.1, HRL.out.2]; exact ht4
      clear z3'
      obtain ⟨vl4, vh4, vw4, vg4, vn4, vs4, ps4, hx4, ho4, hm4⟩ := ht4
      obtain ⟨al4, cl4, ah4, ch4, aw4, cw4, ag4, cg4, an4, cn4, rfl, rfl, rfl, rfl, rfl⟩ := ho4.forms
      obtain ⟨as4, cs4, rfl⟩ := hm4.form
      have r1 := HQ1.out.beside hb4 (by omega) (by have := HS3.out; omega)
      have HK5 : Hid _ := turn_out (w := w) ho4 hm4 r1 rfl (by omega) (by omega) (HBB.out.trans (hb4.below (by omega) (by have := HS3.out; omega))) _ rfl
      simp only [setAll] at HK5
      have ne4 : ¬ w2.heap.size = w.heap.size + 1 := by have := HS3.out; omega
      have ne5 : ¬ w.heap.size + 1 = w2.heap.size := by have := HS3.out; omega
      have x0 := hx4.cell 0 _ rfl
      have x1 := hx4.cell 1 _ rfl
      have x2 := hx4.cell 2 _ rfl
      have x3 := hx4.cell 3 _ rfl
      have x4 := hx4.cell 4 _ rfl
      have x5 := hx4.cell 5 _ rfl
      have x6 := hx4.cell 6 _ rfl
      have x7 := hx4.cell 7 _ rfl
      have x8 := hx4.cell 8 _ rfl
      have x9 := hx4.cell 9 _ rfl
      have x10 := hx4.cell 10 _ rfl
      have y0 := r1.cell 0 _ rfl
      have y1 := r1.cell 1 _ rfl
      have y2 := r1.cell 2 _ rfl
      have y3 := r1.cell 3 _ rfl
      have y4 := r1.cell 4 _ rfl
      have y5 := r1.cell 5 _ rfl
      have y6 := r1.cell 6 _ rfl
      have y7 := r1.cell 7 _ rfl
      have y8 := r1.cell 8 _ rfl
      have y9 := r1.cell 9 _ rfl
      have f0 := r1.frozen 0
      have f1 := r1.frozen 1
      have f2 := r1.frozen 2
      have f3 := r1.frozen 3
      have f4 := r1.frozen 4
      have f5 := r1.frozen 5
      have f6 := r1.frozen 6
      have f7 := r1.frozen 7
      have f8 := r1.frozen 8
      have f9 := r1.frozen 9
      clear hx4 ho4 hm4 r1 hb4
      go_upto_region 10 with fail
      go_region
      generalize (((((((((((w4.setCell ⟨w.heap.size + 1, 0, none⟩ (.int .i64 (RR).me)).setCell ⟨w.heap.size + 1, 1, none⟩ (.int .i64 (RR).kept.view)).setCell ⟨w.heap.size + 1, 2, none⟩ (.int .i64 (RR).kept.normal)).setCell ⟨w.heap.size + 1, 3, none⟩ (.bool (RR).kept.calm)).setCell ⟨w.heap.size + 1, 4, none⟩ (.slice al4 (RR).kept.log.length cl4)).setCell ⟨w.heap.size + 1, 5, none⟩ (.int .i64 (RR).kept.commit)).setCell ⟨w.heap.size + 1, 6, none⟩ (.slice ah4 (RR).hav.length ch4)).setCell ⟨w.heap.size + 1, 7, none⟩ (.slice aw4 (RR).wants.length cw4)).setCell ⟨w.heap.size + 1, 8, none⟩ (.slice ag4 (RR).gives.length cg4)).setCell ⟨w.heap.size + 1, 9, none⟩ (.slice an4 (RR).given.length cn4))).drew = w5 at HK5 ⊢
      have hR := HK5.out.1
      clear x0 x1 x2 x3 x4 x5 x6 x7 x8 x9 x10 y0 f0 y1 f1 y2 f2 y3 f3 y4 f4 y5 f5 y6 f6 y7 f7 y8 f8 y9 f9
      have y0 := hR.cell 0 _ rfl
      have y1 := hR.cell 1 _ rfl
      have y2 := hR.cell 2 _ rfl
      have y3 := hR.cell 3 _ rfl
      have y4 := hR.cell 4 _ rfl
      have y5 := hR.cell 5 _ rfl
      have y6 := hR.cell 6 _ rfl
      have y7 := hR.cell 7 _ rfl
      have y8 := hR.cell 8 _ rfl
      have y9 := hR.cell 9 _ rfl
      clear hR
      go_wp2_with fail
      exact bodyPost_ret (v := .tuple #[.agg #[.int .i64 (RR).me, .int .i64 (RR).kept.view, .int .i64 (RR).kept.normal, .bool (RR).kept.calm, .slice al4 (RR).kept.log.length cl4, .int .i64 (RR).kept.commit, .slice ah4 (RR).hav.length ch4, .slice aw4 (RR).wants.length cw4, .slice ag4 (RR).gives.length cg4, .slice an4 (RR).given.length cn4], .slice as4 LL.length cs4, .int .i64 0]) (by clear HK5; simp [results, Try.results14, go_sem, *]) rfl ⟨_, _, rfl, HK5.out.2⟩
    · have hl' : leads R = false := by simpa using hl
      by_cases hc : R.kept.calm = true
      · have HRL : Hid (RR = R ∧ LL = [hasMsg R (R.kept.view.tmod 3)]) := by
          unfold Hid
          rw [HER.out.1, HER.out.2]
          unfold tickR' tickL'
          rw [if_pos hc, if_neg hl, if_pos hc]
          exact ⟨rfl, rfl⟩
        rw [hl']
        rw [hc] at z3'
        clear HER
        go_wp2_with fail
        refine (tellHas_any _ _ R [] w3' HT3'.out (by simp) (by have := HS3.out; omega)).mono ?_
        rintro e w4 ⟨rfl, ht4, hb4⟩
        have ht4 : TurnAt w4 w2.heap.size (w.heap.size + 2) RR LL := by rw [HRL.out.1, HRL.out.2]; exact ht4
        clear z3'
        obtain ⟨vl4, vh4, vw4, vg4, vn4, vs4, ps4, hx4, ho4, hm4⟩ := ht4
        obtain ⟨al4, cl4, ah4, ch4, aw4, cw4, ag4, cg4, an4, cn4, rfl, rfl, rfl, rfl, rfl⟩ := ho4.forms
        obtain ⟨as4, cs4, rfl⟩ := hm4.form
        have r1 := HQ1.out.beside hb4 (by omega) (by have := HS3.out; omega)
        have HK5 : Hid _ := turn_out (w := w) ho4 hm4 r1 rfl (by omega) (by omega) (HBB.out.trans (hb4.below (by omega) (by have := HS3.out; omega))) _ rfl
        simp only [setAll] at HK5
        have ne4 : ¬ w2.heap.size = w.heap.size + 1 := by have := HS3.out; omega
        have ne5 : ¬ w.heap.size + 1 = w2.heap.size := by have := HS3.out; omega
        have x0 := hx4.cell 0 _ rfl
        have x1 := hx4.cell 1 _ rfl
        have x2 := hx4.cell 2 _ rfl
        have x3 := hx4.cell 3 _ rfl
        have x4 := hx4.cell 4 _ rfl
        have x5 := hx4.cell 5 _ rfl
        have x6 := hx4.cell 6 _ rfl
        have x7 := hx4.cell 7 _ rfl
        have x8 := hx4.cell 8 _ rfl
        have x9 := hx4.cell 9 _ rfl
        have x10 := hx4.cell 10 _ rfl
        have y0 := r1.cell 0 _ rfl
        have y1 := r1.cell 1 _ rfl
        have y2 := r1.cell 2 _ rfl
        have y3 := r1.cell 3 _ rfl
        have y4 := r1.cell 4 _ rfl
        have y5 := r1.cell 5 _ rfl
        have y6 := r1.cell 6 _ rfl
        have y7 := r1.cell 7 _ rfl
        have y8 := r1.cell 8 _ rfl
        have y9 := r1.cell 9 _ rfl
        have f0 := r1.frozen 0
        have f1 := r1.frozen 1
        have f2 := r1.frozen 2
        have f3 := r1.frozen 3
        have f4 := r1.frozen 4
        have f5 := r1.frozen 5
        have f6 := r1.frozen 6
        have f7 := r1.frozen 7
        have f8 := r1.frozen 8
        have f9 := r1.frozen 9
        clear hx4 ho4 hm4 r1 hb4
        go_upto_region 10 with fail
        go_region
        generalize (((((((((((w4.setCell ⟨w.heap.size + 1, 0, none⟩ (.int .i64 (RR).me)).setCell ⟨w.heap.size + 1, 1, none⟩ (.int .i64 (RR).kept.view)).setCell ⟨w.heap.size + 1, 2, none⟩ (.int .i64 (RR).kept.normal)).setCell ⟨w.heap.size + 1, 3, none⟩ (.bool (RR).kept.calm)).setCell ⟨w.heap.size + 1, 4, none⟩ (.slice al4 (RR).kept.log.length cl4)).setCell ⟨w.heap.size + 1, 5, none⟩ (.int .i64 (RR).kept.commit)).setCell ⟨w.heap.size + 1, 6, none⟩ (.slice ah4 (RR).hav.length ch4)).setCell ⟨w.heap.size + 1, 7, none⟩ (.slice aw4 (RR).wants.length cw4)).setCell ⟨w.heap.size + 1, 8, none⟩ (.slice ag4 (RR).gives.length cg4)).setCell ⟨w.heap.size + 1, 9, none⟩ (.slice an4 (RR).given.length cn4))).drew = w5 at HK5 ⊢
        have hR := HK5.out.1
        clear x0 x1 x2 x3 x4 x5 x6 x7 x8 x9 x10 y0 f0 y1 f1 y2 f2 y3 f3 y4 f4 y5 f5 y6 f6 y7 f7 y8 f8 y9 f9
        have y0 := hR.cell 0 _ rfl
        have y1 := hR.cell 1 _ rfl
        have y2 := hR.cell 2 _ rfl
        have y3 := hR.cell 3 _ rfl
        have y4 := hR.cell 4 _ rfl
        have y5 := hR.cell 5 _ rfl
        have y6 := hR.cell 6 _ rfl
        have y7 := hR.cell 7 _ rfl
        have y8 := hR.cell 8 _ rfl
        have y9 := hR.cell 9 _ rfl
        clear hR
        go_wp2_with fail
        exact bodyPost_ret (v := .tuple #[.agg #[.int .i64 (RR).me, .int .i64 (RR).kept.view, .int .i64 (RR).kept.normal, .bool (RR).kept.calm, .slice al4 (RR).kept.log.length cl4, .int .i64 (RR).kept.commit, .slice ah4 (RR).hav.length ch4, .slice aw4 (RR).wants.length cw4, .slice ag4 (RR).gives.length cg4, .slice an4 (RR).given.length cn4], .slice as4 LL.length cs4, .int .i64 0]) (by clear HK5; simp [results, Try.results14, go_sem, *]) rfl ⟨_, _, rfl, HK5.out.2⟩
      · have hc' : R.kept.calm = false := by simpa using hc
        have HRL : Hid (RR = ⟨R.me, R.kept, R.hav, R.wants.set R.me.toNat true, R.gives, R.given⟩ ∧ LL = toAll R 3 0 []) := by
          unfold Hid
          rw [HER.out.1, HER.out.2]
          unfold tickR' tickL'
          rw [if_neg hc, if_neg hl, if_neg hc]
          exact ⟨rfl, rfl⟩
        rw [hl']
        rw [hc'] at z3'
        clear HER
        go_wp2_with fail
        refine (tellWant_any _ _ R [] w3' HT3'.out hm0 (by rw [HW3.out]; exact hm1) (by simp) (by have := HS3.out; omega)).mono ?_
        rintro e w4 ⟨rfl, ht4, hb4, _⟩
        have ht4 : TurnAt w4 w2.heap.size (w.heap.size + 2) RR LL := by rw [HRL.out.1, HRL.out.2]; exact ht4
        clear z3'
        obtain ⟨vl4, vh4, vw4, vg4, vn4, vs4, ps4, hx4, ho4, hm4⟩ := ht4
        obtain ⟨al4, cl4, ah4, ch4, aw4, cw4, ag4, cg4, an4, cn4, rfl, rfl, rfl, rfl, rfl⟩ := ho4.forms
        obtain ⟨as4, cs4, rfl⟩ := hm4.form
        have r1 := HQ1.out.beside hb4 (by omega) (by have := HS3.out; omega)
        have HK5 : Hid _ := turn_out (w := w) ho4 hm4 r1 rfl (by omega) (by omega) (HBB.out.trans (hb4.below (by omega) (by have := HS3.out; omega))) _ rfl
        simp only [setAll] at HK5
        have ne4 : ¬ w2.heap.size = w.heap.size + 1 := by have := HS3.out; omega
        have ne5 : ¬ w.heap.size + 1 = w2.heap.size := by have := HS3.out; omega
        have x0 := hx4.cell 0 _ rfl
        have x1 := hx4.cell 1 _ rfl
        have x2 := hx4.cell 2 _ rfl
        have x3 := hx4.cell 3 _ rfl
        have x4 := hx4.cell 4 _ rfl
        have x5 := hx4.cell 5 _ rfl
        have x6 := hx4.cell 6 _ rfl
        have x7 := hx4.cell 7 _ rfl
        have x8 := hx4.cell 8 _ rfl
        have x9 := hx4.cell 9 _ rfl
        have x10 := hx4.cell 10 _ rfl
        have y0 := r1.cell 0 _ rfl
        have y1 := r1.cell 1 _ rfl
        have y2 := r1.cell 2 _ rfl
        have y3 := r1.cell 3 _ rfl
        have y4 := r1.cell 4 _ rfl
        have y5 := r1.cell 5 _ rfl
        have y6 := r1.cell 6 _ rfl
        have y7 := r1.cell 7 _ rfl
        have y8 := r1.cell 8 _ rfl
        have y9 := r1.cell 9 _ rfl
        have f0 := r1.frozen 0
        have f1 := r1.frozen 1
        have f2 := r1.frozen 2
        have f3 := r1.frozen 3
        have f4 := r1.frozen 4
        have f5 := r1.frozen 5
        have f6 := r1.frozen 6
        have f7 := r1.frozen 7
        have f8 := r1.frozen 8
        have f9 := r1.frozen 9
        clear hx4 ho4 hm4 r1 hb4
        go_upto_region 10 with fail
        go_region
        generalize (((((((((((w4.setCell ⟨w.heap.size + 1, 0, none⟩ (.int .i64 (RR).me)).setCell ⟨w.heap.size + 1, 1, none⟩ (.int .i64 (RR).kept.view)).setCell ⟨w.heap.size + 1, 2, none⟩ (.int .i64 (RR).kept.normal)).setCell ⟨w.heap.size + 1, 3, none⟩ (.bool (RR).kept.calm)).setCell ⟨w.heap.size + 1, 4, none⟩ (.slice al4 (RR).kept.log.length cl4)).setCell ⟨w.heap.size + 1, 5, none⟩ (.int .i64 (RR).kept.commit)).setCell ⟨w.heap.size + 1, 6, none⟩ (.slice ah4 (RR).hav.length ch4)).setCell ⟨w.heap.size + 1, 7, none⟩ (.slice aw4 (RR).wants.length cw4)).setCell ⟨w.heap.size + 1, 8, none⟩ (.slice ag4 (RR).gives.length cg4)).setCell ⟨w.heap.size + 1, 9, none⟩ (.slice an4 (RR).given.length cn4))).drew = w5 at HK5 ⊢
        have hR := HK5.out.1
        clear x0 x1 x2 x3 x4 x5 x6 x7 x8 x9 x10 y0 f0 y1 f1 y2 f2 y3 f3 y4 f4 y5 f5 y6 f6 y7 f7 y8 f8 y9 f9
        have y0 := hR.cell 0 _ rfl
        have y1 := hR.cell 1 _ rfl
        have y2 := hR.cell 2 _ rfl
        have y3 := hR.cell 3 _ rfl
        have y4 := hR.cell 4 _ rfl
        have y5 := hR.cell 5 _ rfl
        have y6 := hR.cell 6 _ rfl
        have y7 := hR.cell 7 _ rfl
        have y8 := hR.cell 8 _ rfl
        have y9 := hR.cell 9 _ rfl
        clear hR
        go_wp2_with fail
        exact bodyPost_ret (v := .tuple #[.agg #[.int .i64 (RR).me, .int .i64 (RR).kept.view, .int .i64 (RR).kept.normal, .bool (RR).kept.calm, .slice al4 (RR).kept.log.length cl4, .int .i64 (RR).kept.commit, .slice ah4 (RR).hav.length ch4, .slice aw4 (RR).wants.length cw4, .slice ag4 (RR).gives.length cg4, .slice an4 (RR).given.length cn4], .slice as4 LL.length cs4, .int .i64 0]) (by clear HK5; simp [results, Try.results14, go_sem, *]) rfl ⟨_, _, rfl, HK5.out.2⟩
  · obtain ⟨e1, e2, e3⟩ := N1.out hE
    subst e2 e3
    have hEE : ¬ EE = 0 := by rw [e1]; exact hE
    rw [← e1]
    clear N1 N2 HD e1 hE HME HWL
    go_wp2_with fail
    have key : ∀ w4, w4 = setAll w1 (w.heap.size + 1) 0 [.int .i64 0, .int .i64 0, .int .i64 0, .bool false, .slice none 0 0, .int .i64 0, .slice none 0 0, .slice none 0 0, .slice none 0 0, .slice none 0 0] → Hid (Box w4 (w.heap.size + 1) 29 [.int .i64 0, .int .i64 0, .int .i64 0, .bool false, .slice none 0 0, .int .i64 0, .slice none 0 0, .slice none 0 0, .slice none 0 0, .slice none 0 0] ∧ Below w.heap.size w w4) := by
      intro w4 e4
      subst e4
      exact ⟨setAll_box HR1.out _ rfl, (setAll_beside _ _ _ _ (Beside.of HBE.out)).below (Nat.le_refl _) (by omega)⟩
    have key := key _ rfl
    simp only [setAll] at key
    generalize ((((((((((w1.setCell ⟨w.heap.size + 1, 0, none⟩ (.int .i64 0)).setCell ⟨w.heap.size + 1, 1, none⟩ (.int .i64 0)).setCell ⟨w.heap.size + 1, 2, none⟩ (.int .i64 0)).setCell ⟨w.heap.size + 1, 3, none⟩ (.bool false)).setCell ⟨w.heap.size + 1, 4, none⟩ (.slice none 0 0)).setCell ⟨w.heap.size + 1, 5, none⟩ (.int .i64 0)).setCell ⟨w.heap.size + 1, 6, none⟩ (.slice none 0 0)).setCell ⟨w.heap.size + 1, 7, none⟩ (.slice none 0 0)).setCell ⟨w.heap.size + 1, 8, none⟩ (.slice none 0 0)).setCell ⟨w.heap.size + 1, 9, none⟩ (.slice none 0 0)) = w4 at key ⊢
    clear y0 y1 y2 y3 y4 y5 y6 y7 y8 y9 f0 f1 f2 f3 f4 f5 f6 f7 f8 f9
    have hR := key.out.1
    have y0 := hR.cell 0 _ rfl
    have y1 := hR.cell 1 _ rfl
    have y2 := hR.cell 2 _ rfl
    have y3 := hR.cell 3 _ rfl
    have y4 := hR.cell 4 _ rfl
    have y5 := hR.cell 5 _ rfl
    have y6 := hR.cell 6 _ rfl
    have y7 := hR.cell 7 _ rfl
    have y8 := hR.cell 8 _ rfl
    have y9 := hR.cell 9 _ rfl
    clear hR
    exact bodyPost_ret (v := .tuple #[.agg #[.int .i64 0, .int .i64 0, .int .i64 0, .bool false, .slice none 0 0, .int .i64 0, .slice none 0 0, .slice none 0 0, .slice none 0 0, .slice none 0 0], .slice none 0 0, .int .i64 EE]) (by clear key HR1 HBE; simp [results, Try.results14, go_sem, *]) rfl ⟨_, _, rfl, replNil _ _, msgsNil _ _, key.out.2⟩

end Go.Proofs.Ytmdgkjbiicaljag
