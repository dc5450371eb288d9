/- The document's AlarmedOf. -/
import Derived.Test.YtmdgkjbiicaljagJointWantRef
import Derived.Test.YtmdgkjbiicaljagJointRegLast
import Derived.Test.YtmdgkjbiicaljagCopyRef
import Derived.Test.YtmdgkjbiicaljagRegFree
namespace Go.Proofs.Ytmdgkjbiicaljag
open Go.RowKit
set_option linter.unusedVariables false
set_option linter.unusedSimpArgs false

theorem turn_out0 {w w4 : World} {B r : Nat} {R : ReplM} {L : List MsgM} {vl vh vw vg vn vs : Value} {ps : List (KeptM × Value)} {cs : List Value} (ho : ReplOwn w4 B R vl vh vw vg vn ps) (hm : MsgsNew w4 B vs L) (hr : Box w4 r 29 cs) (hl : cs.length = 10) (hB : w.heap.size ≤ B) (hrw : w.heap.size ≤ r) (hbel : Below w.heap.size w w4)
    (w5 : World) (hw : w5 = setAll w4 r 0 [.int .i64 R.me, .int .i64 R.kept.view, .int .i64 R.kept.normal, .bool R.kept.calm, vl, .int .i64 R.kept.commit, vh, vw, vg, vn]) :
    Hid (Box w5 r 29 [.int .i64 R.me, .int .i64 R.kept.view, .int .i64 R.kept.normal, .bool R.kept.calm, vl, .int .i64 R.kept.commit, vh, vw, vg, vn] ∧
      ReplNew w5 w.heap.size (.agg #[.int .i64 R.me, .int .i64 R.kept.view, .int .i64 R.kept.normal, .bool R.kept.calm, vl, .int .i64 R.kept.commit, vh, vw, vg, vn]) R ∧ MsgsNew w5 w.heap.size vs L ∧ Below w.heap.size w w5) := by
  obtain ⟨h1, h2, h3, h4⟩ := (turn_out ho hm hr hl hB hrw hbel w5 hw).out
  exact ⟨h1, h2, h3, ⟨h4.os, h4.tape, h4.output, h4.size, h4.block⟩⟩

set_option maxRecDepth 4000 in
set_option maxHeartbeats 4000000 in
theorem alarmedOf_any (R : ReplM) (v : Value) (w : World) (h : ReplAt w v R) (hf : ReplFits R) :
    Calls Try.prog 17 #[v] w fun e w' => Answers w e w' (alarmR R) (alarmL R) (alarmE R) := by
  have HC : Hid (∀ W, Below w.heap.size w W → Calls _ _ _ W _) := fun W hW => replFaultOf_any R _ W (h.below hW)
  have HD : Hid (∀ W, Below w.heap.size w W → Calls _ _ _ W _) := fun W hW => replicaCopyOf_any R _ W (h.below hW) hf
  have HME : Hid (replFault R = 0 → (0 ≤ R.me ∧ R.me < 3) ∧ 0 ≤ R.kept.view ∧ R.kept.view ≤ 1048576) := repl_me R
  have N1 : Hid (¬ replFault R = 0 → alarmE R = replFault R ∧ alarmR R = zeroRepl ∧ alarmL R = []) := fun hE => by
    have eE : alarmE R = replFault R := by unfold alarmE; rw [if_pos hE]
    exact ⟨eE, by unfold alarmR; rw [eE, if_neg hE], by unfold alarmL; rw [eE, if_neg hE]⟩
  have N2 : Hid (replFault R = 0 → 1048576 ≤ R.kept.view → alarmE R = 7 ∧ alarmR R = zeroRepl ∧ alarmL R = []) := fun hE hv => by
    have eE : alarmE R = 7 := by unfold alarmE; rw [if_neg (by simpa using hE), if_pos (by omega)]
    exact ⟨eE, by unfold alarmR; rw [eE]; rfl, by unfold alarmL; rw [eE]; rfl⟩
  have N3 : Hid (replFault R = 0 → R.kept.view < 1048576 → alarmE R = 0 ∧ alarmR R = wantR R (R.kept.view + 1) ∧ alarmL R = wantL R (R.kept.view + 1)) := fun hE hv => by
    have eE : alarmE R = 0 := by unfold alarmE; rw [if_neg (by simpa using hE), if_neg (by omega)]
    exact ⟨eE, by unfold alarmR; rw [eE]; rfl, by unfold alarmL; rw [eE]; rfl⟩
  generalize alarmE R = EE at *
  generalize alarmR R = RR at *
  generalize alarmL R = LL at *
  obtain ⟨vl, vh, vw, vg, vn, rfl, hl, hh, hw, hg, hn⟩ := h
  obtain ⟨al, cl, rfl, _, _⟩ := hl
  obtain ⟨ah, ch, rfl, _, _⟩ := hh
  obtain ⟨aw, cw, rfl, _, _⟩ := hw
  obtain ⟨ag, cg, rfl, _, _⟩ := hg
  obtain ⟨an, cn, rfl, _, _⟩ := hn
  simp only [replCells] at *
  obtain ⟨b0, b1, hb⟩ := boxes2 w 29 29 [.int .i64 R.me, .int .i64 R.kept.view, .int .i64 R.kept.normal, .bool R.kept.calm, .slice al R.kept.log.length cl, .int .i64 R.kept.commit, .slice ah R.hav.length ch, .slice aw R.wants.length cw, .slice ag R.gives.length cg, .slice an R.given.length cn] [.int .i64 0, .int .i64 0, .int .i64 0, .bool false, .slice none 0 0, .int .i64 0, .slice none 0 0, .slice none 0 0, .slice none 0 0, .slice none 0 0]
  obtain ⟨w0, hw0⟩ : ∃ w0, w0 = (w.alloc (.cells #[.int .i64 R.me, .int .i64 R.kept.view, .int .i64 R.kept.normal, .bool R.kept.calm, .slice al R.kept.log.length cl, .int .i64 R.kept.commit, .slice ah R.hav.length ch, .slice aw R.wants.length cw, .slice ag R.gives.length cg, .slice an R.given.length cn] 29)).alloc (.cells #[.int .i64 0, .int .i64 0, .int .i64 0, .bool false, .slice none 0 0, .int .i64 0, .slice none 0 0, .slice none 0 0, .slice none 0 0, .slice none 0 0] 29) := ⟨_, rfl⟩
  have hsz : w0.heap.size = w.heap.size + 1 + 1 := by rw [hw0]; simp
  go_enter Try.func17, Try.ntmps17
  go_upto_region 1 with fail
  rw [← hw0] at b0 b1 hb ⊢
  clear hw0
  have HB0 : Hid (Box w0 w.heap.size _ _) := b0
  have HB1 : Hid (Box w0 (w.heap.size + 1) _ _) := b1
  have HBW : Hid (Below w.heap.size w w0) := hb
  have HSZ : Hid (w0.heap.size = w.heap.size + 1 + 1) := hsz
  have x0 := b0.cell 0 _ rfl
  have x1 := b0.cell 1 _ rfl
  have x2 := b0.cell 2 _ rfl
  have x3 := b0.cell 3 _ rfl
  have x4 := b0.cell 4 _ rfl
  have x5 := b0.cell 5 _ rfl
  have x6 := b0.cell 6 _ rfl
  have x7 := b0.cell 7 _ rfl
  have x8 := b0.cell 8 _ rfl
  have x9 := b0.cell 9 _ rfl
  clear b0 b1 hb hsz
  go_upto_region 1 with fail
  go_wp2_with fail
  refine (HC.out _ HBW.out).mono ?_
  rintro e w1 ⟨rfl, hb1⟩
  have HB2 : Hid (Below w0.heap.size w0 w1) := hb1
  have r0 := HB0.out.below hb1 HB0.out.lt
  have r1 := HB1.out.below hb1 HB1.out.lt
  clear hb1 x0 x1 x2 x3 x4 x5 x6 x7 x8 x9 HC
  have x0 := r0.cell 0 _ rfl
  have x1 := r0.cell 1 _ rfl
  have x2 := r0.cell 2 _ rfl
  have x3 := r0.cell 3 _ rfl
  have x4 := r0.cell 4 _ rfl
  have x5 := r0.cell 5 _ rfl
  have x6 := r0.cell 6 _ rfl
  have x7 := r0.cell 7 _ rfl
  have x8 := r0.cell 8 _ rfl
  have x9 := r0.cell 9 _ rfl
  have y0 := r1.cell 0 _ rfl
  have y1 := r1.cell 1 _ rfl
  have y2 := r1.cell 2 _ rfl
  have y3 := r1.cell 3 _ rfl
  have y4 := r1.cell 4 _ rfl
  have y5 := r1.cell 5 _ rfl
  have y6 := r1.cell 6 _ rfl
  have y7 := r1.cell 7 _ rfl
  have y8 := r1.cell 8 _ rfl
  have y9 := r1.cell 9 _ rfl
  have f0 := r1.frozen 0
  have f1 := r1.frozen 1
  have f2 := r1.frozen 2
  have f3 := r1.frozen 3
  have f4 := r1.frozen 4
  have f5 := r1.frozen 5
  have f6 := r1.frozen 6
  have f7 := r1.frozen 7
  have f8 := r1.frozen 8
  have f9 := r1.frozen 9
  have HR1 : Hid (Box w1 (w.heap.size + 1) _ _) := r1
  have HR0 : Hid (Box w1 w.heap.size _ _) := r0
  have HBE : Hid (Below w.heap.size w w1) := Below.far HBW.out HB2.out
  clear r0 r1
  have HFT : Hid (ReplFits R) := hf
  clear hf
  by_cases hE : replFault R = 0
  · by_cases hv : 1048576 ≤ R.kept.view
    · obtain ⟨e1, e2, e3⟩ := N2.out hE hv
      subst e1 e2 e3
      rw [hE]
      clear N1 N2 N3 HD
      go_wp2_with fail
      have key : ∀ w4, w4 = setAll w1 (w.heap.size + 1) 0 [.int .i64 0, .int .i64 0, .int .i64 0, .bool false, .slice none 0 0, .int .i64 0, .slice none 0 0, .slice none 0 0, .slice none 0 0, .slice none 0 0] → Hid (Box w4 (w.heap.size + 1) 29 [.int .i64 0, .int .i64 0, .int .i64 0, .bool false, .slice none 0 0, .int .i64 0, .slice none 0 0, .slice none 0 0, .slice none 0 0, .slice none 0 0] ∧ Below w.heap.size w w4) := by
        intro w4 e4
        subst e4
        exact ⟨setAll_box HR1.out _ rfl, (setAll_beside _ _ _ _ (Beside.of HBE.out)).below (Nat.le_refl _) (by omega)⟩
      have key := key _ rfl
      simp only [setAll] at key
      generalize ((((((((((w1.setCell ⟨w.heap.size + 1, 0, none⟩ (.int .i64 0)).setCell ⟨w.heap.size + 1, 1, none⟩ (.int .i64 0)).setCell ⟨w.heap.size + 1, 2, none⟩ (.int .i64 0)).setCell ⟨w.heap.size + 1, 3, none⟩ (.bool false)).setCell ⟨w.heap.size + 1, 4, none⟩ (.slice none 0 0)).setCell ⟨w.heap.size + 1, 5, none⟩ (.int .i64 0)).setCell ⟨w.heap.size + 1, 6, none⟩ (.slice none 0 0)).setCell ⟨w.heap.size + 1, 7, none⟩ (.slice none 0 0)).setCell ⟨w.heap.size + 1, 8, none⟩ (.slice none 0 0)).setCell ⟨w.heap.size + 1, 9, none⟩ (.slice none 0 0)) = w4 at key ⊢
      clear y0 y1 y2 y3 y4 y5 y6 y7 y8 y9 f0 f1 f2 f3 f4 f5 f6 f7 f8 f9
      have hR := key.out.1
      have y0 := hR.cell 0 _ rfl
      have y1 := hR.cell 1 _ rfl
      have y2 := hR.cell 2 _ rfl
      have y3 := hR.cell 3 _ rfl
      have y4 := hR.cell 4 _ rfl
      have y5 := hR.cell 5 _ rfl
      have y6 := hR.cell 6 _ rfl
      have y7 := hR.cell 7 _ rfl
      have y8 := hR.cell 8 _ rfl
      have y9 := hR.cell 9 _ rfl
      clear hR
      exact bodyPost_ret (v := .tuple #[.agg #[.int .i64 0, .int .i64 0, .int .i64 0, .bool false, .slice none 0 0, .int .i64 0, .slice none 0 0, .slice none 0 0, .slice none 0 0, .slice none 0 0], .slice none 0 0, .int .i64 7]) (by clear key HR1 HBE; simp [results, Try.results17, go_sem, *]) rfl ⟨_, _, rfl, replNil _ _, msgsNil _ _, key.out.2⟩
    · obtain ⟨e1, e2, e3⟩ := N3.out hE (by omega)
      subst e1
      have HER : Hid (RR = wantR R (R.kept.view + 1) ∧ LL = wantL R (R.kept.view + 1)) := ⟨e2, e3⟩
      clear e2 e3
      obtain ⟨⟨hm0, hm1⟩, hv0, hv1⟩ := HME.out hE
      rw [hE]
      clear N1 N2 N3 HME y0 y1 y2 y3 y4 y5 y6 y7 y8 y9 f0 f1 f2 f3 f4 f5 f6 f7 f8 f9
      go_wp2_with fail
      refine (HD.out _ HBE.out).mono ?_
      rintro e w2 ⟨v2, rfl, ⟨vl2, vh2, vw2, vg2, vn2, ps2, rfl, ho2⟩, hb2⟩
      obtain ⟨al2, cl2, ah2, ch2, aw2, cw2, ag2, cg2, an2, cn2, rfl, rfl, rfl, rfl, rfl⟩ := ho2.forms
      simp only [replCells]
      have r0 := HR0.out.below hb2 HR0.out.lt
      have r1 := HR1.out.below hb2 HR1.out.lt
      have hq := Box.new w2 29 [.int .i64 R.me, .int .i64 R.kept.view, .int .i64 R.kept.normal, .bool R.kept.calm, .slice al2 R.kept.log.length cl2, .int .i64 R.kept.commit, .slice ah2 R.hav.length ch2, .slice aw2 R.wants.length cw2, .slice ag2 R.gives.length cg2, .slice an2 R.given.length cn2]
      have hb3 := below_alloc w2 (.cells #[.int .i64 R.me, .int .i64 R.kept.view, .int .i64 R.kept.normal, .bool R.kept.calm, .slice al2 R.kept.log.length cl2, .int .i64 R.kept.commit, .slice ah2 R.hav.length ch2, .slice aw2 R.wants.length cw2, .slice ag2 R.gives.length cg2, .slice an2 R.given.length cn2] 29)
      obtain ⟨w3, hw3⟩ : ∃ w3, w3 = w2.alloc (.cells #[.int .i64 R.me, .int .i64 R.kept.view, .int .i64 R.kept.normal, .bool R.kept.calm, .slice al2 R.kept.log.length cl2, .int .i64 R.kept.commit, .slice ah2 R.hav.length ch2, .slice aw2 R.wants.length cw2, .slice ag2 R.gives.length cg2, .slice an2 R.given.length cn2] 29) := ⟨_, rfl⟩
      have hs3 : w3.heap.size = w2.heap.size + 1 := by rw [hw3]; simp
      have hs0 := HSZ.out
      have hs1 := HB2.out.size
      have hs2 := hb2.size
      clear x0 x1 x2 x3 x4 x5 x6 x7 x8 x9 HD
      go_upto_region 7 with fail
      rw [← hw3] at hq hb3 ⊢
      clear hw3
      have hx3 := r0.below hb3 (by omega)
      have x0 := hx3.cell 0 _ rfl
      have x1 := hx3.cell 1 _ rfl
      have HT3 : Hid (HeldAt w3 w2.heap.size (w.heap.size + 2) R) := ⟨_, _, _, _, _, _, hq, (ho2.below hb3).base (by omega)⟩
      have HBB : Hid (Below w.heap.size w w3) := Below.far (Below.far HBE.out hb2) hb3
      have HQ1 : Hid (Box w3 (w.heap.size + 1) _ _) := r1.below hb3 (by omega)
      have HS3 : Hid (w.heap.size + 2 ≤ w2.heap.size ∧ w3.heap.size = w2.heap.size + 1) := ⟨by omega, hs3⟩
      clear hx3 r0 r1 hq hb3 hb2 ho2 hs0 hs1 hs2 hs3
      go_wp2_with fail
      refine (wantedOf_any _ _ R _ w3 HT3.out hm0 hm1 (by have := HS3.out; omega)).mono ?_
      rintro e w4 ⟨v4, rfl, ⟨vl4, vh4, vw4, vg4, vn4, ps4, hx4, ho4⟩, hm4, hb4⟩
      rw [← HER.out.1] at hx4 ho4
      rw [← HER.out.2] at hm4
      have hm4 := hm4.base (B' := w.heap.size + 2) (by have := HS3.out; omega)
      clear x0 x1
      obtain ⟨al4, cl4, ah4, ch4, aw4, cw4, ag4, cg4, an4, cn4, rfl, rfl, rfl, rfl, rfl⟩ := ho4.forms
      obtain ⟨as4, cs4, rfl⟩ := hm4.form
      have r1 := HQ1.out.beside hb4 (by omega) (by have := HS3.out; omega)
      have HK5 : Hid _ := turn_out0 (w := w) ho4 hm4 r1 rfl (by omega) (by omega) (HBB.out.trans (hb4.below (by omega) (by have := HS3.out; omega))) _ rfl
      simp only [setAll] at HK5
      have ne4 : ¬ w2.heap.size = w.heap.size + 1 := by have := HS3.out; omega
      have ne5 : ¬ w.heap.size + 1 = w2.heap.size := by have := HS3.out; omega
      have x0 := hx4.cell 0 _ rfl
      have x1 := hx4.cell 1 _ rfl
      have x2 := hx4.cell 2 _ rfl
      have x3 := hx4.cell 3 _ rfl
      have x4 := hx4.cell 4 _ rfl
      have x5 := hx4.cell 5 _ rfl
      have x6 := hx4.cell 6 _ rfl
      have x7 := hx4.cell 7 _ rfl
      have x8 := hx4.cell 8 _ rfl
      have x9 := hx4.cell 9 _ rfl
      have y0 := r1.cell 0 _ rfl
      have y1 := r1.cell 1 _ rfl
      have y2 := r1.cell 2 _ rfl
      have y3 := r1.cell 3 _ rfl
      have y4 := r1.cell 4 _ rfl
      have y5 := r1.cell 5 _ rfl
      have y6 := r1.cell 6 _ rfl
      have y7 := r1.cell 7 _ rfl
      have y8 := r1.cell 8 _ rfl
      have y9 := r1.cell 9 _ rfl
      have f0 := r1.frozen 0
      have f1 := r1.frozen 1
      have f2 := r1.frozen 2
      have f3 := r1.frozen 3
      have f4 := r1.frozen 4
      have f5 := r1.frozen 5
      have f6 := r1.frozen 6
      have f7 := r1.frozen 7
      have f8 := r1.frozen 8
      have f9 := r1.frozen 9
      clear hx4 ho4 hm4 r1 hb4
      go_upto_region 8 with fail
      go_wp2_with fail
      generalize (((((((((((w4.setCell ⟨w.heap.size + 1, 0, none⟩ (.int .i64 (RR).me)).setCell ⟨w.heap.size + 1, 1, none⟩ (.int .i64 (RR).kept.view)).setCell ⟨w.heap.size + 1, 2, none⟩ (.int .i64 (RR).kept.normal)).setCell ⟨w.heap.size + 1, 3, none⟩ (.bool (RR).kept.calm)).setCell ⟨w.heap.size + 1, 4, none⟩ (.slice al4 (RR).kept.log.length cl4)).setCell ⟨w.heap.size + 1, 5, none⟩ (.int .i64 (RR).kept.commit)).setCell ⟨w.heap.size + 1, 6, none⟩ (.slice ah4 (RR).hav.length ch4)).setCell ⟨w.heap.size + 1, 7, none⟩ (.slice aw4 (RR).wants.length cw4)).setCell ⟨w.heap.size + 1, 8, none⟩ (.slice ag4 (RR).gives.length cg4)).setCell ⟨w.heap.size + 1, 9, none⟩ (.slice an4 (RR).given.length cn4))) = w5 at HK5 ⊢
      have hR := HK5.out.1
      clear x0 x1 x2 x3 x4 x5 x6 x7 x8 x9 y0 f0 y1 f1 y2 f2 y3 f3 y4 f4 y5 f5 y6 f6 y7 f7 y8 f8 y9 f9
      have y0 := hR.cell 0 _ rfl
      have y1 := hR.cell 1 _ rfl
      have y2 := hR.cell 2 _ rfl
      have y3 := hR.cell 3 _ rfl
      have y4 := hR.cell 4 _ rfl
      have y5 := hR.cell 5 _ rfl
      have y6 := hR.cell 6 _ rfl
      have y7 := hR.cell 7 _ rfl
      have y8 := hR.cell 8 _ rfl
      have y9 := hR.cell 9 _ rfl
      clear hR
      exact bodyPost_ret (v := .tuple #[.agg #[.int .i64 (RR).me, .int .i64 (RR).kept.view, .int .i64 (RR).kept.normal, .bool (RR).kept.calm, .slice al4 (RR).kept.log.length cl4, .int .i64 (RR).kept.commit, .slice ah4 (RR).hav.length ch4, .slice aw4 (RR).wants.length cw4, .slice ag4 (RR).gives.length cg4, .slice an4 (RR).given.length cn4], .slice as4 LL.length cs4, .int .i64 0]) (by clear HK5; simp [results, Try.results17, go_sem, *]) rfl ⟨_, _, rfl, HK5.out.2⟩
  · obtain ⟨e1, e2, e3⟩ := N1.out hE
    subst e2 e3
    have hEE : ¬ EE = 0 := by rw [e1]; exact hE
    rw [← e1]
    clear N1 N2 N3 HD e1 hE HME
    go_wp2_with fail
    have key : ∀ w4, w4 = setAll w1 (w.heap.size + 1) 0 [.int .i64 0, .int .i64 0, .int .i64 0, .bool false, .slice none 0 0, .int .i64 0, .slice none 0 0, .slice none 0 0, .slice none 0 0, .slice none 0 0] → Hid (Box w4 (w.heap.size + 1) 29 [.int .i64 0, .int .i64 0, .int .i64 0, .bool false, .slice none 0 0, .int .i64 0, .slice none 0 0, .slice none 0 0, .slice none 0 0, .slice none 0 0] ∧ Below w.heap.size w w4) := by
      intro w4 e4
      subst e4
      exact ⟨setAll_box HR1.out _ rfl, (setAll_beside _ _ _ _ (Beside.of HBE.out)).below (Nat.le_refl _) (by omega)⟩
    have key := key _ rfl
    simp only [setAll] at key
    generalize ((((((((((w1.setCell ⟨w.heap.size + 1, 0, none⟩ (.int .i64 0)).setCell ⟨w.heap.size + 1, 1, none⟩ (.int .i64 0)).setCell ⟨w.heap.size + 1, 2, none⟩ (.int .i64 0)).setCell ⟨w.heap.size + 1, 3, none⟩ (.bool false)).setCell ⟨w.heap.size + 1, 4, none⟩ (.slice none 0 0)).setCell ⟨w.heap.size + 1, 5, none⟩ (.int .i64 0)).setCell ⟨w.heap.size + 1, 6, none⟩ (.slice none 0 0)).setCell ⟨w.heap.size + 1, 7, none⟩ (.slice none 0 0)).setCell ⟨w.heap.size + 1, 8, none⟩ (.slice none 0 0)).setCell ⟨w.heap.size + 1, 9, none⟩ (.slice none 0 0)) = w4 at key ⊢
    clear y0 y1 y2 y3 y4 y5 y6 y7 y8 y9 f0 f1 f2 f3 f4 f5 f6 f7 f8 f9
    have hR := key.out.1
    have y0 := hR.cell 0 _ rfl
    have y1 := hR.cell 1 _ rfl
    have y2 := hR.cell 2 _ rfl
    have y3 := hR.cell 3 _ rfl
    have y4 := hR.cell 4 _ rfl
    have y5 := hR.cell 5 _ rfl
    have y6 := hR.cell 6 _ rfl
    have y7 := hR.cell 7 _ rfl
    have y8 := hR.cell 8 _ rfl
    have y9 := hR.cell 9 _ rfl
    clear hR
    exact bodyPost_ret (v := .tuple #[.agg #[.int .i64 0, .int .i64 0, .int .i64 0, .bool false, .slice none 0 0, .int .i64 0, .slice none 0 0, .slice none 0 0, .slice none 0 0, .slice none 0 0], .slice none 0 0, .int .i64 EE]) (by clear key HR1 HBE; simp [results, Try.results17, go_sem, *]) rfl ⟨_, _, rfl, replNil _ _, msgsNil _ _, key.out.2⟩

end Go.Proofs.Ytmdgkjbiicaljag

/- A region that draws its order: operations that only read, two that write and wait not for one another, and then such as come one behind another. -/
namespace Go.Proofs.Ytmdgkjbiicaljag
open Go.RowKit
set_option linter.unusedVariables false
set_option linter.unusedSimpArgs false

section
variable {P : Program} {ops : Array Oper} {Q : Exit → Act → World → Prop} {C : World → Prop} {early : Nat → Bool}
/-- Two operations of which either may come first. -/
theorem wpAnyC_fork {K : Act → World → Prop} (t x y : Nat) {ox oy : Oper} (hox : ops[x]? = some ox) (hoy : ops[y]? = some oy) (hxy : x ≠ y) {listed : Array Bool} {a : Act} {w : World} (hc : Closed ops listed) (hr : Region.ready .any ops listed = [x, y])
    (hx : forcedB ops [y] (listed.setIfInBounds x true) = true) (hy : forcedB ops [x] (listed.setIfInBounds y true) = true) (ex : early x = true) (ey : early y = true)
    (hK : ∀ a w, Closed ops (setT listed [x, y]) → K a w → wpAnyC P ops Q C early t (setT listed [x, y]) a w)
    (h1 : wpEarly P ops Q C K [ox, oy] a w) (h2 : wpEarly P ops Q C K [oy, ox] a w) : wpAnyC P ops Q C early (2 + t) listed a w := by
  have hn : ∀ (o : Oper) a w (K1 : Act → World → Prop) (K2 : Act → World → Prop), o.wp P a w K1 (onNormal (calmQ Q) K2) → o.wp P a w K1 (calmQ Q) := fun o a w K1 K2 h => by
    unfold Oper.wp at h ⊢
    generalize (execOp a.eval o).run P w = r at h
    cases r with
    | ok n w' => cases n <;> exact h
    | halt x w' => exact h
  have one : ∀ (i j : Nat) (oi oj : Oper), ops[i]? = some oi → ops[j]? = some oj → i ∈ Region.ready .any ops listed → early j = true → forcedB ops [j] (listed.setIfInBounds i true) = true → setT (listed.setIfInBounds i true) [j] = setT listed [x, y] →
      wpEarly P ops Q C K [oi, oj] a w → wpOp P ops (calmQ Q) i (fun a' w' => C w' ∧ ∀ n, wpAnyC P ops Q C early (1 + t) (listed.setIfInBounds i true) a' (w'.drewN n)) a w := by
    intro i j oi oj hi hj hir ej hf hset h
    have step : ∀ (a2 : Act) (w2 : World), (C w2 ∧ ∀ m, wpEarly P ops Q C K [oj] a2 (w2.drewN m)) → C w2 ∧ ∀ m, wpAnyC P ops Q C early (1 + t) (listed.setIfInBounds i true) a2 (w2.drewN m) :=
      fun a2 w2 h2 => ⟨h2.1, fun m => by
        refine wpAnyC_early (K := K) t [j] _ a2 _ (hc.set hir) hf (fun k hk => ?_) (fun a3 w3 hc3 hk => ?_) ?_
        · obtain rfl : k = j := by simpa using hk
          exact ej
        · rw [hset] at hc3 ⊢
          exact hK a3 w3 hc3 hk
        · rw [List.filterMap_cons, hj]
          exact h2.2 m⟩
    simp only [wpEarly, wpList] at h
    unfold wpOp
    simp only [hi]
    split
    · rename_i hw
      simp only [hw, if_true] at h
      rcases h with h | h
      · exact Or.inl (Oper.wp_mono (fun a w h => step a w h) (hn _ _ _ _ _ h))
      · exact Or.inr ⟨h.1, h.2⟩
    · rename_i hw
      simp only [hw] at h
      exact step _ _ h
  rw [show 2 + t = (1 + t) + 1 by omega]
  refine ⟨fun e => (by rw [hr] at e; cases e), fun i hi => ?_⟩
  rw [hr] at hi
  have hi' : i = x ∨ i = y := by simpa using hi
  rcases hi' with rfl | rfl
  · rw [if_pos ex]
    exact one _ y ox oy hox hoy (by rw [hr]; simp) ey hx rfl h1
  · rw [if_pos ey]
    exact one _ x oy ox hoy hox (by rw [hr]; simp) ex hy (Array.setIfInBounds_comm _ _ (Ne.symm hxy)) h2

def forkB (n : Nat) (l : List Oper) (ph : List Nat) (x y : Nat) : Bool :=
  ((Region.noSelect l.toArray && aftersGo l 0) && (dstsIn n l && apartI l.toArray (places ph 0 0))) && (freeI l.toArray (places ph 0 0) (Array.replicate l.toArray.size false) &&
    (((List.range l.length).all fun s => ((places ph 0 0).contains s || (s == x || s == y)) || (places ph 0 0).all fun i => (cover l.toArray s (depsOf l.toArray s)).contains i) &&
    (((Region.ready .any l.toArray (setT (Array.replicate l.toArray.size false) (places ph 0 0)) == [x, y]) && (!(x == y) &&
      (forcedB l.toArray [y] ((setT (Array.replicate l.toArray.size false) (places ph 0 0)).setIfInBounds x true) && forcedB l.toArray [x] ((setT (Array.replicate l.toArray.size false) (places ph 0 0)).setIfInBounds y true)))) && (forcedB l.toArray (places ph 2 0) (setT (setT (Array.replicate l.toArray.size false) (places ph 0 0)) [x, y]) &&
      ((Region.ready .any l.toArray (setT (setT (setT (Array.replicate l.toArray.size false) (places ph 0 0)) [x, y]) (places ph 2 0))).isEmpty &&
      (((Region.ready .any l.toArray (setT (setT (Array.replicate l.toArray.size false) (places ph 0 0)) [x, y])).all fun i => !((places ph 0 0).contains i || (i == x || i == y))) && decide ((places ph 0 0).length + (2 + (places ph 2 0).length) ≤ l.toArray.size)))))))
/-- Phases: 0 those that only read, 2 the tail; x and y (phase 1) write, and either may come first. -/
theorem wp_region_fork {id : Nat} {a : Act} {w : World} {l : List Oper} (ph : List Nat) (x y : Nat) {ox oy : Oper} (hox : l[x]? = some ox) (hoy : l[y]? = some oy) (hm : P.follows .mixedOrders = true) (hB : forkB a.tmps.size l ph x y = true) (hl : LetsOut (calmQ Q) → LetsOut Q)
    (C : World → Prop) (hC : C w) (hCn : ∀ V n, C V → C (V.drewN n))
    (h : ∃ A : Act, (∀ V, C V → wpQuiet P l.toArray (fun w' => ∃ n, w' = V.drewN n) (fun a' => a' = A) (sel ph 0 l) a) ∧
    (∀ n, wpEarly P l.toArray Q C (wpList P l.toArray Q (sel ph 2 l)) [ox, oy] A (w.drewN n)) ∧ (∀ n, wpEarly P l.toArray Q C (wpList P l.toArray Q (sel ph 2 l)) [oy, ox] A (w.drewN n))) : (Code.region id l.toArray true).wp P Q a w := by
  simp only [forkB, Bool.and_eq_true, decide_eq_true_eq] at hB
  obtain ⟨A, h0, h1, h2⟩ := h
  obtain ⟨⟨⟨hs, hev⟩, hin, hap⟩, hf, hcv, ⟨hrd, hne, hx, hy⟩, ht, he, hno, hlen⟩ := hB
  have hrd : Region.ready .any l.toArray (setT (Array.replicate l.toArray.size false) (places ph 0 0)) = [x, y] := by simpa using hrd
  have hne : x ≠ y := by simpa using hne
  have sel0 : sel ph 0 l = (places ph 0 0).filterMap fun i => l.toArray[i]? := sel_places ph 0 0 l (fun j => by simp)
  rw [sel0] at h0
  refine wp_region_any hm (wpAny_up hlen (wpAny_of_C hl (C := C) (early := fun i => (places ph 0 0).contains i || (i == x || i == y)) _ _ _ _ ?_))
  refine wpAnyC_list (Region.noSelect_spec hs) hCn A _ (places ph 0 0) _ a _ (hCn w 1 hC) (closed_start l) hf hap (fun i hi => by simp [hi]) (fun i hi s hs he => ?_) (fun i hi d hd => ?_) h0 fun n => ?_
  · have := List.all_eq_true.1 hcv s (List.mem_range.2 (by simpa using hs))
    rw [he, Bool.false_or] at this
    simpa using List.all_eq_true.1 this i hi
  · obtain ⟨o, ho, hd⟩ := Option.bind_eq_some_iff.1 hd
    have ho' : o ∈ l := List.mem_of_getElem? (by simpa using ho)
    have := List.all_eq_true.1 hin o ho'
    rw [hd] at this
    simpa using this
  · have hcl : Closed l.toArray (setT (Array.replicate l.toArray.size false) (places ph 0 0)) := by
      have go : ∀ (is : List Nat) (L : Array Bool), Closed l.toArray L → freeI l.toArray is L = true → Closed l.toArray (setT L is) := by
        intro is
        induction is with
        | nil => intro L hc _; exact hc
        | cons i is ih =>
          intro L hc hf
          simp only [freeI, Bool.and_eq_true] at hf
          exact ih _ (hc.set (by simpa using hf.1.1)) hf.2
      exact go _ _ (closed_start l) hf
    have e2 : World.drewN { w with drawn := w.drawn + 1 } n = w.drewN (1 + n) := World.drewN_drewN w 1 n
    rw [e2]
    refine wpAnyC_fork (K := wpList P l.toArray Q (sel ph 2 l)) _ x y (by simpa using hox) (by simpa using hoy) hne hcl hrd hx hy (by simp) (by simp) (fun a2 w2 hc2 hk => wpAnyC_of_any _ _ _ _ (fun i hi => ?_) ?_) (h1 (1 + n)) (h2 (1 + n))
    · have := List.all_eq_true.1 hno i hi
      simpa using this
    · exact wpAny_odd (K := Q .normal) (P := P) (Q := Q) ph 2 0 _ a2 w2 hc2 ht (fun a3 w3 _ hq => ⟨by simpa using he, hq⟩) (by rw [onNormal_self]; exact hk)
end

end Go.Proofs.Ytmdgkjbiicaljag
