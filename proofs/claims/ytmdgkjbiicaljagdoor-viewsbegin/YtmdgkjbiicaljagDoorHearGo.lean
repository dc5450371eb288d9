/- The program's own replica.Hear. -/
import Derived.Test.YtmdgkjbiicaljagDoorHearGv
import Derived.Test.YtmdgkjbiicaljagDoorReplStay
namespace Go.Proofs.YtmdgkjbiicaljagDoor
open Go.RowKit
set_option linter.unusedVariables false
set_option linter.unusedSimpArgs false

theorem sound_of {R : ReplM} (h : ReplMay R) (hf : ReplFits R) : Sound R := ⟨h.me0, by have := h.me1; omega, h.wl, h.gl, h.nl, hf⟩
theorem lead_frm {r : ReplM} {m : MsgM} (h : hearE r m = 0) (k1 : m.kind = 1) : m.frm = (leadR r m).kept.view.tmod 3 := by
  obtain ⟨h1, h2, h3, h4, h5⟩ := hearE_of r m h
  have e := leadR_calm r m
  rw [e.2, (leadK_view _ _ h4).1]
  have hf := h5
  unfold msgFault at hf
  rw [if_pos h2.kind] at hf
  split at hf
  · split at hf
    · rename_i hq
      unfold msgForm isHG at hq
      simp only [k1, Bool.and_eq_true, Bool.not_eq_true', Bool.or_eq_false_iff, Bool.and_eq_false_iff, decide_eq_false_iff_not] at hq
      obtain ⟨_, _, hq, _⟩ := hq
      rcases hq with hq | hq
      · exact absurd trivial hq
      · exact Classical.not_not.1 hq
    · omega
  · omega
theorem wish_is {r : ReplM} {m : MsgM} (hk : m.kind = 3 ∨ m.kind = 4) : wishR r m = (if r.kept.view < m.view then wantR r m.view else r) ∧ wishL r m = (if r.kept.view < m.view then wantL r m.view else []) := by
  have e : (decide (m.kind = 3) || decide (m.kind = 4)) = true := by simpa using hk
  unfold wishR wishL wishes
  rw [e, Bool.true_and]
  by_cases h : r.kept.view < m.view
  · rw [decide_eq_true h, if_pos h, if_pos h]
    exact ⟨rfl, rfl⟩
  · rw [decide_eq_false h, if_neg h, if_neg h]
    exact ⟨rfl, rfl⟩
set_option maxRecDepth 4000 in
set_option maxHeartbeats 8000000 in
theorem hearGo_any (R : ReplM) (M : MsgM) (v u : Value) (w : World) (h : ReplAt w v R) (hf : ReplFits R) (hm : MsgAt w u M) (hzM : TextsIn M.log) :
    Calls Tryd.prog 12 #[v, u] w fun e w' => Answers w e w' (hearR R M) (hearL R M) (hearE R M) := by
  have HC : Hid (∀ W, Below w.heap.size w W → Calls _ _ _ W _) := fun W hW => checkHeard_any R M _ _ W (h.below hW) (hm.below hW)
  have HD : Hid (∀ W, Below w.heap.size w W → Calls _ _ _ W _) := fun W hW => replCopy_any R _ W (h.below hW) hf
  have HMA : Hid (∀ W, Below w.heap.size w W → MsgAt W u M) := fun W hW => hm.below hW
  have HZM : Hid (TextsIn M.log) := hzM
  have N1 : Hid (¬ hearE R M = 0 → hearR R M = zeroRepl ∧ hearL R M = []) := fun hE => ⟨by unfold hearR; rw [if_neg hE], by unfold hearL; rw [if_neg hE]⟩
  have N2 : Hid (hearE R M = 0 → hearR R M = hearR' R M ∧ hearL R M = hearL' R M ∧ Sound R ∧ R.hav.length = 3 ∧ MsgMay M ∧ (M.kind = 1 → M.frm = (leadR R M).kept.view.tmod 3)) := fun hE => by
    obtain ⟨h1, h2, _⟩ := hearE_of R M hE
    exact ⟨by unfold hearR; rw [if_pos hE], by unfold hearL; rw [if_pos hE], sound_of h1 hf, h1.hl, h2, lead_frm hE⟩
  generalize hearE R M = EE at *
  generalize hearR R M = RR at *
  generalize hearL R M = LL at *
  obtain ⟨vl, vh, vw, vg, vn, rfl, hl, hh, hw, hg, hn⟩ := h
  obtain ⟨al, cl, rfl, _, _⟩ := hl
  obtain ⟨ah, ch, rfl, _, _⟩ := hh
  obtain ⟨aw, cw, rfl, _, _⟩ := hw
  obtain ⟨ag, cg, rfl, _, _⟩ := hg
  obtain ⟨an, cn, rfl, _, _⟩ := hn
  obtain ⟨vm, rfl, hs⟩ := hm
  obtain ⟨am, cm, rfl, _, _⟩ := hs
  simp only [replCells, msgCells] at *
  obtain ⟨b0, b1, b2, hb⟩ := boxes3 w 30 43 30 [.int .i64 R.me, .int .i64 R.kept.view, .int .i64 R.kept.normal, .bool R.kept.calm, .slice al R.kept.log.length cl, .int .i64 R.kept.commit, .slice ah R.hav.length ch, .slice aw R.wants.length cw, .slice ag R.gives.length cg, .slice an R.given.length cn] [.int .i64 M.kind, .int .i64 M.frm, .int .i64 M.dst, .int .i64 M.view, .int .i64 M.normal, .int .i64 M.commit, .int .i64 M.n, .slice am M.log.length cm] [.int .i64 0, .int .i64 0, .int .i64 0, .bool false, .slice none 0 0, .int .i64 0, .slice none 0 0, .slice none 0 0, .slice none 0 0, .slice none 0 0]
  obtain ⟨w0, hw0⟩ : ∃ w0, w0 = ((w.alloc (.cells #[.int .i64 R.me, .int .i64 R.kept.view, .int .i64 R.kept.normal, .bool R.kept.calm, .slice al R.kept.log.length cl, .int .i64 R.kept.commit, .slice ah R.hav.length ch, .slice aw R.wants.length cw, .slice ag R.gives.length cg, .slice an R.given.length cn] 30)).alloc (.cells #[.int .i64 M.kind, .int .i64 M.frm, .int .i64 M.dst, .int .i64 M.view, .int .i64 M.normal, .int .i64 M.commit, .int .i64 M.n, .slice am M.log.length cm] 43)).alloc (.cells #[.int .i64 0, .int .i64 0, .int .i64 0, .bool false, .slice none 0 0, .int .i64 0, .slice none 0 0, .slice none 0 0, .slice none 0 0, .slice none 0 0] 30) := ⟨_, rfl⟩
  have hsz : w0.heap.size = w.heap.size + 1 + 1 + 1 := by rw [hw0]; simp
  go_enter Tryd.func12, Tryd.ntmps12
  go_upto_region 1 with fail
  rw [← hw0] at b0 b1 b2 hb ⊢
  clear hw0
  have HB0 : Hid (Box w0 w.heap.size _ _) := b0
  have HB1 : Hid (Box w0 (w.heap.size + 1) _ _) := b1
  have HBR : Hid (Box w0 (w.heap.size + 2) _ _) := b2
  have HBW : Hid (Below w.heap.size w w0) := hb
  have HSZ : Hid (w0.heap.size = w.heap.size + 1 + 1 + 1) := hsz
  have x0 := b0.cell 0 _ rfl
  have x1 := b0.cell 1 _ rfl
  have x2 := b0.cell 2 _ rfl
  have x3 := b0.cell 3 _ rfl
  have x4 := b0.cell 4 _ rfl
  have x5 := b0.cell 5 _ rfl
  have x6 := b0.cell 6 _ rfl
  have x7 := b0.cell 7 _ rfl
  have x8 := b0.cell 8 _ rfl
  have x9 := b0.cell 9 _ rfl
  have y0 := b1.cell 0 _ rfl
  have y1 := b1.cell 1 _ rfl
  have y2 := b1.cell 2 _ rfl
  have y3 := b1.cell 3 _ rfl
  have y4 := b1.cell 4 _ rfl
  have y5 := b1.cell 5 _ rfl
  have y6 := b1.cell 6 _ rfl
  have y7 := b1.cell 7 _ rfl
  clear b0 b1 b2 hb hsz
  go_wp2_with fail
  refine (HC.out _ HBW.out).mono ?_
  rintro e w1 ⟨rfl, hb1⟩
  have HB2 : Hid (Below w0.heap.size w0 w1) := hb1
  have r0 := HB0.out.below hb1 HB0.out.lt
  have r1 := HB1.out.below hb1 HB1.out.lt
  have r2 := HBR.out.below hb1 HBR.out.lt
  clear hb1 x0 x1 x2 x3 x4 x5 x6 x7 x8 x9 y0 y1 y2 y3 y4 y5 y6 y7 HC
  have x0 := r0.cell 0 _ rfl
  have x1 := r0.cell 1 _ rfl
  have x2 := r0.cell 2 _ rfl
  have x3 := r0.cell 3 _ rfl
  have x4 := r0.cell 4 _ rfl
  have x5 := r0.cell 5 _ rfl
  have x6 := r0.cell 6 _ rfl
  have x7 := r0.cell 7 _ rfl
  have x8 := r0.cell 8 _ rfl
  have x9 := r0.cell 9 _ rfl
  have y0 := r2.cell 0 _ rfl
  have y1 := r2.cell 1 _ rfl
  have y2 := r2.cell 2 _ rfl
  have y3 := r2.cell 3 _ rfl
  have y4 := r2.cell 4 _ rfl
  have y5 := r2.cell 5 _ rfl
  have y6 := r2.cell 6 _ rfl
  have y7 := r2.cell 7 _ rfl
  have y8 := r2.cell 8 _ rfl
  have y9 := r2.cell 9 _ rfl
  have f0 := r2.frozen 0
  have f1 := r2.frozen 1
  have f2 := r2.frozen 2
  have f3 := r2.frozen 3
  have f4 := r2.frozen 4
  have f5 := r2.frozen 5
  have f6 := r2.frozen 6
  have f7 := r2.frozen 7
  have f8 := r2.frozen 8
  have f9 := r2.frozen 9
  have HR0 : Hid (Box w1 w.heap.size _ _) := r0
  have HRM : Hid (Box w1 (w.heap.size + 1) _ _) := r1
  have HR1 : Hid (Box w1 (w.heap.size + 2) _ _) := r2
  have HBE : Hid (Below w.heap.size w w1) := Below.far HBW.out HB2.out
  clear r0 r1 r2
  have HFT : Hid (ReplFits R) := hf
  clear hf
  by_cases hE : EE = 0
  · obtain ⟨e1, e2, hs, hl3, hmay, hfr⟩ := N2.out hE
    subst hE
    have HER : Hid (RR = hearR' R M ∧ LL = hearL' R M) := ⟨e1, e2⟩
    have HSD : Hid (Sound R) := hs
    have HL3 : Hid (R.hav.length = 3) := hl3
    have HMY : Hid (MsgMay M) := hmay
    have HFR : Hid (M.kind = 1 → M.frm = (leadR R M).kept.view.tmod 3) := hfr
    clear N1 N2 e1 e2 hs hl3 hmay hfr y0 y1 y2 y3 y4 y5 y6 y7 y8 y9 f0 f1 f2 f3 f4 f5 f6 f7 f8 f9
    go_wp2_with fail
    refine (HD.out _ HBE.out).mono ?_
    rintro e w2 ⟨v2, rfl, ⟨vl2, vh2, vw2, vg2, vn2, ps2, rfl, ho2⟩, hb2⟩
    obtain ⟨al2, cl2, ah2, ch2, aw2, cw2, ag2, cg2, an2, cn2, rfl, rfl, rfl, rfl, rfl⟩ := ho2.forms
    simp only [replCells]
    have rm := HRM.out.below hb2 HRM.out.lt
    have r1 := HR1.out.below hb2 HR1.out.lt
    obtain ⟨w3, hw3⟩ : ∃ w3, w3 = w2.alloc (.cells #[.int .i64 R.me, .int .i64 R.kept.view, .int .i64 R.kept.normal, .bool R.kept.calm, .slice al2 R.kept.log.length cl2, .int .i64 R.kept.commit, .slice ah2 R.hav.length ch2, .slice aw2 R.wants.length cw2, .slice ag2 R.gives.length cg2, .slice an2 R.given.length cn2, .slice none 0 0] 68) := ⟨_, rfl⟩
    have hs0 := HSZ.out
    have hs1 := HB2.out.size
    have hs2 := hb2.size
    obtain ⟨ht3, hx3, ho3, hb3, hs3⟩ := turn_new ho2 (B' := w.heap.size + 3) (by omega) w3 hw3
    have HT3 : Hid (TurnAt w3 w2.heap.size (w.heap.size + 3) R []) := ht3
    have HBB : Hid (Below w.heap.size w w3) := Below.far (Below.far HBE.out hb2) hb3
    have HQ1 : Hid (Box w3 (w.heap.size + 2) _ _) := r1.below hb3 (by omega)
    have hqm : Box w3 (w.heap.size + 1) _ _ := rm.below hb3 (by omega)
    have HS3 : Hid (w.heap.size + 3 ≤ w2.heap.size ∧ w3.heap.size = w2.heap.size + 1) := ⟨by omega, hs3⟩
    have HBS3 : Hid (w.heap.size + 3 ≤ w3.heap.size) := (show w.heap.size + 3 ≤ w3.heap.size by omega)
    have z0 := hqm.cell 0 _ rfl
    have z1 := hqm.cell 1 _ rfl
    have z2 := hqm.cell 2 _ rfl
    have z3 := hqm.cell 3 _ rfl
    have z4 := hqm.cell 4 _ rfl
    have z5 := hqm.cell 5 _ rfl
    have z6 := hqm.cell 6 _ rfl
    have z7 := hqm.cell 7 _ rfl
    clear ht3 hx3 ho3 hb3 hs3 rm r1 hqm ho2 hb2 x0 x1 x2 x3 x4 x5 x6 x7 x8 x9 HD hs0 hs1 hs2
    go_upto_region 5 with fail
    rw [← hw3]
    clear hw3
    have hf0 := HMY.out.frm
    by_cases k1 : M.kind = 1
    · have HRL : Hid (RR = bump (lead1 R M) M ∧ LL = [] ++ [hasMsg (bump (lead1 R M) M) ((bump (lead1 R M) M).kept.view.tmod 3)]) := by
        unfold Hid
        rw [HER.out.1, HER.out.2]
        unfold hearR' hearL'
        rw [if_pos k1, if_pos k1, ← lead_is, ← HFR.out k1]
        exact ⟨rfl, rfl⟩
      have q1 : (M.kind == 1) = true := by simpa using k1
      clear HER HFR hf0 k1
      go_wp2_with fail
      refine (hearLead_any _ _ R [] M _ w3 HT3.out (HMA.out w3 HBB.out) HZM.out.1 (by simp) HBS3.out).mono ?_
      rintro e w4 ⟨rfl, ht4, hb4⟩
      have ht4 : TurnAt w4 w2.heap.size (w.heap.size + 3) RR LL := by rw [HRL.out.1, HRL.out.2]; exact ht4
      clear z0 z1 z2 z3 z4 z5 z6 z7
      obtain ⟨vl4, vh4, vw4, vg4, vn4, vs4, ps4, hx4, ho4, hm4⟩ := ht4
      obtain ⟨al4, cl4, ah4, ch4, aw4, cw4, ag4, cg4, an4, cn4, rfl, rfl, rfl, rfl, rfl⟩ := ho4.forms
      obtain ⟨as4, cs4, rfl⟩ := hm4.form
      have r1 := HQ1.out.beside hb4 (by omega) (by have := HS3.out; omega)
      have HK5 : Hid _ := turn_out (w := w) ho4 hm4 r1 rfl (by omega) (by omega) (HBB.out.trans (hb4.below (by omega) (by have := HS3.out; omega))) _ rfl
      simp only [setAll] at HK5
      have ne4 : ¬ w2.heap.size = w.heap.size + 2 := by have := HS3.out; omega
      have ne5 : ¬ w.heap.size + 2 = w2.heap.size := by have := HS3.out; omega
      have x0 := hx4.cell 0 _ rfl
      have x1 := hx4.cell 1 _ rfl
      have x2 := hx4.cell 2 _ rfl
      have x3 := hx4.cell 3 _ rfl
      have x4 := hx4.cell 4 _ rfl
      have x5 := hx4.cell 5 _ rfl
      have x6 := hx4.cell 6 _ rfl
      have x7 := hx4.cell 7 _ rfl
      have x8 := hx4.cell 8 _ rfl
      have x9 := hx4.cell 9 _ rfl
      have x10 := hx4.cell 10 _ rfl
      have y0 := r1.cell 0 _ rfl
      have y1 := r1.cell 1 _ rfl
      have y2 := r1.cell 2 _ rfl
      have y3 := r1.cell 3 _ rfl
      have y4 := r1.cell 4 _ rfl
      have y5 := r1.cell 5 _ rfl
      have y6 := r1.cell 6 _ rfl
      have y7 := r1.cell 7 _ rfl
      have y8 := r1.cell 8 _ rfl
      have y9 := r1.cell 9 _ rfl
      have f0 := r1.frozen 0
      have f1 := r1.frozen 1
      have f2 := r1.frozen 2
      have f3 := r1.frozen 3
      have f4 := r1.frozen 4
      have f5 := r1.frozen 5
      have f6 := r1.frozen 6
      have f7 := r1.frozen 7
      have f8 := r1.frozen 8
      have f9 := r1.frozen 9
      clear hx4 ho4 hm4 r1 hb4
      go_upto_region 14 with fail
      go_region
      generalize (((((((((((w4.setCell ⟨w.heap.size + 2, 0, none⟩ (.int .i64 (RR).me)).setCell ⟨w.heap.size + 2, 1, none⟩ (.int .i64 (RR).kept.view)).setCell ⟨w.heap.size + 2, 2, none⟩ (.int .i64 (RR).kept.normal)).setCell ⟨w.heap.size + 2, 3, none⟩ (.bool (RR).kept.calm)).setCell ⟨w.heap.size + 2, 4, none⟩ (.slice al4 (RR).kept.log.length cl4)).setCell ⟨w.heap.size + 2, 5, none⟩ (.int .i64 (RR).kept.commit)).setCell ⟨w.heap.size + 2, 6, none⟩ (.slice ah4 (RR).hav.length ch4)).setCell ⟨w.heap.size + 2, 7, none⟩ (.slice aw4 (RR).wants.length cw4)).setCell ⟨w.heap.size + 2, 8, none⟩ (.slice ag4 (RR).gives.length cg4)).setCell ⟨w.heap.size + 2, 9, none⟩ (.slice an4 (RR).given.length cn4))).drew = w5 at HK5 ⊢
      have hR := HK5.out.1
      clear x0 x1 x2 x3 x4 x5 x6 x7 x8 x9 x10 y0 f0 y1 f1 y2 f2 y3 f3 y4 f4 y5 f5 y6 f6 y7 f7 y8 f8 y9 f9
      have y0 := hR.cell 0 _ rfl
      have y1 := hR.cell 1 _ rfl
      have y2 := hR.cell 2 _ rfl
      have y3 := hR.cell 3 _ rfl
      have y4 := hR.cell 4 _ rfl
      have y5 := hR.cell 5 _ rfl
      have y6 := hR.cell 6 _ rfl
      have y7 := hR.cell 7 _ rfl
      have y8 := hR.cell 8 _ rfl
      have y9 := hR.cell 9 _ rfl
      clear hR
      go_wp2_with fail
      exact bodyPost_ret (v := .tuple #[.agg #[.int .i64 (RR).me, .int .i64 (RR).kept.view, .int .i64 (RR).kept.normal, .bool (RR).kept.calm, .slice al4 (RR).kept.log.length cl4, .int .i64 (RR).kept.commit, .slice ah4 (RR).hav.length ch4, .slice aw4 (RR).wants.length cw4, .slice ag4 (RR).gives.length cg4, .slice an4 (RR).given.length cn4], .slice as4 LL.length cs4, .int .i64 0]) (by clear HK5; simp [results, Tryd.results12, go_sem, *]) rfl ⟨_, _, rfl, HK5.out.2⟩
    by_cases k2 : M.kind = 2
    · have HRL : Hid (RR = hasR R M ∧ LL = [] ++ hasL R M) := by
        unfold Hid
        rw [HER.out.1, HER.out.2]
        unfold hearR' hearL'
        rw [if_neg k1, if_neg k1, if_pos k2, if_pos k2]
        exact ⟨rfl, rfl⟩
      have q1 : (M.kind == 1) = false := by simpa using k1
      have q2 : (M.kind == 2) = true := by simpa using k2
      clear HER HFR k1 k2
      go_wp2_with fail
      refine (hearHas_any _ _ R [] M _ w3 HT3.out (HMA.out w3 HBB.out) HFT.out HL3.out hf0.1 hf0.2 (by simp) HBS3.out).mono ?_
      rintro e w4 ⟨rfl, ht4, hb4⟩
      have ht4 : TurnAt w4 w2.heap.size (w.heap.size + 3) RR LL := by rw [HRL.out.1, HRL.out.2]; exact ht4
      clear z0 z1 z2 z3 z4 z5 z6 z7 hf0
      obtain ⟨vl4, vh4, vw4, vg4, vn4, vs4, ps4, hx4, ho4, hm4⟩ := ht4
      obtain ⟨al4, cl4, ah4, ch4, aw4, cw4, ag4, cg4, an4, cn4, rfl, rfl, rfl, rfl, rfl⟩ := ho4.forms
      obtain ⟨as4, cs4, rfl⟩ := hm4.form
      have r1 := HQ1.out.beside hb4 (by omega) (by have := HS3.out; omega)
      have HK5 : Hid _ := turn_out (w := w) ho4 hm4 r1 rfl (by omega) (by omega) (HBB.out.trans (hb4.below (by omega) (by have := HS3.out; omega))) _ rfl
      simp only [setAll] at HK5
      have ne4 : ¬ w2.heap.size = w.heap.size + 2 := by have := HS3.out; omega
      have ne5 : ¬ w.heap.size + 2 = w2.heap.size := by have := HS3.out; omega
      have x0 := hx4.cell 0 _ rfl
      have x1 := hx4.cell 1 _ rfl
      have x2 := hx4.cell 2 _ rfl
      have x3 := hx4.cell 3 _ rfl
      have x4 := hx4.cell 4 _ rfl
      have x5 := hx4.cell 5 _ rfl
      have x6 := hx4.cell 6 _ rfl
      have x7 := hx4.cell 7 _ rfl
      have x8 := hx4.cell 8 _ rfl
      have x9 := hx4.cell 9 _ rfl
      have x10 := hx4.cell 10 _ rfl
      have y0 := r1.cell 0 _ rfl
      have y1 := r1.cell 1 _ rfl
      have y2 := r1.cell 2 _ rfl
      have y3 := r1.cell 3 _ rfl
      have y4 := r1.cell 4 _ rfl
      have y5 := r1.cell 5 _ rfl
      have y6 := r1.cell 6 _ rfl
      have y7 := r1.cell 7 _ rfl
      have y8 := r1.cell 8 _ rfl
      have y9 := r1.cell 9 _ rfl
      have f0 := r1.frozen 0
      have f1 := r1.frozen 1
      have f2 := r1.frozen 2
      have f3 := r1.frozen 3
      have f4 := r1.frozen 4
      have f5 := r1.frozen 5
      have f6 := r1.frozen 6
      have f7 := r1.frozen 7
      have f8 := r1.frozen 8
      have f9 := r1.frozen 9
      clear hx4 ho4 hm4 r1 hb4
      go_upto_region 14 with fail
      go_region
      generalize (((((((((((w4.setCell ⟨w.heap.size + 2, 0, none⟩ (.int .i64 (RR).me)).setCell ⟨w.heap.size + 2, 1, none⟩ (.int .i64 (RR).kept.view)).setCell ⟨w.heap.size + 2, 2, none⟩ (.int .i64 (RR).kept.normal)).setCell ⟨w.heap.size + 2, 3, none⟩ (.bool (RR).kept.calm)).setCell ⟨w.heap.size + 2, 4, none⟩ (.slice al4 (RR).kept.log.length cl4)).setCell ⟨w.heap.size + 2, 5, none⟩ (.int .i64 (RR).kept.commit)).setCell ⟨w.heap.size + 2, 6, none⟩ (.slice ah4 (RR).hav.length ch4)).setCell ⟨w.heap.size + 2, 7, none⟩ (.slice aw4 (RR).wants.length cw4)).setCell ⟨w.heap.size + 2, 8, none⟩ (.slice ag4 (RR).gives.length cg4)).setCell ⟨w.heap.size + 2, 9, none⟩ (.slice an4 (RR).given.length cn4))).drew = w5 at HK5 ⊢
      have hR := HK5.out.1
      clear x0 x1 x2 x3 x4 x5 x6 x7 x8 x9 x10 y0 f0 y1 f1 y2 f2 y3 f3 y4 f4 y5 f5 y6 f6 y7 f7 y8 f8 y9 f9
      have y0 := hR.cell 0 _ rfl
      have y1 := hR.cell 1 _ rfl
      have y2 := hR.cell 2 _ rfl
      have y3 := hR.cell 3 _ rfl
      have y4 := hR.cell 4 _ rfl
      have y5 := hR.cell 5 _ rfl
      have y6 := hR.cell 6 _ rfl
      have y7 := hR.cell 7 _ rfl
      have y8 := hR.cell 8 _ rfl
      have y9 := hR.cell 9 _ rfl
      clear hR
      go_wp2_with fail
      exact bodyPost_ret (v := .tuple #[.agg #[.int .i64 (RR).me, .int .i64 (RR).kept.view, .int .i64 (RR).kept.normal, .bool (RR).kept.calm, .slice al4 (RR).kept.log.length cl4, .int .i64 (RR).kept.commit, .slice ah4 (RR).hav.length ch4, .slice aw4 (RR).wants.length cw4, .slice ag4 (RR).gives.length cg4, .slice an4 (RR).given.length cn4], .slice as4 LL.length cs4, .int .i64 0]) (by clear HK5; simp [results, Tryd.results12, go_sem, *]) rfl ⟨_, _, rfl, HK5.out.2⟩
    by_cases k3 : M.kind = 3
    · have HRL : Hid (RR = wantedR (if R.kept.view < M.view then wantR R M.view else R) M ∧ LL = ([] ++ if R.kept.view < M.view then wantL R M.view else []) ++ wantedL (if R.kept.view < M.view then wantR R M.view else R) M) := by
        have wi := wish_is (r := R) (m := M) (Or.inl k3)
        unfold Hid
        rw [HER.out.1, HER.out.2]
        unfold hearR' hearL'
        rw [if_neg k1, if_neg k1, if_neg k2, if_neg k2, if_pos k3, if_pos k3, wi.1, wi.2]
        exact ⟨rfl, rfl⟩
      have q1 : (M.kind == 1) = false := by simpa using k1
      have q2 : (M.kind == 2) = false := by simpa using k2
      have q3 : (M.kind == 3) = true := by simpa using k3
      clear HER HFR k1 k2 k3
      go_wp2_with fail
      refine (hearWant_any _ _ R [] M _ w3 HT3.out (HMA.out w3 HBB.out) HSD.out hf0.1 hf0.2 (by simp) HBS3.out).mono ?_
      rintro e w4 ⟨rfl, ht4, hb4⟩
      have ht4 : TurnAt w4 w2.heap.size (w.heap.size + 3) RR LL := by rw [HRL.out.1, HRL.out.2]; exact ht4
      clear z0 z1 z2 z3 z4 z5 z6 z7 hf0
      obtain ⟨vl4, vh4, vw4, vg4, vn4, vs4, ps4, hx4, ho4, hm4⟩ := ht4
      obtain ⟨al4, cl4, ah4, ch4, aw4, cw4, ag4, cg4, an4, cn4, rfl, rfl, rfl, rfl, rfl⟩ := ho4.forms
      obtain ⟨as4, cs4, rfl⟩ := hm4.form
      have r1 := HQ1.out.beside hb4 (by omega) (by have := HS3.out; omega)
      have HK5 : Hid _ := turn_out (w := w) ho4 hm4 r1 rfl (by omega) (by omega) (HBB.out.trans (hb4.below (by omega) (by have := HS3.out; omega))) _ rfl
      simp only [setAll] at HK5
      have ne4 : ¬ w2.heap.size = w.heap.size + 2 := by have := HS3.out; omega
      have ne5 : ¬ w.heap.size + 2 = w2.heap.size := by have := HS3.out; omega
      have x0 := hx4.cell 0 _ rfl
      have x1 := hx4.cell 1 _ rfl
      have x2 := hx4.cell 2 _ rfl
      have x3 := hx4.cell 3 _ rfl
      have x4 := hx4.cell 4 _ rfl
      have x5 := hx4.cell 5 _ rfl
      have x6 := hx4.cell 6 _ rfl
      have x7 := hx4.cell 7 _ rfl
      have x8 := hx4.cell 8 _ rfl
      have x9 := hx4.cell 9 _ rfl
      have x10 := hx4.cell 10 _ rfl
      have y0 := r1.cell 0 _ rfl
      have y1 := r1.cell 1 _ rfl
      have y2 := r1.cell 2 _ rfl
      have y3 := r1.cell 3 _ rfl
      have y4 := r1.cell 4 _ rfl
      have y5 := r1.cell 5 _ rfl
      have y6 := r1.cell 6 _ rfl
      have y7 := r1.cell 7 _ rfl
      have y8 := r1.cell 8 _ rfl
      have y9 := r1.cell 9 _ rfl
      have f0 := r1.frozen 0
      have f1 := r1.frozen 1
      have f2 := r1.frozen 2
      have f3 := r1.frozen 3
      have f4 := r1.frozen 4
      have f5 := r1.frozen 5
      have f6 := r1.frozen 6
      have f7 := r1.frozen 7
      have f8 := r1.frozen 8
      have f9 := r1.frozen 9
      clear hx4 ho4 hm4 r1 hb4
      go_upto_region 14 with fail
      go_region
      generalize (((((((((((w4.setCell ⟨w.heap.size + 2, 0, none⟩ (.int .i64 (RR).me)).setCell ⟨w.heap.size + 2, 1, none⟩ (.int .i64 (RR).kept.view)).setCell ⟨w.heap.size + 2, 2, none⟩ (.int .i64 (RR).kept.normal)).setCell ⟨w.heap.size + 2, 3, none⟩ (.bool (RR).kept.calm)).setCell ⟨w.heap.size + 2, 4, none⟩ (.slice al4 (RR).kept.log.length cl4)).setCell ⟨w.heap.size + 2, 5, none⟩ (.int .i64 (RR).kept.commit)).setCell ⟨w.heap.size + 2, 6, none⟩ (.slice ah4 (RR).hav.length ch4)).setCell ⟨w.heap.size + 2, 7, none⟩ (.slice aw4 (RR).wants.length cw4)).setCell ⟨w.heap.size + 2, 8, none⟩ (.slice ag4 (RR).gives.length cg4)).setCell ⟨w.heap.size + 2, 9, none⟩ (.slice an4 (RR).given.length cn4))).drew = w5 at HK5 ⊢
      have hR := HK5.out.1
      clear x0 x1 x2 x3 x4 x5 x6 x7 x8 x9 x10 y0 f0 y1 f1 y2 f2 y3 f3 y4 f4 y5 f5 y6 f6 y7 f7 y8 f8 y9 f9
      have y0 := hR.cell 0 _ rfl
      have y1 := hR.cell 1 _ rfl
      have y2 := hR.cell 2 _ rfl
      have y3 := hR.cell 3 _ rfl
      have y4 := hR.cell 4 _ rfl
      have y5 := hR.cell 5 _ rfl
      have y6 := hR.cell 6 _ rfl
      have y7 := hR.cell 7 _ rfl
      have y8 := hR.cell 8 _ rfl
      have y9 := hR.cell 9 _ rfl
      clear hR
      go_wp2_with fail
      exact bodyPost_ret (v := .tuple #[.agg #[.int .i64 (RR).me, .int .i64 (RR).kept.view, .int .i64 (RR).kept.normal, .bool (RR).kept.calm, .slice al4 (RR).kept.log.length cl4, .int .i64 (RR).kept.commit, .slice ah4 (RR).hav.length ch4, .slice aw4 (RR).wants.length cw4, .slice ag4 (RR).gives.length cg4, .slice an4 (RR).given.length cn4], .slice as4 LL.length cs4, .int .i64 0]) (by clear HK5; simp [results, Tryd.results12, go_sem, *]) rfl ⟨_, _, rfl, HK5.out.2⟩
    · have k4 : M.kind = 4 := by have := HMY.out.kind; omega
      have HRL : Hid (RR = giveR (if R.kept.view < M.view then wantR R M.view else R) M ∧ LL = ([] ++ if R.kept.view < M.view then wantL R M.view else []) ++ giveL (if R.kept.view < M.view then wantR R M.view else R) M) := by
        have wi := wish_is (r := R) (m := M) (Or.inr k4)
        unfold Hid
        rw [HER.out.1, HER.out.2]
        unfold hearR' hearL'
        rw [if_neg k1, if_neg k1, if_neg k2, if_neg k2, if_neg k3, if_neg k3, wi.1, wi.2]
        exact ⟨rfl, rfl⟩
      have q1 : (M.kind == 1) = false := by simpa using k1
      have q2 : (M.kind == 2) = false := by simpa using k2
      have q3 : (M.kind == 3) = false := by simpa using k3
      have q4 : (M.kind == 4) = true := by simpa using k4
      clear HER HFR k1 k2 k3 k4
      go_wp2_with fail
      refine (hearGive_any _ _ R [] M _ w3 HT3.out (HMA.out w3 HBB.out) (fun W hW => HMA.out W (HBB.out.trans (hW.below (by omega) (by have := HS3.out; omega)))) HZM.out HSD.out hf0.1 hf0.2 (by simp) HBS3.out).mono ?_
      rintro e w4 ⟨rfl, ht4, hb4⟩
      have ht4 : TurnAt w4 w2.heap.size (w.heap.size + 3) RR LL := by rw [HRL.out.1, HRL.out.2]; exact ht4
      clear z0 z1 z2 z3 z4 z5 z6 z7 hf0
      obtain ⟨vl4, vh4, vw4, vg4, vn4, vs4, ps4, hx4, ho4, hm4⟩ := ht4
      obtain ⟨al4, cl4, ah4, ch4, aw4, cw4, ag4, cg4, an4, cn4, rfl, rfl, rfl, rfl, rfl⟩ := ho4.forms
      obtain ⟨as4, cs4, rfl⟩ := hm4.form
      have r1 := HQ1.out.beside hb4 (by omega) (by have := HS3.out; omega)
      have HK5 : Hid _ := turn_out (w := w) ho4 hm4 r1 rfl (by omega) (by omega) (HBB.out.trans (hb4.below (by omega) (by have := HS3.out; omega))) _ rfl
      simp only [setAll] at HK5
      have ne4 : ¬ w2.heap.size = w.heap.size + 2 := by have := HS3.out; omega
      have ne5 : ¬ w.heap.size + 2 = w2.heap.size := by have := HS3.out; omega
      have x0 := hx4.cell 0 _ rfl
      have x1 := hx4.cell 1 _ rfl
      have x2 := hx4.cell 2 _ rfl
      have x3 := hx4.cell 3 _ rfl
      have x4 := hx4.cell 4 _ rfl
      have x5 := hx4.cell 5 _ rfl
      have x6 := hx4.cell 6 _ rfl
      have x7 := hx4.cell 7 _ rfl
      have x8 := hx4.cell 8 _ rfl
      have x9 := hx4.cell 9 _ rfl
      have x10 := hx4.cell 10 _ rfl
      have y0 := r1.cell 0 _ rfl
      have y1 := r1.cell 1 _ rfl
      have y2 := r1.cell 2 _ rfl
      have y3 := r1.cell 3 _ rfl
      have y4 := r1.cell 4 _ rfl
      have y5 := r1.cell 5 _ rfl
      have y6 := r1.cell 6 _ rfl
      have y7 := r1.cell 7 _ rfl
      have y8 := r1.cell 8 _ rfl
      have y9 := r1.cell 9 _ rfl
      have f0 := r1.frozen 0
      have f1 := r1.frozen 1
      have f2 := r1.frozen 2
      have f3 := r1.frozen 3
      have f4 := r1.frozen 4
      have f5 := r1.frozen 5
      have f6 := r1.frozen 6
      have f7 := r1.frozen 7
      have f8 := r1.frozen 8
      have f9 := r1.frozen 9
      clear hx4 ho4 hm4 r1 hb4
      go_upto_region 14 with fail
      go_region
      generalize (((((((((((w4.setCell ⟨w.heap.size + 2, 0, none⟩ (.int .i64 (RR).me)).setCell ⟨w.heap.size + 2, 1, none⟩ (.int .i64 (RR).kept.view)).setCell ⟨w.heap.size + 2, 2, none⟩ (.int .i64 (RR).kept.normal)).setCell ⟨w.heap.size + 2, 3, none⟩ (.bool (RR).kept.calm)).setCell ⟨w.heap.size + 2, 4, none⟩ (.slice al4 (RR).kept.log.length cl4)).setCell ⟨w.heap.size + 2, 5, none⟩ (.int .i64 (RR).kept.commit)).setCell ⟨w.heap.size + 2, 6, none⟩ (.slice ah4 (RR).hav.length ch4)).setCell ⟨w.heap.size + 2, 7, none⟩ (.slice aw4 (RR).wants.length cw4)).setCell ⟨w.heap.size + 2, 8, none⟩ (.slice ag4 (RR).gives.length cg4)).setCell ⟨w.heap.size + 2, 9, none⟩ (.slice an4 (RR).given.length cn4))).drew = w5 at HK5 ⊢
      have hR := HK5.out.1
      clear x0 x1 x2 x3 x4 x5 x6 x7 x8 x9 x10 y0 f0 y1 f1 y2 f2 y3 f3 y4 f4 y5 f5 y6 f6 y7 f7 y8 f8 y9 f9
      have y0 := hR.cell 0 _ rfl
      have y1 := hR.cell 1 _ rfl
      have y2 := hR.cell 2 _ rfl
      have y3 := hR.cell 3 _ rfl
      have y4 := hR.cell 4 _ rfl
      have y5 := hR.cell 5 _ rfl
      have y6 := hR.cell 6 _ rfl
      have y7 := hR.cell 7 _ rfl
      have y8 := hR.cell 8 _ rfl
      have y9 := hR.cell 9 _ rfl
      clear hR
      go_wp2_with fail
      exact bodyPost_ret (v := .tuple #[.agg #[.int .i64 (RR).me, .int .i64 (RR).kept.view, .int .i64 (RR).kept.normal, .bool (RR).kept.calm, .slice al4 (RR).kept.log.length cl4, .int .i64 (RR).kept.commit, .slice ah4 (RR).hav.length ch4, .slice aw4 (RR).wants.length cw4, .slice ag4 (RR).gives.length cg4, .slice an4 (RR).given.length cn4], .slice as4 LL.length cs4, .int .i64 0]) (by clear HK5; simp [results, Tryd.results12, go_sem, *]) rfl ⟨_, _, rfl, HK5.out.2⟩
  · obtain ⟨e2, e3⟩ := N1.out hE
    subst e2 e3
    have hEE : ¬ EE = 0 := hE
    clear N1 N2 HD hE
    go_wp2_with fail
    have key : ∀ w4, w4 = setAll w1 (w.heap.size + 2) 0 [.int .i64 0, .int .i64 0, .int .i64 0, .bool false, .slice none 0 0, .int .i64 0, .slice none 0 0, .slice none 0 0, .slice none 0 0, .slice none 0 0] → Hid (Box w4 (w.heap.size + 2) 30 [.int .i64 0, .int .i64 0, .int .i64 0, .bool false, .slice none 0 0, .int .i64 0, .slice none 0 0, .slice none 0 0, .slice none 0 0, .slice none 0 0] ∧ Below w.heap.size w w4) := by
      intro w4 e4
      subst e4
      exact ⟨setAll_box HR1.out _ rfl, (setAll_beside _ _ _ _ (Beside.of HBE.out)).below (Nat.le_refl _) (by omega)⟩
    have key := key _ rfl
    simp only [setAll] at key
    generalize ((((((((((w1.setCell ⟨w.heap.size + 2, 0, none⟩ (.int .i64 0)).setCell ⟨w.heap.size + 2, 1, none⟩ (.int .i64 0)).setCell ⟨w.heap.size + 2, 2, none⟩ (.int .i64 0)).setCell ⟨w.heap.size + 2, 3, none⟩ (.bool false)).setCell ⟨w.heap.size + 2, 4, none⟩ (.slice none 0 0)).setCell ⟨w.heap.size + 2, 5, none⟩ (.int .i64 0)).setCell ⟨w.heap.size + 2, 6, none⟩ (.slice none 0 0)).setCell ⟨w.heap.size + 2, 7, none⟩ (.slice none 0 0)).setCell ⟨w.heap.size + 2, 8, none⟩ (.slice none 0 0)).setCell ⟨w.heap.size + 2, 9, none⟩ (.slice none 0 0)) = w4 at key ⊢
    clear y0 y1 y2 y3 y4 y5 y6 y7 y8 y9 f0 f1 f2 f3 f4 f5 f6 f7 f8 f9
    have hR := key.out.1
    have y0 := hR.cell 0 _ rfl
    have y1 := hR.cell 1 _ rfl
    have y2 := hR.cell 2 _ rfl
    have y3 := hR.cell 3 _ rfl
    have y4 := hR.cell 4 _ rfl
    have y5 := hR.cell 5 _ rfl
    have y6 := hR.cell 6 _ rfl
    have y7 := hR.cell 7 _ rfl
    have y8 := hR.cell 8 _ rfl
    have y9 := hR.cell 9 _ rfl
    clear hR
    exact bodyPost_ret (v := .tuple #[.agg #[.int .i64 0, .int .i64 0, .int .i64 0, .bool false, .slice none 0 0, .int .i64 0, .slice none 0 0, .slice none 0 0, .slice none 0 0, .slice none 0 0], .slice none 0 0, .int .i64 EE]) (by clear key HR1 HBE; simp [results, Tryd.results12, go_sem, *]) rfl ⟨_, _, rfl, replNil _ _, msgsNil _ _, key.out.2⟩

end Go.Proofs.YtmdgkjbiicaljagDoor
