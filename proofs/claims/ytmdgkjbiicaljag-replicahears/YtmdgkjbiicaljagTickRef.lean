/- The document's TickedOf. -/
import Derived.Test.YtmdgkjbiicaljagJointRegFork
import Derived.Test.YtmdgkjbiicaljagJointTurnGo
import Derived.Test.YtmdgkjbiicaljagTickGo2
namespace Go.Proofs.Ytmdgkjbiicaljag
open Go.RowKit
set_option linter.unusedVariables false
set_option linter.unusedSimpArgs false

theorem fork_keep {w4 : World} {a b r : Nat} {t : TypeId} {xs ys cs vs : List Value} (ha : Box w4 a t xs) (hb : Box w4 b t ys) (hr : Box w4 r t cs) (hl : cs.length = vs.length) (h1 : a ≠ r) (h2 : b ≠ r) (w5 : World) (hw : w5 = setAll w4 r 0 vs) : Box w5 a t xs ∧ Box w5 b t ys := by
  subst hw
  have h := setAll_beside vs w4 w4 0 (Beside.refl w4.heap.size r w4)
  exact ⟨ha.beside h ha.lt h1, hb.beside h hb.lt h2⟩
theorem MsgsNew.below' {w w' : World} {B : Nat} {v : Value} {L : List MsgM} (h : MsgsNew w B v L) (hb : Below w.heap.size w w') : MsgsNew w' B v L := by
  obtain ⟨ps, hL, hp⟩ := h
  exact ⟨ps, hL, hp.below hb⟩
theorem MsgsNew.one {w : World} {b B : Nat} {M : MsgM} {vm : Value} (hx : Box w b 31 (msgCells M vm)) (hB : B ≤ b) (ho : w.ownsRow B 9 1 vm M.log.length (M.log.map enc)) (hne : ∀ k, vm.ownBlock = some k → k ≠ b) : MsgsNew w B (.slice (some ⟨b, 0, none⟩) 1 1) [M] := by
  refine ⟨[(M, vm)], rfl, ?_, fun p hp => ?_⟩
  · exact own_box hx hB 1 8 rfl (by decide)
  · rw [List.mem_singleton.1 hp]; exact ho

set_option maxRecDepth 4000 in
set_option maxHeartbeats 8000000 in
theorem tickedOf_any (R : ReplM) (v : Value) (w : World) (h : ReplAt w v R) (hf : ReplFits R) :
    Calls Try.prog 15 #[v] w fun e w' => Answers w e w' (tickR R) (tickL R) (tickE R) := by
  have HC : Hid (∀ W, Below w.heap.size w W → Calls _ _ _ W _) := fun W hW => replFaultOf_any R _ W (h.below hW)
  have HD : Hid (∀ W, Below w.heap.size w W → Calls _ _ _ W _) := fun W hW => replicaCopyOf_any R _ W (h.below hW) hf
  have HME : Hid (replFault R = 0 → (0 ≤ R.me ∧ R.me < 3) ∧ 0 ≤ R.kept.view ∧ R.kept.view ≤ 1048576) := repl_me R
  have N1 : Hid (¬ replFault R = 0 → tickE R = replFault R ∧ tickR R = zeroRepl ∧ tickL R = []) := fun hE => by
    have eE : tickE R = replFault R := rfl
    exact ⟨eE, by unfold tickR; rw [eE, if_neg hE], by unfold tickL; rw [eE, if_neg hE]⟩
  have N2 : Hid (replFault R = 0 → tickE R = 0 ∧ tickR R = tickR' R ∧ tickL R = tickL' R) := fun hE => by
    have eE : tickE R = 0 := hE
    exact ⟨eE, by unfold tickR; rw [eE]; rfl, by unfold tickL; rw [eE]; rfl⟩
  have HWL : Hid (replFault R = 0 → R.wants.length = 3) := repl_wants R
  have HLD : Hid (∀ W, Below w.heap.size w W → Calls _ _ _ W _) := fun W hW => leadsNow_any R _ W (h.below hW)
  generalize tickE R = EE at *
  generalize tickR R = RR at *
  generalize tickL R = LL at *
  obtain ⟨vl, vh, vw, vg, vn, rfl, hl, hh, hw, hg, hn⟩ := h
  obtain ⟨al, cl, rfl, _, _⟩ := hl
  obtain ⟨ah, ch, rfl, _, _⟩ := hh
  obtain ⟨aw, cw, rfl, _, _⟩ := hw
  obtain ⟨ag, cg, rfl, _, _⟩ := hg
  obtain ⟨an, cn, rfl, _, _⟩ := hn
  simp only [replCells] at *
  obtain ⟨b0, b1, hb⟩ := boxes2 w 29 29 [.int .i64 R.me, .int .i64 R.kept.view, .int .i64 R.kept.normal, .bool R.kept.calm, .slice al R.kept.log.length cl, .int .i64 R.kept.commit, .slice ah R.hav.length ch, .slice aw R.wants.length cw, .slice ag R.gives.length cg, .slice an R.given.length cn] [.int .i64 0, .int .i64 0, .int .i64 0, .bool false, .slice none 0 0, .int .i64 0, .slice none 0 0, .slice none 0 0, .slice none 0 0, .slice none 0 0]
  obtain ⟨w0, hw0⟩ : ∃ w0, w0 = (w.alloc (.cells #[.int .i64 R.me, .int .i64 R.kept.view, .int .i64 R.kept.normal, .bool R.kept.calm, .slice al R.kept.log.length cl, .int .i64 R.kept.commit, .slice ah R.hav.length ch, .slice aw R.wants.length cw, .slice ag R.gives.length cg, .slice an R.given.length cn] 29)).alloc (.cells #[.int .i64 0, .int .i64 0, .int .i64 0, .bool false, .slice none 0 0, .int .i64 0, .slice none 0 0, .slice none 0 0, .slice none 0 0, .slice none 0 0] 29) := ⟨_, rfl⟩
  have hsz : w0.heap.size = w.heap.size + 1 + 1 := by rw [hw0]; simp
  go_enter Try.func15, Try.ntmps15
  go_upto_region 1 with fail
  rw [← hw0] at b0 b1 hb ⊢
  clear hw0
  have HB0 : Hid (Box w0 w.heap.size _ _) := b0
  have HB1 : Hid (Box w0 (w.heap.size + 1) _ _) := b1
  have HBW : Hid (Below w.heap.size w w0) := hb
  have HSZ : Hid (w0.heap.size = w.heap.size + 1 + 1) := hsz
  have x0 := b0.cell 0 _ rfl
  have x1 := b0.cell 1 _ rfl
  have x2 := b0.cell 2 _ rfl
  have x3 := b0.cell 3 _ rfl
  have x4 := b0.cell 4 _ rfl
  have x5 := b0.cell 5 _ rfl
  have x6 := b0.cell 6 _ rfl
  have x7 := b0.cell 7 _ rfl
  have x8 := b0.cell 8 _ rfl
  have x9 := b0.cell 9 _ rfl
  clear b0 b1 hb hsz
  go_wp2_with fail
  refine (HC.out _ HBW.out).mono ?_
  rintro e w1 ⟨rfl, hb1⟩
  have HB2 : Hid (Below w0.heap.size w0 w1) := hb1
  have r0 := HB0.out.below hb1 HB0.out.lt
  have r1 := HB1.out.below hb1 HB1.out.lt
  clear hb1 x0 x1 x2 x3 x4 x5 x6 x7 x8 x9 HC
  have x0 := r0.cell 0 _ rfl
  have x1 := r0.cell 1 _ rfl
  have x2 := r0.cell 2 _ rfl
  have x3 := r0.cell 3 _ rfl
  have x4 := r0.cell 4 _ rfl
  have x5 := r0.cell 5 _ rfl
  have x6 := r0.cell 6 _ rfl
  have x7 := r0.cell 7 _ rfl
  have x8 := r0.cell 8 _ rfl
  have x9 := r0.cell 9 _ rfl
  have y0 := r1.cell 0 _ rfl
  have y1 := r1.cell 1 _ rfl
  have y2 := r1.cell 2 _ rfl
  have y3 := r1.cell 3 _ rfl
  have y4 := r1.cell 4 _ rfl
  have y5 := r1.cell 5 _ rfl
  have y6 := r1.cell 6 _ rfl
  have y7 := r1.cell 7 _ rfl
  have y8 := r1.cell 8 _ rfl
  have y9 := r1.cell 9 _ rfl
  have f0 := r1.frozen 0
  have f1 := r1.frozen 1
  have f2 := r1.frozen 2
  have f3 := r1.frozen 3
  have f4 := r1.frozen 4
  have f5 := r1.frozen 5
  have f6 := r1.frozen 6
  have f7 := r1.frozen 7
  have f8 := r1.frozen 8
  have f9 := r1.frozen 9
  have HR1 : Hid (Box w1 (w.heap.size + 1) _ _) := r1
  have HR0 : Hid (Box w1 w.heap.size _ _) := r0
  have HBE : Hid (Below w.heap.size w w1) := Below.far HBW.out HB2.out
  clear r0 r1
  have HFT : Hid (ReplFits R) := hf
  clear hf
  by_cases hE : replFault R = 0
  · obtain ⟨e1, e2, e3⟩ := N2.out hE
    subst e1
    have HER : Hid (RR = tickR' R ∧ LL = tickL' R) := ⟨e2, e3⟩
    clear e2 e3
    have HM0 : Hid ((0 ≤ R.me ∧ R.me < 3) ∧ 0 ≤ R.kept.view) := ⟨(HME.out hE).1, (HME.out hE).2.1⟩
    have HW3 : Hid (R.wants.length = 3) := HWL.out hE
    rw [hE]
    clear N1 N2 HME HWL hE y0 y1 y2 y3 y4 y5 y6 y7 y8 y9 f0 f1 f2 f3 f4 f5 f6 f7 f8 f9
    go_wp2_with fail
    refine (HD.out _ HBE.out).mono ?_
    rintro e w2 ⟨v2, rfl, ⟨vl2, vh2, vw2, vg2, vn2, ps2, rfl, ho2⟩, hb2⟩
    obtain ⟨al2, cl2, ah2, ch2, aw2, cw2, ag2, cg2, an2, cn2, rfl, rfl, rfl, rfl, rfl⟩ := ho2.forms
    simp only [replCells]
    have r0 := HR0.out.below hb2 HR0.out.lt
    have r1 := HR1.out.below hb2 HR1.out.lt
    have hq := Box.new w2 29 [.int .i64 R.me, .int .i64 R.kept.view, .int .i64 R.kept.normal, .bool R.kept.calm, .slice al2 R.kept.log.length cl2, .int .i64 R.kept.commit, .slice ah2 R.hav.length ch2, .slice aw2 R.wants.length cw2, .slice ag2 R.gives.length cg2, .slice an2 R.given.length cn2]
    have hb3 := below_alloc w2 (.cells #[.int .i64 R.me, .int .i64 R.kept.view, .int .i64 R.kept.normal, .bool R.kept.calm, .slice al2 R.kept.log.length cl2, .int .i64 R.kept.commit, .slice ah2 R.hav.length ch2, .slice aw2 R.wants.length cw2, .slice ag2 R.gives.length cg2, .slice an2 R.given.length cn2] 29)
    obtain ⟨w3, hw3⟩ : ∃ w3, w3 = w2.alloc (.cells #[.int .i64 R.me, .int .i64 R.kept.view, .int .i64 R.kept.normal, .bool R.kept.calm, .slice al2 R.kept.log.length cl2, .int .i64 R.kept.commit, .slice ah2 R.hav.length ch2, .slice aw2 R.wants.length cw2, .slice ag2 R.gives.length cg2, .slice an2 R.given.length cn2] 29) := ⟨_, rfl⟩
    have hs3 : w3.heap.size = w2.heap.size + 1 := by rw [hw3]; simp
    have hs0 := HSZ.out
    have hs1 := HB2.out.size
    have hs2 := hb2.size
    clear x0 x1 x2 x3 x4 x5 x6 x7 x8 x9 HD
    go_upto_region 5 with fail
    rw [← hw3] at hq hb3 ⊢
    clear hw3
    have hx3 := r0.below hb3 (by omega)
    have x0 := hx3.cell 0 _ rfl
    have x1 := hx3.cell 1 _ rfl
    have x2 := hx3.cell 2 _ rfl
    have x3 := hx3.cell 3 _ rfl
    have x4 := hx3.cell 4 _ rfl
    have x5 := hx3.cell 5 _ rfl
    have x6 := hx3.cell 6 _ rfl
    have x7 := hx3.cell 7 _ rfl
    have x8 := hx3.cell 8 _ rfl
    have x9 := hx3.cell 9 _ rfl
    have HX3 : Hid (Box w3 w.heap.size _ _) := hx3
    have HT3 : Hid (Box w3 w2.heap.size _ _ ∧ ReplOwn w3 (w.heap.size + 2) R _ _ _ _ _ _) := ⟨hq, (ho2.below hb3).base (by omega)⟩
    have HBB : Hid (Below w.heap.size w w3) := Below.far (Below.far HBE.out hb2) hb3
    have HQ1 : Hid (Box w3 (w.heap.size + 1) _ _) := r1.below hb3 (by omega)
    have HS3 : Hid (w.heap.size + 2 ≤ w2.heap.size ∧ w3.heap.size = w2.heap.size + 1) := ⟨by omega, hs3⟩
    clear hx3 r0 r1 hq hb3 hb2 ho2 hs0 hs1 hs2 hs3
    go_wp2_with fail
    refine (HLD.out _ HBB.out).mono ?_
    rintro e w4 ⟨rfl, hb4⟩
    have HX4 : Hid (Box w4 w.heap.size _ _) := HX3.out.below hb4 HX3.out.lt
    have HT4 : Hid (Box w4 w2.heap.size _ _ ∧ ReplOwn w4 (w.heap.size + 2) R _ _ _ _ _ _) := ⟨HT3.out.1.below hb4 HT3.out.1.lt, HT3.out.2.below hb4⟩
    have HBB4 : Hid (Below w.heap.size w w4) := Below.far HBB.out hb4
    have HQ4 : Hid (Box w4 (w.heap.size + 1) _ _) := HQ1.out.below hb4 HQ1.out.lt
    have HS4 : Hid (w.heap.size + 2 ≤ w2.heap.size ∧ w2.heap.size + 1 ≤ w4.heap.size) := ⟨HS3.out.1, by have := HS3.out.2; have := hb4.size; omega⟩
    clear hb4 x0 x1 x2 x3 x4 x5 x6 x7 x8 x9 HX3 HT3 HBB HQ1 HS3 HLD
    by_cases hl : leads R = true
    · have hRL : RR = R ∧ LL = ledBy R := by
        rw [HER.out.1, HER.out.2]
        unfold tickR' tickL'
        have hc : R.kept.calm = true := by unfold leads at hl; simp at hl; exact hl.1
        rw [if_pos hc, if_pos hl]
        exact ⟨rfl, rfl⟩
      obtain ⟨rfl, rfl⟩ := hRL
      rw [hl]
      clear HER hl
      go_upto_region 6 with fail
      refine wp_region_free [0, 0, 1, 2, 2, 2] (by kernel_rfl) (by kernel_rfl) (fun h => h) (Below w4.heap.size w4) (Below.refl _ _) (fun V n hV => below_drewN n hV) ?_
      apply Exists.intro
      refine ⟨?_, ?_⟩
      · intro V hV
        have bx := HT4.out.1.below hV HT4.out.1.lt
        have x0 := bx.cell 0 _ rfl
        have x1 := bx.cell 1 _ rfl
        have x2 := bx.cell 2 _ rfl
        have x3 := bx.cell 3 _ rfl
        have x4 := bx.cell 4 _ rfl
        have x5 := bx.cell 5 _ rfl
        have x6 := bx.cell 6 _ rfl
        have x7 := bx.cell 7 _ rfl
        have x8 := bx.cell 8 _ rfl
        have x9 := bx.cell 9 _ rfl
        simp only [sel, ↓reduceIte, Nat.reduceEqDiff]
        repeat (go_big_quiet_step (fail))
        refine wpQuiet_nil ?_
        rfl
      · intro n
        simp only [sel, ↓reduceIte, Nat.reduceEqDiff]
        refine wpEarly_cons ?_
        go_wp2_with fail
        have HA5 : Hid (ReplAt (w4.drewN n) _ RR) := (HT4.out.2.below (below_drewN n (Below.refl _ _))).at HFT.out
        simp only [replCells] at HA5
        refine (ledByOf_any RR _ (w4.drewN n) HA5.out HFT.out).mono ?_
        rintro e w5 ⟨v5, rfl, hm5, hb5⟩
        have hbw : Below w4.heap.size w4 w5 := ⟨hb5.os, hb5.tape, hb5.output, hb5.size, hb5.block⟩
        obtain ⟨as6, cs6, rfl⟩ := hm5.form
        have HM5 : Hid (MsgsNew w5 w4.heap.size _ (ledBy RR)) := hm5
        have HB5 : Hid (Below w4.heap.size w4 w5) := hbw
        clear hm5 hb5 HA5
        go_wp2_with fail
        refine wpEarly_next hbw fun m => ?_
        refine wpEarly_nil ?_
        clear hbw
        obtain ⟨w6, hw6⟩ : ∃ w6, w6 = w5.drewN m := ⟨_, rfl⟩
        rw [← hw6]
        have hb46 : Below w4.heap.size w4 w6 := by rw [hw6]; exact below_drewN m HB5.out
        have ho6 := HT4.out.2.below hb46
        have hm6 : MsgsNew w6 (w.heap.size + 2) (.slice as6 (ledBy RR).length cs6) (ledBy RR) := by
          have := HS4.out
          rw [hw6]
          exact (HM5.out.below' (below_drewN m (Below.refl _ _))).base (by omega)
        have hr6 := HQ4.out.below hb46 HQ4.out.lt
        have hb6 : Below w.heap.size w w6 := Below.far HBB4.out hb46
        clear hb46 HM5 HB5 hw6
        have HK5 : Hid _ := turn_out0 (w := w) ho6 hm6 hr6 rfl (by omega) (by omega) hb6 _ rfl
        simp only [setAll] at HK5
        have y0 := hr6.cell 0 _ rfl
        have y1 := hr6.cell 1 _ rfl
        have y2 := hr6.cell 2 _ rfl
        have y3 := hr6.cell 3 _ rfl
        have y4 := hr6.cell 4 _ rfl
        have y5 := hr6.cell 5 _ rfl
        have y6 := hr6.cell 6 _ rfl
        have y7 := hr6.cell 7 _ rfl
        have y8 := hr6.cell 8 _ rfl
        have y9 := hr6.cell 9 _ rfl
        have f0 := hr6.frozen 0
        have f1 := hr6.frozen 1
        have f2 := hr6.frozen 2
        have f3 := hr6.frozen 3
        have f4 := hr6.frozen 4
        have f5 := hr6.frozen 5
        have f6 := hr6.frozen 6
        have f7 := hr6.frozen 7
        have f8 := hr6.frozen 8
        have f9 := hr6.frozen 9
        clear ho6 hm6 hr6 hb6
        go_wp2_with fail
        generalize (((((((((((w6.setCell ⟨w.heap.size + 1, 0, none⟩ (.int .i64 RR.me)).setCell ⟨w.heap.size + 1, 1, none⟩ (.int .i64 RR.kept.view)).setCell ⟨w.heap.size + 1, 2, none⟩ (.int .i64 RR.kept.normal)).setCell ⟨w.heap.size + 1, 3, none⟩ (.bool RR.kept.calm)).setCell ⟨w.heap.size + 1, 4, none⟩ (.slice al2 RR.kept.log.length cl2)).setCell ⟨w.heap.size + 1, 5, none⟩ (.int .i64 RR.kept.commit)).setCell ⟨w.heap.size + 1, 6, none⟩ (.slice ah2 RR.hav.length ch2)).setCell ⟨w.heap.size + 1, 7, none⟩ (.slice aw2 RR.wants.length cw2)).setCell ⟨w.heap.size + 1, 8, none⟩ (.slice ag2 RR.gives.length cg2)).setCell ⟨w.heap.size + 1, 9, none⟩ (.slice an2 RR.given.length cn2))) = w7 at HK5 ⊢
        have hR := HK5.out.1
        clear y0 f0 y1 f1 y2 f2 y3 f3 y4 f4 y5 f5 y6 f6 y7 f7 y8 f8 y9 f9
        have y0 := hR.cell 0 _ rfl
        have y1 := hR.cell 1 _ rfl
        have y2 := hR.cell 2 _ rfl
        have y3 := hR.cell 3 _ rfl
        have y4 := hR.cell 4 _ rfl
        have y5 := hR.cell 5 _ rfl
        have y6 := hR.cell 6 _ rfl
        have y7 := hR.cell 7 _ rfl
        have y8 := hR.cell 8 _ rfl
        have y9 := hR.cell 9 _ rfl
        clear hR
        exact bodyPost_ret (v := .tuple #[.agg #[.int .i64 RR.me, .int .i64 RR.kept.view, .int .i64 RR.kept.normal, .bool RR.kept.calm, .slice al2 RR.kept.log.length cl2, .int .i64 RR.kept.commit, .slice ah2 RR.hav.length ch2, .slice aw2 RR.wants.length cw2, .slice ag2 RR.gives.length cg2, .slice an2 RR.given.length cn2], .slice as6 (ledBy RR).length cs6, .int .i64 0]) (by clear HK5; simp [results, Try.results15, go_sem, *]) rfl ⟨_, _, rfl, HK5.out.2⟩
    · have hl' : leads R = false := by simpa using hl
      by_cases hc : R.kept.calm = true
      · have HRL : Hid (RR = R ∧ LL = [hasMsg R (R.kept.view.tmod 3)]) := by
          unfold Hid
          rw [HER.out.1, HER.out.2]
          unfold tickR' tickL'
          rw [if_pos hc, if_neg hl, if_pos hc]
          exact ⟨rfl, rfl⟩
        obtain ⟨hRR, hLL⟩ := HRL.out
        clear HRL
        subst hRR
        subst hLL
        have r4 := HX4.out
        have x3 := r4.cell 3 _ rfl
        rw [hl']
        rw [hc] at x3
        clear r4 HER
        go_upto_region 8 with fail
        refine wp_region_fork [0, 0, 0, 0, 0, 0, 0, 0, 0, 0, 0, 0, 0, 0, 0, 1, 1, 2, 2] 15 16 (by rfl) (by rfl) (by kernel_rfl) (by kernel_rfl) (fun h => h) (fun V => Box V w.heap.size 29 [.int .i64 RR.me, .int .i64 RR.kept.view, .int .i64 RR.kept.normal, .bool RR.kept.calm, .slice al RR.kept.log.length cl, .int .i64 RR.kept.commit, .slice ah RR.hav.length ch, .slice aw RR.wants.length cw, .slice ag RR.gives.length cg, .slice an RR.given.length cn] ∧ Box V w2.heap.size 29 [.int .i64 RR.me, .int .i64 RR.kept.view, .int .i64 RR.kept.normal, .bool RR.kept.calm, .slice al2 RR.kept.log.length cl2, .int .i64 RR.kept.commit, .slice ah2 RR.hav.length ch2, .slice aw2 RR.wants.length cw2, .slice ag2 RR.gives.length cg2, .slice an2 RR.given.length cn2]) ⟨HX4.out, HT4.out.1⟩ (fun V n hV => hV) ?_
        clear x3 hc hl hl'
        apply Exists.intro
        refine ⟨?_, ?_, ?_⟩
        · rintro V ⟨hV1, hV2⟩
          have x0 := hV1.cell 0 _ rfl
          have x1 := hV1.cell 1 _ rfl
          have x2 := hV1.cell 2 _ rfl
          have x3 := hV1.cell 3 _ rfl
          have x4 := hV1.cell 4 _ rfl
          have x5 := hV1.cell 5 _ rfl
          have x6 := hV1.cell 6 _ rfl
          have x7 := hV1.cell 7 _ rfl
          have x8 := hV1.cell 8 _ rfl
          have x9 := hV1.cell 9 _ rfl
          have y0 := hV2.cell 0 _ rfl
          have y1 := hV2.cell 1 _ rfl
          have y2 := hV2.cell 2 _ rfl
          have y3 := hV2.cell 3 _ rfl
          have y4 := hV2.cell 4 _ rfl
          have y5 := hV2.cell 5 _ rfl
          have y6 := hV2.cell 6 _ rfl
          have y7 := hV2.cell 7 _ rfl
          have y8 := hV2.cell 8 _ rfl
          have y9 := hV2.cell 9 _ rfl
          simp only [sel, ↓reduceIte, Nat.reduceEqDiff]
          repeat (go_big_quiet_step (fail))
          refine wpQuiet_nil ?_
          rfl
        · intro n
          simp only [sel, ↓reduceIte, Nat.reduceEqDiff]
          refine wpEarly_cons ?_
          go_wp2_with fail
          have hm0 := HM0.out
          obtain ⟨wa, hwa⟩ : ∃ wa, wa = (w4.drewN n).alloc (.cells #[.int .i64 2, .int .i64 RR.me, .int .i64 (RR.kept.view.tmod 3), .int .i64 RR.kept.view, .int .i64 0, .int .i64 0, .int .i64 RR.kept.log.length, .slice none 0 0] 31) := ⟨_, rfl⟩
          have hbx : Box wa w4.heap.size 31 (msgCells (hasMsg RR (RR.kept.view.tmod 3)) (.slice none 0 0)) := by rw [hwa]; exact Box.new (w4.drewN n) 31 _
          have hba : Below w4.heap.size w4 wa := by rw [hwa]; exact Below.far (below_drewN n (Below.refl _ _)) (below_alloc _ _)
          rw [← hwa]
          clear hwa
          have HBA : Hid (Below w4.heap.size w4 wa) := hba
          have HBX : Hid (Box wa w4.heap.size _ _) := hbx
          refine wpEarly_next ⟨HX4.out.below hba HX4.out.lt, HT4.out.1.below hba HT4.out.1.lt⟩ fun m => ?_
          clear hba hbx
          obtain ⟨w6, hw6⟩ : ∃ w6, w6 = wa.drewN m := ⟨_, rfl⟩
          rw [← hw6]
          have hb46 : Below w4.heap.size w4 w6 := by rw [hw6]; exact below_drewN m HBA.out
          have hbx6 : Box w6 w4.heap.size 31 (msgCells (hasMsg RR (RR.kept.view.tmod 3)) (.slice none 0 0)) := by rw [hw6]; exact HBX.out
          clear hw6 HBA HBX
          have hs4 := HS4.out
          have hm6 : MsgsNew w6 (w.heap.size + 2) (.slice (some ⟨w4.heap.size, 0, none⟩) 1 1) [hasMsg RR (RR.kept.view.tmod 3)] := MsgsNew.one hbx6 (by omega) (World.ownsRow_nil _ _ _ _) (fun k hk => by cases hk)
          have ho6 := HT4.out.2.below hb46
          have hr6 := HQ4.out.below hb46 HQ4.out.lt
          have hb6 : Below w.heap.size w w6 := Below.far HBB4.out hb46
          have HX6 := HX4.out.below hb46 HX4.out.lt
          have HZ6 := HT4.out.1.below hb46 HT4.out.1.lt
          have HK5 : Hid _ := turn_out0 (w := w) ho6 hm6 hr6 rfl (by omega) (by omega) hb6 _ rfl
          have HC5 : Hid _ := fork_keep (vs := [.int .i64 RR.me, .int .i64 RR.kept.view, .int .i64 RR.kept.normal, .bool RR.kept.calm, .slice al2 RR.kept.log.length cl2, .int .i64 RR.kept.commit, .slice ah2 RR.hav.length ch2, .slice aw2 RR.wants.length cw2, .slice ag2 RR.gives.length cg2, .slice an2 RR.given.length cn2]) HX6 HZ6 hr6 rfl (by omega) (by omega) _ rfl
          simp only [setAll] at HK5 HC5
          have y0 := hr6.cell 0 _ rfl
          have y1 := hr6.cell 1 _ rfl
          have y2 := hr6.cell 2 _ rfl
          have y3 := hr6.cell 3 _ rfl
          have y4 := hr6.cell 4 _ rfl
          have y5 := hr6.cell 5 _ rfl
          have y6 := hr6.cell 6 _ rfl
          have y7 := hr6.cell 7 _ rfl
          have y8 := hr6.cell 8 _ rfl
          have y9 := hr6.cell 9 _ rfl
          have f0 := hr6.frozen 0
          have f1 := hr6.frozen 1
          have f2 := hr6.frozen 2
          have f3 := hr6.frozen 3
          have f4 := hr6.frozen 4
          have f5 := hr6.frozen 5
          have f6 := hr6.frozen 6
          have f7 := hr6.frozen 7
          have f8 := hr6.frozen 8
          have f9 := hr6.frozen 9
          clear ho6 hm6 hr6 hb6 HX6 HZ6 hbx6 hb46
          refine wpEarly_cons ?_
          have HS : Hid _ := hs4
          clear hm0 hs4
          go_wp2_with fail
          generalize (((((((((((w6).setCell ⟨w.heap.size + 1, 0, none⟩ (.int .i64 RR.me)).setCell ⟨w.heap.size + 1, 1, none⟩ (.int .i64 RR.kept.view)).setCell ⟨w.heap.size + 1, 2, none⟩ (.int .i64 RR.kept.normal)).setCell ⟨w.heap.size + 1, 3, none⟩ (.bool RR.kept.calm)).setCell ⟨w.heap.size + 1, 4, none⟩ (.slice al2 RR.kept.log.length cl2)).setCell ⟨w.heap.size + 1, 5, none⟩ (.int .i64 RR.kept.commit)).setCell ⟨w.heap.size + 1, 6, none⟩ (.slice ah2 RR.hav.length ch2)).setCell ⟨w.heap.size + 1, 7, none⟩ (.slice aw2 RR.wants.length cw2)).setCell ⟨w.heap.size + 1, 8, none⟩ (.slice ag2 RR.gives.length cg2)).setCell ⟨w.heap.size + 1, 9, none⟩ (.slice an2 RR.given.length cn2)) = w7 at HK5 HC5 ⊢
          clear y0 y1 y2 y3 y4 y5 y6 y7 y8 y9 f0 f1 f2 f3 f4 f5 f6 f7 f8 f9
          refine wpEarly_next HC5.out fun m2 => ?_
          refine wpEarly_nil ?_
          have hbd := below_drewN m2 (Below.refl w7.heap.size w7)
          have hk1 := HK5.out.1.below hbd HK5.out.1.lt
          have hk2 := HK5.out.2.1.below hbd
          have hk3 := HK5.out.2.2.1.below' hbd
          have hk4 := below_drewN m2 HK5.out.2.2.2
          have HK6 : Hid _ := And.intro hk1 (And.intro hk2 (And.intro hk3 hk4))
          clear hbd hk1 hk2 hk3 hk4
          generalize w7.drewN m2 = w8 at HK6 ⊢
          have hR := HK6.out.1
          clear HK5 HC5
          have y0 := hR.cell 0 _ rfl
          have y1 := hR.cell 1 _ rfl
          have y2 := hR.cell 2 _ rfl
          have y3 := hR.cell 3 _ rfl
          have y4 := hR.cell 4 _ rfl
          have y5 := hR.cell 5 _ rfl
          have y6 := hR.cell 6 _ rfl
          have y7 := hR.cell 7 _ rfl
          have y8 := hR.cell 8 _ rfl
          have y9 := hR.cell 9 _ rfl
          clear hR
          go_wp2_with fail
          exact bodyPost_ret (v := .tuple #[.agg #[.int .i64 RR.me, .int .i64 RR.kept.view, .int .i64 RR.kept.normal, .bool RR.kept.calm, .slice al2 RR.kept.log.length cl2, .int .i64 RR.kept.commit, .slice ah2 RR.hav.length ch2, .slice aw2 RR.wants.length cw2, .slice ag2 RR.gives.length cg2, .slice an2 RR.given.length cn2], .slice (some ⟨w4.heap.size, 0, none⟩) 1 1, .int .i64 0]) (by clear HK6; simp [results, Try.results15, go_sem, *]) rfl ⟨_, _, rfl, HK6.out.2.1, HK6.out.2.2.1, HK6.out.2.2.2⟩
        · intro n
          simp only [sel, ↓reduceIte, Nat.reduceEqDiff]
          refine wpEarly_cons ?_
          have hs4 := HS4.out
          obtain ⟨w5, hw5⟩ : ∃ w5, w5 = w4.drewN n := ⟨_, rfl⟩
          rw [← hw5]
          have hb45 : Below w4.heap.size w4 w5 := by rw [hw5]; exact below_drewN n (Below.refl _ _)
          have ho5 := HT4.out.2.below hb45
          have hr5 := HQ4.out.below hb45 HQ4.out.lt
          have hb5 : Below w.heap.size w w5 := Below.far HBB4.out hb45
          have HX5 := HX4.out.below hb45 HX4.out.lt
          have HZ5 := HT4.out.1.below hb45 HT4.out.1.lt
          have HK5 : Hid _ := turn_out0 (w := w) ho5 (msgsNil w5 (w.heap.size + 2)) hr5 rfl (by omega) (by omega) hb5 _ rfl
          have HC5 : Hid _ := fork_keep (vs := [.int .i64 RR.me, .int .i64 RR.kept.view, .int .i64 RR.kept.normal, .bool RR.kept.calm, .slice al2 RR.kept.log.length cl2, .int .i64 RR.kept.commit, .slice ah2 RR.hav.length ch2, .slice aw2 RR.wants.length cw2, .slice ag2 RR.gives.length cg2, .slice an2 RR.given.length cn2]) HX5 HZ5 hr5 rfl (by omega) (by omega) _ rfl
          have HS5 : Hid (w.heap.size + 1 < w5.heap.size) := hr5.lt
          simp only [setAll] at HK5 HC5
          have y0 := hr5.cell 0 _ rfl
          have y1 := hr5.cell 1 _ rfl
          have y2 := hr5.cell 2 _ rfl
          have y3 := hr5.cell 3 _ rfl
          have y4 := hr5.cell 4 _ rfl
          have y5 := hr5.cell 5 _ rfl
          have y6 := hr5.cell 6 _ rfl
          have y7 := hr5.cell 7 _ rfl
          have y8 := hr5.cell 8 _ rfl
          have y9 := hr5.cell 9 _ rfl
          have f0 := hr5.frozen 0
          have f1 := hr5.frozen 1
          have f2 := hr5.frozen 2
          have f3 := hr5.frozen 3
          have f4 := hr5.frozen 4
          have f5 := hr5.frozen 5
          have f6 := hr5.frozen 6
          have f7 := hr5.frozen 7
          have f8 := hr5.frozen 8
          have f9 := hr5.frozen 9
          have HZ : Hid _ := hs4
          clear ho5 hr5 hb5 HX5 HZ5 hb45 hw5 hs4
          go_wp2_with fail
          generalize (((((((((((w5).setCell ⟨w.heap.size + 1, 0, none⟩ (.int .i64 RR.me)).setCell ⟨w.heap.size + 1, 1, none⟩ (.int .i64 RR.kept.view)).setCell ⟨w.heap.size + 1, 2, none⟩ (.int .i64 RR.kept.normal)).setCell ⟨w.heap.size + 1, 3, none⟩ (.bool RR.kept.calm)).setCell ⟨w.heap.size + 1, 4, none⟩ (.slice al2 RR.kept.log.length cl2)).setCell ⟨w.heap.size + 1, 5, none⟩ (.int .i64 RR.kept.commit)).setCell ⟨w.heap.size + 1, 6, none⟩ (.slice ah2 RR.hav.length ch2)).setCell ⟨w.heap.size + 1, 7, none⟩ (.slice aw2 RR.wants.length cw2)).setCell ⟨w.heap.size + 1, 8, none⟩ (.slice ag2 RR.gives.length cg2)).setCell ⟨w.heap.size + 1, 9, none⟩ (.slice an2 RR.given.length cn2)) = w7 at HK5 HC5 ⊢
          clear y0 y1 y2 y3 y4 y5 y6 y7 y8 y9 f0 f1 f2 f3 f4 f5 f6 f7 f8 f9
          refine wpEarly_next HC5.out fun m => ?_
          refine wpEarly_cons ?_
          go_wp2_with fail
          obtain ⟨wa, hwa⟩ : ∃ wa, wa = (w7.drewN m).alloc (.cells #[.int .i64 2, .int .i64 RR.me, .int .i64 (RR.kept.view.tmod 3), .int .i64 RR.kept.view, .int .i64 0, .int .i64 0, .int .i64 RR.kept.log.length, .slice none 0 0] 31) := ⟨_, rfl⟩
          have hbx : Box wa w7.heap.size 31 (msgCells (hasMsg RR (RR.kept.view.tmod 3)) (.slice none 0 0)) := by rw [hwa]; exact Box.new (w7.drewN m) 31 _
          have hba : Below w7.heap.size w7 wa := by rw [hwa]; exact Below.far (below_drewN m (Below.refl _ _)) (below_alloc _ _)
          rw [← hwa]
          clear hwa
          have HBA : Hid (Below w7.heap.size w7 wa) := hba
          have HBX : Hid (Box wa w7.heap.size _ _) := hbx
          refine wpEarly_next ⟨HC5.out.1.below hba HC5.out.1.lt, HC5.out.2.below hba HC5.out.2.lt⟩ fun m2 => ?_
          refine wpEarly_nil ?_
          have hbd := below_drewN m2 HBA.out
          have hbd2 := below_drewN m2 (Below.refl wa.heap.size wa)
          have hsw := HK5.out.2.2.2.size
          have hsb := HBX.out.below hbd2 HBX.out.lt
          have hk1 := HK5.out.1.below hbd HK5.out.1.lt
          have hk2 := HK5.out.2.1.below hbd
          have hk3 : MsgsNew (wa.drewN m2) w.heap.size (.slice (some ⟨w7.heap.size, 0, none⟩) 1 1) [hasMsg RR (RR.kept.view.tmod 3)] := MsgsNew.one hsb hsw (World.ownsRow_nil _ _ _ _) (fun k hk => by cases hk)
          have hk4 := Below.far HK5.out.2.2.2 hbd
          have HK6 : Hid _ := And.intro hk1 (And.intro hk2 (And.intro hk3 hk4))
          clear hbd hbd2 hsw hsb hk1 hk2 hk3 hk4 hba hbx HBA HBX
          generalize wa.drewN m2 = w8 at HK6 ⊢
          have hR := HK6.out.1
          clear HK5 HC5
          have y0 := hR.cell 0 _ rfl
          have y1 := hR.cell 1 _ rfl
          have y2 := hR.cell 2 _ rfl
          have y3 := hR.cell 3 _ rfl
          have y4 := hR.cell 4 _ rfl
          have y5 := hR.cell 5 _ rfl
          have y6 := hR.cell 6 _ rfl
          have y7 := hR.cell 7 _ rfl
          have y8 := hR.cell 8 _ rfl
          have y9 := hR.cell 9 _ rfl
          clear hR
          go_wp2_with fail
          exact bodyPost_ret (v := .tuple #[.agg #[.int .i64 RR.me, .int .i64 RR.kept.view, .int .i64 RR.kept.normal, .bool RR.kept.calm, .slice al2 RR.kept.log.length cl2, .int .i64 RR.kept.commit, .slice ah2 RR.hav.length ch2, .slice aw2 RR.wants.length cw2, .slice ag2 RR.gives.length cg2, .slice an2 RR.given.length cn2], .slice (some ⟨w7.heap.size, 0, none⟩) 1 1, .int .i64 0]) (by clear HK6; simp [results, Try.results15, go_sem, *]) rfl ⟨_, _, rfl, HK6.out.2.1, HK6.out.2.2.1, HK6.out.2.2.2⟩
      · have hc' : R.kept.calm = false := by simpa using hc
        have HRL : Hid (RR = ⟨R.me, R.kept, R.hav, R.wants.set R.me.toNat true, R.gives, R.given⟩ ∧ LL = toAll R 3 0 []) := by
          unfold Hid
          rw [HER.out.1, HER.out.2]
          unfold tickR' tickL'
          rw [if_neg hc, if_neg hl, if_neg hc]
          exact ⟨rfl, rfl⟩
        have hme := HM0.out.1.1
        have hme' := HM0.out.1.2
        have hw3 := HW3.out
        obtain ⟨hx4, ho4⟩ := HT4.out
        obtain ⟨g, cw, hvw, hgB, _, hcc, hff⟩ := own_cell ho4.2.2.2.1 R.me.toNat (by omega)
        injection hvw with q1 q2 q3
        clear q2 q3
        rw [q1] at ho4
        have hx4 := hx4
        have hcell : w4.cell? ⟨g, R.me.toNat, none⟩ = some (.bool (R.wants.getD R.me.toNat false)) := by
          rw [hcc]
          have : R.me.toNat < R.wants.length := by omega
          simp [encB, List.getD, this]
        obtain ⟨mi, hmi⟩ : ∃ mi : Nat, R.me = (mi : Int) := ⟨R.me.toNat, by omega⟩
        have emi : R.me.toNat = mi := by omega
        have k0 : (0 : Int) ≤ (mi : Int) := by omega
        have k1 : (mi : Int) < (R.wants.length : Int) := by omega
        have hml : mi < R.wants.length := by omega
        obtain ⟨w5, hw5⟩ : ∃ w5, w5 = w4.setCell ⟨g, mi, none⟩ (.bool true) := ⟨_, rfl⟩
        have hx5 := hx4.row ho4.2.2.2.1 rfl (by decide) (.bool true) (i := mi)
        have ho5 := ho4.wants mi true
        have hq5 := HQ4.out.row ho4.2.2.2.1 rfl (by decide) (.bool true) (i := mi)
        have hbb5 := (Beside.refl (w.heap.size + 2) w2.heap.size w4).setCell (a := ⟨g, mi, none⟩) (Or.inr hgB) (.bool true)
        rw [← hw5] at hx5 ho5 hq5 hbb5
        rw [← q1, ← emi] at ho5
        have HX5 : Hid (Box w5 w2.heap.size _ _) := hx5
        have HO5 : Hid (ReplOwn w5 (w.heap.size + 2) _ _ _ _ _ _ _) := ho5
        have HQ5 : Hid (Box w5 (w.heap.size + 1) _ _) := hq5
        have HBB5 : Hid (Beside (w.heap.size + 2) w2.heap.size w4 w5) := hbb5
        clear hx5 ho5 hq5 hbb5
        have r4 := HX4.out
        have x3 := r4.cell 3 _ rfl
        have x0 := r4.cell 0 _ rfl
        have x1 := r4.cell 1 _ rfl
        have z0 := hx4.cell 0 _ rfl
        have z1 := hx4.cell 1 _ rfl
        have z2 := hx4.cell 2 _ rfl
        have z3 := hx4.cell 3 _ rfl
        have z4 := hx4.cell 4 _ rfl
        have z5 := hx4.cell 5 _ rfl
        have z6 := hx4.cell 6 _ rfl
        have z7 := hx4.cell 7 _ rfl
        have z8 := hx4.cell 8 _ rfl
        have z9 := hx4.cell 9 _ rfl
        rw [q1] at z7
        have HQW : Hid (aw2 = some ⟨g, 0, none⟩) := q1
        clear q1
        rw [hl']
        rw [hc'] at x3
        rw [hmi] at x0
        rw [emi] at hcell hff
        generalize R.wants.getD mi false = s0 at hcell
        clear hx4 ho4 hcc r4 HER hl hl' hc hc' HX4 HT4 HQ4 hme hme' hw3
        go_upto_region 9 with fail
        go_upto_region 10 with fail
        rw [← hw5]
        have HS5 : Hid (w5.heap.size = w4.heap.size) := by rw [hw5]; simp [Hid]
        clear hw5 x0 x1 x3 z0 z1 z2 z3 z4 z5 z6 z7 z8 z9 hcell hff HQW k0 k1 hmi emi hml
        refine wp_region_free [0, 0, 0, 1, 2, 2, 2] (by kernel_rfl) (by kernel_rfl) (fun h => h) (Below w5.heap.size w5) (Below.refl _ _) (fun V n hV => below_drewN n hV) ?_
        apply Exists.intro
        refine ⟨?_, ?_⟩
        · intro V hV
          have bx := HX5.out.below hV HX5.out.lt
          have x0 := bx.cell 0 _ rfl
          have x1 := bx.cell 1 _ rfl
          have x2 := bx.cell 2 _ rfl
          have x3 := bx.cell 3 _ rfl
          have x4 := bx.cell 4 _ rfl
          have x5 := bx.cell 5 _ rfl
          have x6 := bx.cell 6 _ rfl
          have x7 := bx.cell 7 _ rfl
          have x8 := bx.cell 8 _ rfl
          have x9 := bx.cell 9 _ rfl
          simp only [sel, ↓reduceIte, Nat.reduceEqDiff]
          repeat (go_big_quiet_step (fail))
          refine wpQuiet_nil ?_
          rfl
        · intro n
          simp only [sel, ↓reduceIte, Nat.reduceEqDiff]
          refine wpEarly_cons ?_
          go_wp2_with fail
          have HTA : Hid (Calls _ _ _ (w5.drewN n) _) := toAllOf_any R.me R.kept.view (.int .i64 R.kept.normal) (.bool R.kept.calm) (.slice al2 R.kept.log.length cl2) (.int .i64 R.kept.commit) (.slice ah2 R.hav.length ch2) (.slice aw2 R.wants.length cw2) (.slice ag2 R.gives.length cg2) (.slice an2 R.given.length cn2) ⟨3, 0, 0, 0, 0, 0, 0, []⟩ (.slice none 0 0) (w5.drewN n) (rowAt_nil _) (by simp)
          have e1 : sentTo R.me R.kept.view ⟨3, 0, 0, 0, 0, 0, 0, []⟩ 3 = toAll R 3 0 [] := sentTo_all R 3 0 0 [] rfl 0 0 0 0 rfl
          rw [e1] at HTA
          simp only [msgCells] at HTA
          clear e1
          refine HTA.out.mono ?_
          rintro e wx ⟨v6, rfl, hm6, hb6⟩
          have hbw : Below w5.heap.size w5 wx := ⟨hb6.os, hb6.tape, hb6.output, hb6.size, hb6.block⟩
          obtain ⟨as6, cs6, rfl⟩ := hm6.form
          have HM6 : Hid (MsgsNew wx w5.heap.size _ (toAll R 3 0 [])) := hm6
          have HB6 : Hid (Below w5.heap.size w5 wx) := hbw
          clear hm6 hb6 HTA
          go_wp2_with fail
          refine wpEarly_next hbw fun m => ?_
          refine wpEarly_nil ?_
          clear hbw
          obtain ⟨w6, hw6⟩ : ∃ w6, w6 = wx.drewN m := ⟨_, rfl⟩
          rw [← hw6]
          have hb56 : Below w5.heap.size w5 w6 := by rw [hw6]; exact below_drewN m HB6.out
          have hm6 : MsgsNew w6 (w.heap.size + 2) (.slice as6 (toAll R 3 0 []).length cs6) (toAll R 3 0 []) := by
            have h1 := HS4.out
            have h2 := HS5.out
            rw [hw6]
            exact (HM6.out.below' (below_drewN m (Below.refl _ _))).base (by omega)
          have ho6 := HO5.out.below hb56
          have hr6 := HQ5.out.below hb56 HQ5.out.lt
          have hb6 : Below w.heap.size w w6 := by
            have h1 := HS4.out
            have h2 := HS5.out
            have h3 := HBB4.out.size
            exact Below.far (HBB4.out.trans (HBB5.out.below (by omega) (by omega))) hb56
          obtain ⟨rfl, rfl⟩ := HRL.out
          clear HM6 HB6 hw6 hb56 HRL
          have HK5 : Hid _ := turn_out0 (w := w) ho6 hm6 hr6 rfl (by omega) (by omega) hb6 _ rfl
          simp only [setAll] at HK5
          have y0 := hr6.cell 0 _ rfl
          have y1 := hr6.cell 1 _ rfl
          have y2 := hr6.cell 2 _ rfl
          have y3 := hr6.cell 3 _ rfl
          have y4 := hr6.cell 4 _ rfl
          have y5 := hr6.cell 5 _ rfl
          have y6 := hr6.cell 6 _ rfl
          have y7 := hr6.cell 7 _ rfl
          have y8 := hr6.cell 8 _ rfl
          have y9 := hr6.cell 9 _ rfl
          have f0 := hr6.frozen 0
          have f1 := hr6.frozen 1
          have f2 := hr6.frozen 2
          have f3 := hr6.frozen 3
          have f4 := hr6.frozen 4
          have f5 := hr6.frozen 5
          have f6 := hr6.frozen 6
          have f7 := hr6.frozen 7
          have f8 := hr6.frozen 8
          have f9 := hr6.frozen 9
          clear ho6 hm6 hr6 hb6
          go_wp2_with fail
          generalize (((((((((((w6.setCell ⟨w.heap.size + 1, 0, none⟩ (.int .i64 R.me)).setCell ⟨w.heap.size + 1, 1, none⟩ (.int .i64 R.kept.view)).setCell ⟨w.heap.size + 1, 2, none⟩ (.int .i64 R.kept.normal)).setCell ⟨w.heap.size + 1, 3, none⟩ (.bool R.kept.calm)).setCell ⟨w.heap.size + 1, 4, none⟩ (.slice al2 R.kept.log.length cl2)).setCell ⟨w.heap.size + 1, 5, none⟩ (.int .i64 R.kept.commit)).setCell ⟨w.heap.size + 1, 6, none⟩ (.slice ah2 R.hav.length ch2)).setCell ⟨w.heap.size + 1, 7, none⟩ (.slice aw2 R.wants.length cw2)).setCell ⟨w.heap.size + 1, 8, none⟩ (.slice ag2 R.gives.length cg2)).setCell ⟨w.heap.size + 1, 9, none⟩ (.slice an2 R.given.length cn2))) = w7 at HK5 ⊢
          have hR := HK5.out.1
          clear y0 f0 y1 f1 y2 f2 y3 f3 y4 f4 y5 f5 y6 f6 y7 f7 y8 f8 y9 f9
          have y0 := hR.cell 0 _ rfl
          have y1 := hR.cell 1 _ rfl
          have y2 := hR.cell 2 _ rfl
          have y3 := hR.cell 3 _ rfl
          have y4 := hR.cell 4 _ rfl
          have y5 := hR.cell 5 _ rfl
          have y6 := hR.cell 6 _ rfl
          have y7 := hR.cell 7 _ rfl
          have y8 := hR.cell 8 _ rfl
          have y9 := hR.cell 9 _ rfl
          clear hR
          exact bodyPost_ret (v := .tuple #[.agg #[.int .i64 R.me, .int .i64 R.kept.view, .int .i64 R.kept.normal, .bool R.kept.calm, .slice al2 R.kept.log.length cl2, .int .i64 R.kept.commit, .slice ah2 R.hav.length ch2, .slice aw2 R.wants.length cw2, .slice ag2 R.gives.length cg2, .slice an2 R.given.length cn2], .slice as6 (toAll R 3 0 []).length cs6, .int .i64 0]) (by clear HK5; simp [results, Try.results15, go_sem, *]) rfl ⟨_, _, rfl, HK5.out.2⟩
  · obtain ⟨e1, e2, e3⟩ := N1.out hE
    subst e2 e3
    have hEE : ¬ EE = 0 := by rw [e1]; exact hE
    rw [← e1]
    clear N1 N2 HD e1 hE HME HWL HLD
    go_wp2_with fail
    have key : ∀ w4, w4 = setAll w1 (w.heap.size + 1) 0 [.int .i64 0, .int .i64 0, .int .i64 0, .bool false, .slice none 0 0, .int .i64 0, .slice none 0 0, .slice none 0 0, .slice none 0 0, .slice none 0 0] → Hid (Box w4 (w.heap.size + 1) 29 [.int .i64 0, .int .i64 0, .int .i64 0, .bool false, .slice none 0 0, .int .i64 0, .slice none 0 0, .slice none 0 0, .slice none 0 0, .slice none 0 0] ∧ Below w.heap.size w w4) := by
      intro w4 e4
      subst e4
      exact ⟨setAll_box HR1.out _ rfl, (setAll_beside _ _ _ _ (Beside.of HBE.out)).below (Nat.le_refl _) (by omega)⟩
    have key := key _ rfl
    simp only [setAll] at key
    generalize ((((((((((w1.setCell ⟨w.heap.size + 1, 0, none⟩ (.int .i64 0)).setCell ⟨w.heap.size + 1, 1, none⟩ (.int .i64 0)).setCell ⟨w.heap.size + 1, 2, none⟩ (.int .i64 0)).setCell ⟨w.heap.size + 1, 3, none⟩ (.bool false)).setCell ⟨w.heap.size + 1, 4, none⟩ (.slice none 0 0)).setCell ⟨w.heap.size + 1, 5, none⟩ (.int .i64 0)).setCell ⟨w.heap.size + 1, 6, none⟩ (.slice none 0 0)).setCell ⟨w.heap.size + 1, 7, none⟩ (.slice none 0 0)).setCell ⟨w.heap.size + 1, 8, none⟩ (.slice none 0 0)).setCell ⟨w.heap.size + 1, 9, none⟩ (.slice none 0 0)) = w4 at key ⊢
    clear y0 y1 y2 y3 y4 y5 y6 y7 y8 y9 f0 f1 f2 f3 f4 f5 f6 f7 f8 f9
    have hR := key.out.1
    have y0 := hR.cell 0 _ rfl
    have y1 := hR.cell 1 _ rfl
    have y2 := hR.cell 2 _ rfl
    have y3 := hR.cell 3 _ rfl
    have y4 := hR.cell 4 _ rfl
    have y5 := hR.cell 5 _ rfl
    have y6 := hR.cell 6 _ rfl
    have y7 := hR.cell 7 _ rfl
    have y8 := hR.cell 8 _ rfl
    have y9 := hR.cell 9 _ rfl
    clear hR
    exact bodyPost_ret (v := .tuple #[.agg #[.int .i64 0, .int .i64 0, .int .i64 0, .bool false, .slice none 0 0, .int .i64 0, .slice none 0 0, .slice none 0 0, .slice none 0 0, .slice none 0 0], .slice none 0 0, .int .i64 EE]) (by clear key HR1 HBE; simp [results, Try.results15, go_sem, *]) rfl ⟨_, _, rfl, replNil _ _, msgsNil _ _, key.out.2⟩

end Go.Proofs.Ytmdgkjbiicaljag
