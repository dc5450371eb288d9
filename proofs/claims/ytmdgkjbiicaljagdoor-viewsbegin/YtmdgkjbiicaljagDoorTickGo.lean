/- The program's own replica.Tick and replica.Alarm. -/
import Derived.Test.YtmdgkjbiicaljagDoorTurnTell
import Derived.Test.YtmdgkjbiicaljagDoorCheckGo
import Derived.Test.YtmdgkjbiicaljagDoorCopyGo
import Derived.Test.YtmdgkjbiicaljagDoorJointTurnGo
namespace Go.Proofs.YtmdgkjbiicaljagDoor
open Go.RowKit
set_option linter.unusedVariables false
set_option linter.unusedSimpArgs false

/-- What a call answers: a replica, and messages. -/
def Answers (w : World) (e : Ending) (w' : World) (R : ReplM) (L : List MsgM) (c : Int) : Prop :=
  ∃ v vs, e = .returned (.tuple #[v, vs, .int .i64 c]) ∧ ReplNew w' w.heap.size v R ∧ MsgsNew w' w.heap.size vs L ∧ Below w.heap.size w w'
theorem msgsNil (w : World) (B : Nat) : MsgsNew w B (.slice none 0 0) [] := ⟨[], rfl, World.ownsRow_nil _ _ _ _, fun p hp => by simp at hp⟩
theorem MsgsNew.base {w : World} {B B' : Nat} {v : Value} {L : List MsgM} (h : MsgsNew w B v L) (hb : B' ≤ B) : MsgsNew w B' v L := by
  obtain ⟨ps, h1, h2⟩ := h
  exact ⟨ps, h1, h2.base hb⟩
theorem MsgsNew.form {w : World} {B : Nat} {v : Value} {L : List MsgM} (h : MsgsNew w B v L) : ∃ a c, v = .slice a L.length c := by
  obtain ⟨ps, h1, h2⟩ := h
  obtain ⟨a, c, hv⟩ := own_formN h2.1
  exact ⟨a, c, by rw [hv, h1, List.length_map]⟩
theorem ReplOwn.forms {w : World} {B : Nat} {R : ReplM} {vl vh vw vg vn : Value} {ps : List (KeptM × Value)} (h : ReplOwn w B R vl vh vw vg vn ps) : ∃ al cl ah ch aw cw ag cg an cn, vl = .slice al R.kept.log.length cl ∧ vh = .slice ah R.hav.length ch ∧ vw = .slice aw R.wants.length cw ∧ vg = .slice ag R.gives.length cg ∧ vn = .slice an R.given.length cn := by
  obtain ⟨h1, h2, h3, h4, h5, h6, _⟩ := h
  obtain ⟨al, cl, rfl⟩ := own_form h2
  obtain ⟨ah, ch, rfl⟩ := own_form h3
  obtain ⟨aw, cw, rfl⟩ := own_form h4
  obtain ⟨ag, cg, rfl⟩ := own_formN h5.1
  obtain ⟨an, cn, rfl⟩ := own_form h6
  exact ⟨al, cl, ah, ch, aw, cw, ag, cg, an, cn, rfl, rfl, rfl, by rw [h1, List.length_map], rfl⟩
/-- A turn begins with a copy of a replica. -/
theorem turn_new {w2 : World} {B B' : Nat} {R : ReplM} {vl vh vw vg vn : Value} {ps : List (KeptM × Value)} (h : ReplOwn w2 B R vl vh vw vg vn ps) (hb : B' ≤ B) (w3 : World) (hw : w3 = w2.alloc (.cells #[.int .i64 R.me, .int .i64 R.kept.view, .int .i64 R.kept.normal, .bool R.kept.calm, vl, .int .i64 R.kept.commit, vh, vw, vg, vn, .slice none 0 0] 68)) :
    TurnAt w3 w2.heap.size B' R [] ∧ Box w3 w2.heap.size 68 [.int .i64 R.me, .int .i64 R.kept.view, .int .i64 R.kept.normal, .bool R.kept.calm, vl, .int .i64 R.kept.commit, vh, vw, vg, vn, .slice none 0 0] ∧ ReplOwn w3 B' R vl vh vw vg vn ps ∧ Below w2.heap.size w2 w3 ∧ w3.heap.size = w2.heap.size + 1 := by
  have hbl := below_alloc w2 (.cells #[.int .i64 R.me, .int .i64 R.kept.view, .int .i64 R.kept.normal, .bool R.kept.calm, vl, .int .i64 R.kept.commit, vh, vw, vg, vn, .slice none 0 0] 68)
  have hbx := Box.new w2 68 [.int .i64 R.me, .int .i64 R.kept.view, .int .i64 R.kept.normal, .bool R.kept.calm, vl, .int .i64 R.kept.commit, vh, vw, vg, vn, .slice none 0 0]
  subst hw
  exact ⟨⟨_, _, _, _, _, _, _, hbx, (h.below hbl).base hb, msgsNil _ _⟩, hbx, (h.below hbl).base hb, hbl, by simp⟩
/-- A turn ends: its replica is stored as the result. -/
theorem turn_out {w w4 : World} {B r : Nat} {R : ReplM} {L : List MsgM} {vl vh vw vg vn vs : Value} {ps : List (KeptM × Value)} {cs : List Value} (ho : ReplOwn w4 B R vl vh vw vg vn ps) (hm : MsgsNew w4 B vs L) (hr : Box w4 r 30 cs) (hl : cs.length = 10) (hB : w.heap.size ≤ B) (hrw : w.heap.size ≤ r) (hbel : Below w.heap.size w w4)
    (w5 : World) (hw : w5 = setAll w4 r 0 [.int .i64 R.me, .int .i64 R.kept.view, .int .i64 R.kept.normal, .bool R.kept.calm, vl, .int .i64 R.kept.commit, vh, vw, vg, vn]) :
    Hid (Box w5.drew r 30 [.int .i64 R.me, .int .i64 R.kept.view, .int .i64 R.kept.normal, .bool R.kept.calm, vl, .int .i64 R.kept.commit, vh, vw, vg, vn] ∧
      ReplNew w5.drew w.heap.size (.agg #[.int .i64 R.me, .int .i64 R.kept.view, .int .i64 R.kept.normal, .bool R.kept.calm, vl, .int .i64 R.kept.commit, vh, vw, vg, vn]) R ∧ MsgsNew w5.drew w.heap.size vs L ∧ Below w.heap.size w w5.drew) := by
  obtain ⟨qs, hL, hq⟩ := hm
  have h1 := setAll_box hr [.int .i64 R.me, .int .i64 R.kept.view, .int .i64 R.kept.normal, .bool R.kept.calm, vl, .int .i64 R.kept.commit, vh, vw, vg, vn] (by rw [hl]; rfl)
  have h2 := ho.setAll hr (by decide) (by decide) (by decide) (by decide) 0 [.int .i64 R.me, .int .i64 R.kept.view, .int .i64 R.kept.normal, .bool R.kept.calm, vl, .int .i64 R.kept.commit, vh, vw, vg, vn]
  have h3 := hq.setAll hr (by decide) (by decide) 0 [.int .i64 R.me, .int .i64 R.kept.view, .int .i64 R.kept.normal, .bool R.kept.calm, vl, .int .i64 R.kept.commit, vh, vw, vg, vn]
  have h4 := setAll_beside [.int .i64 R.me, .int .i64 R.kept.view, .int .i64 R.kept.normal, .bool R.kept.calm, vl, .int .i64 R.kept.commit, vh, vw, vg, vn] w w4 0 (Beside.of (b := r) hbel)
  rw [← hw] at h1 h2 h3 h4
  clear hw
  exact ⟨h1, ⟨_, _, _, _, _, ps, rfl, (h2.map fun e s x m xs _ h => own_drew h).base hB⟩, ⟨qs, hL, (h3.map fun e s x m xs _ h => own_drew h).base hB⟩, (h4.below (Nat.le_refl _) hrw).drew⟩

theorem repl_me (R : ReplM) (h : replFault R = 0) : (0 ≤ R.me ∧ R.me < 3) ∧ 0 ≤ R.kept.view ∧ R.kept.view ≤ 1048576 := by
  unfold replFault at h
  split at h
  · rename_i hm
    split at h
    · have m := keptMay_of _ h
      exact ⟨⟨hm.1, by omega⟩, m.v0, m.v1⟩
    · omega
  · omega

set_option maxRecDepth 4000 in
set_option maxHeartbeats 4000000 in
theorem alarmGo_any (R : ReplM) (v : Value) (w : World) (h : ReplAt w v R) (hf : ReplFits R) :
    Calls Tryd.prog 13 #[v] w fun e w' => Answers w e w' (alarmR R) (alarmL R) (alarmE R) := by
  have HC : Hid (∀ W, Below w.heap.size w W → Calls _ _ _ W _) := fun W hW => replCheck_any R _ W (h.below hW)
  have HD : Hid (∀ W, Below w.heap.size w W → Calls _ _ _ W _) := fun W hW => replCopy_any R _ W (h.below hW) hf
  have HME : Hid (replFault R = 0 → (0 ≤ R.me ∧ R.me < 3) ∧ 0 ≤ R.kept.view ∧ R.kept.view ≤ 1048576) := repl_me R
  have N1 : Hid (¬ replFault R = 0 → alarmE R = replFault R ∧ alarmR R = zeroRepl ∧ alarmL R = []) := fun hE => by
    have eE : alarmE R = replFault R := by unfold alarmE; rw [if_pos hE]
    exact ⟨eE, by unfold alarmR; rw [eE, if_neg hE], by unfold alarmL; rw [eE, if_neg hE]⟩
  have N2 : Hid (replFault R = 0 → R.kept.view = 1048576 → alarmE R = 7 ∧ alarmR R = zeroRepl ∧ alarmL R = []) := fun hE hv => by
    have eE : alarmE R = 7 := by unfold alarmE; rw [if_neg (by simpa using hE), if_pos (by omega)]
    exact ⟨eE, by unfold alarmR; rw [eE]; rfl, by unfold alarmL; rw [eE]; rfl⟩
  have N3 : Hid (replFault R = 0 → ¬ R.kept.view = 1048576 → alarmE R = 0 ∧ alarmR R = wantR R (R.kept.view + 1) ∧ alarmL R = wantL R (R.kept.view + 1)) := fun hE hv => by
    have := (repl_me R hE).2
    have eE : alarmE R = 0 := by unfold alarmE; rw [if_neg (by simpa using hE), if_neg (by omega)]
    exact ⟨eE, by unfold alarmR; rw [eE]; rfl, by unfold alarmL; rw [eE]; rfl⟩
  generalize alarmE R = EE at *
  generalize alarmR R = RR at *
  generalize alarmL R = LL at *
  obtain ⟨vl, vh, vw, vg, vn, rfl, hl, hh, hw, hg, hn⟩ := h
  obtain ⟨al, cl, rfl, _, _⟩ := hl
  obtain ⟨ah, ch, rfl, _, _⟩ := hh
  obtain ⟨aw, cw, rfl, _, _⟩ := hw
  obtain ⟨ag, cg, rfl, _, _⟩ := hg
  obtain ⟨an, cn, rfl, _, _⟩ := hn
  simp only [replCells] at *
  obtain ⟨b0, b1, hb⟩ := boxes2 w 30 30 [.int .i64 R.me, .int .i64 R.kept.view, .int .i64 R.kept.normal, .bool R.kept.calm, .slice al R.kept.log.length cl, .int .i64 R.kept.commit, .slice ah R.hav.length ch, .slice aw R.wants.length cw, .slice ag R.gives.length cg, .slice an R.given.length cn] [.int .i64 0, .int .i64 0, .int .i64 0, .bool false, .slice none 0 0, .int .i64 0, .slice none 0 0, .slice none 0 0, .slice none 0 0, .slice none 0 0]
  obtain ⟨w0, hw0⟩ : ∃ w0, w0 = (w.alloc (.cells #[.int .i64 R.me, .int .i64 R.kept.view, .int .i64 R.kept.normal, .bool R.kept.calm, .slice al R.kept.log.length cl, .int .i64 R.kept.commit, .slice ah R.hav.length ch, .slice aw R.wants.length cw, .slice ag R.gives.length cg, .slice an R.given.length cn] 30)).alloc (.cells #[.int .i64 0, .int .i64 0, .int .i64 0, .bool false, .slice none 0 0, .int .i64 0, .slice none 0 0, .slice none 0 0, .slice none 0 0, .slice none 0 0] 30) := ⟨_, rfl⟩
  have hsz : w0.heap.size = w.heap.size + 1 + 1 := by rw [hw0]; simp
  go_enter Tryd.func13, Tryd.ntmps13
  go_upto_region 1 with fail
  rw [← hw0] at b0 b1 hb ⊢
  clear hw0
  have HB0 : Hid (Box w0 w.heap.size _ _) := b0
  have HB1 : Hid (Box w0 (w.heap.size + 1) _ _) := b1
  have HBW : Hid (Below w.heap.size w w0) := hb
  have HSZ : Hid (w0.heap.size = w.heap.size + 1 + 1) := hsz
  have x0 := b0.cell 0 _ rfl
  have x1 := b0.cell 1 _ rfl
  have x2 := b0.cell 2 _ rfl
  have x3 := b0.cell 3 _ rfl
  have x4 := b0.cell 4 _ rfl
  have x5 := b0.cell 5 _ rfl
  have x6 := b0.cell 6 _ rfl
  have x7 := b0.cell 7 _ rfl
  have x8 := b0.cell 8 _ rfl
  have x9 := b0.cell 9 _ rfl
  clear b0 b1 hb hsz
  go_wp2_with fail
  refine (HC.out _ HBW.out).mono ?_
  rintro e w1 ⟨rfl, hb1⟩
  have HB2 : Hid (Below w0.heap.size w0 w1) := hb1
  have r0 := HB0.out.below hb1 HB0.out.lt
  have r1 := HB1.out.below hb1 HB1.out.lt
  clear hb1 x0 x1 x2 x3 x4 x5 x6 x7 x8 x9 HC
  have x0 := r0.cell 0 _ rfl
  have x1 := r0.cell 1 _ rfl
  have x2 := r0.cell 2 _ rfl
  have x3 := r0.cell 3 _ rfl
  have x4 := r0.cell 4 _ rfl
  have x5 := r0.cell 5 _ rfl
  have x6 := r0.cell 6 _ rfl
  have x7 := r0.cell 7 _ rfl
  have x8 := r0.cell 8 _ rfl
  have x9 := r0.cell 9 _ rfl
  have y0 := r1.cell 0 _ rfl
  have y1 := r1.cell 1 _ rfl
  have y2 := r1.cell 2 _ rfl
  have y3 := r1.cell 3 _ rfl
  have y4 := r1.cell 4 _ rfl
  have y5 := r1.cell 5 _ rfl
  have y6 := r1.cell 6 _ rfl
  have y7 := r1.cell 7 _ rfl
  have y8 := r1.cell 8 _ rfl
  have y9 := r1.cell 9 _ rfl
  have f0 := r1.frozen 0
  have f1 := r1.frozen 1
  have f2 := r1.frozen 2
  have f3 := r1.frozen 3
  have f4 := r1.frozen 4
  have f5 := r1.frozen 5
  have f6 := r1.frozen 6
  have f7 := r1.frozen 7
  have f8 := r1.frozen 8
  have f9 := r1.frozen 9
  have HR1 : Hid (Box w1 (w.heap.size + 1) _ _) := r1
  have HR0 : Hid (Box w1 w.heap.size _ _) := r0
  have HBE : Hid (Below w.heap.size w w1) := Below.far HBW.out HB2.out
  clear r0 r1
  have HFT : Hid (ReplFits R) := hf
  clear hf
  by_cases hE : replFault R = 0
  · by_cases hv : R.kept.view = 1048576
    · obtain ⟨e1, e2, e3⟩ := N2.out hE hv
      subst e1 e2 e3
      rw [hE]
      clear N1 N2 N3 HD
      go_wp2_with fail
      have key : ∀ w4, w4 = setAll w1 (w.heap.size + 1) 0 [.int .i64 0, .int .i64 0, .int .i64 0, .bool false, .slice none 0 0, .int .i64 0, .slice none 0 0, .slice none 0 0, .slice none 0 0, .slice none 0 0] → Hid (Box w4 (w.heap.size + 1) 30 [.int .i64 0, .int .i64 0, .int .i64 0, .bool false, .slice none 0 0, .int .i64 0, .slice none 0 0, .slice none 0 0, .slice none 0 0, .slice none 0 0] ∧ Below w.heap.size w w4) := by
        intro w4 e4
        subst e4
        exact ⟨setAll_box HR1.out _ rfl, (setAll_beside _ _ _ _ (Beside.of HBE.out)).below (Nat.le_refl _) (by omega)⟩
      have key := key _ rfl
      simp only [setAll] at key
      generalize ((((((((((w1.setCell ⟨w.heap.size + 1, 0, none⟩ (.int .i64 0)).setCell ⟨w.heap.size + 1, 1, none⟩ (.int .i64 0)).setCell ⟨w.heap.size + 1, 2, none⟩ (.int .i64 0)).setCell ⟨w.heap.size + 1, 3, none⟩ (.bool false)).setCell ⟨w.heap.size + 1, 4, none⟩ (.slice none 0 0)).setCell ⟨w.heap.size + 1, 5, none⟩ (.int .i64 0)).setCell ⟨w.heap.size + 1, 6, none⟩ (.slice none 0 0)).setCell ⟨w.heap.size + 1, 7, none⟩ (.slice none 0 0)).setCell ⟨w.heap.size + 1, 8, none⟩ (.slice none 0 0)).setCell ⟨w.heap.size + 1, 9, none⟩ (.slice none 0 0)) = w4 at key ⊢
      clear y0 y1 y2 y3 y4 y5 y6 y7 y8 y9 f0 f1 f2 f3 f4 f5 f6 f7 f8 f9
      have hR := key.out.1
      have y0 := hR.cell 0 _ rfl
      have y1 := hR.cell 1 _ rfl
      have y2 := hR.cell 2 _ rfl
      have y3 := hR.cell 3 _ rfl
      have y4 := hR.cell 4 _ rfl
      have y5 := hR.cell 5 _ rfl
      have y6 := hR.cell 6 _ rfl
      have y7 := hR.cell 7 _ rfl
      have y8 := hR.cell 8 _ rfl
      have y9 := hR.cell 9 _ rfl
      clear hR
      exact bodyPost_ret (v := .tuple #[.agg #[.int .i64 0, .int .i64 0, .int .i64 0, .bool false, .slice none 0 0, .int .i64 0, .slice none 0 0, .slice none 0 0, .slice none 0 0, .slice none 0 0], .slice none 0 0, .int .i64 7]) (by clear key HR1 HBE; simp [results, Tryd.results13, go_sem, *]) rfl ⟨_, _, rfl, replNil _ _, msgsNil _ _, key.out.2⟩
    · obtain ⟨e1, e2, e3⟩ := N3.out hE hv
      subst e1
      have HER : Hid (RR = wantR R (R.kept.view + 1) ∧ LL = wantL R (R.kept.view + 1)) := ⟨e2, e3⟩
      clear e2 e3
      obtain ⟨⟨hm0, hm1⟩, hv0, hv1⟩ := HME.out hE
      rw [hE]
      have qv : (R.kept.view == 1048576) = false := by simpa using hv
      clear N1 N2 N3 HME y0 y1 y2 y3 y4 y5 y6 y7 y8 y9 f0 f1 f2 f3 f4 f5 f6 f7 f8 f9
      go_wp2_with fail
      refine (HD.out _ HBE.out).mono ?_
      rintro e w2 ⟨v2, rfl, ⟨vl2, vh2, vw2, vg2, vn2, ps2, rfl, ho2⟩, hb2⟩
      obtain ⟨al2, cl2, ah2, ch2, aw2, cw2, ag2, cg2, an2, cn2, rfl, rfl, rfl, rfl, rfl⟩ := ho2.forms
      simp only [replCells]
      have r0 := HR0.out.below hb2 HR0.out.lt
      have r1 := HR1.out.below hb2 HR1.out.lt
      have x1' := (r0.alloc (.cells #[.int .i64 R.me, .int .i64 R.kept.view, .int .i64 R.kept.normal, .bool R.kept.calm, .slice al2 R.kept.log.length cl2, .int .i64 R.kept.commit, .slice ah2 R.hav.length ch2, .slice aw2 R.wants.length cw2, .slice ag2 R.gives.length cg2, .slice an2 R.given.length cn2, .slice none 0 0] 68)).cell 1 _ rfl
      obtain ⟨w3, hw3⟩ : ∃ w3, w3 = w2.alloc (.cells #[.int .i64 R.me, .int .i64 R.kept.view, .int .i64 R.kept.normal, .bool R.kept.calm, .slice al2 R.kept.log.length cl2, .int .i64 R.kept.commit, .slice ah2 R.hav.length ch2, .slice aw2 R.wants.length cw2, .slice ag2 R.gives.length cg2, .slice an2 R.given.length cn2, .slice none 0 0] 68) := ⟨_, rfl⟩
      have hs0 := HSZ.out
      have hs1 := HB2.out.size
      have hs2 := hb2.size
      obtain ⟨ht3, hx3, ho3, hb3, hs3⟩ := turn_new ho2 (B' := w.heap.size + 2) (by omega) w3 hw3
      have HT3 : Hid (TurnAt w3 w2.heap.size (w.heap.size + 2) R []) := ht3
      have HBB : Hid (Below w.heap.size w w3) := Below.far (Below.far HBE.out hb2) hb3
      have HQ1 : Hid (Box w3 (w.heap.size + 1) _ _) := r1.below hb3 (by omega)
      have HS3 : Hid (w.heap.size + 2 ≤ w2.heap.size ∧ w3.heap.size = w2.heap.size + 1) := ⟨by omega, hs3⟩
      rw [← hw3] at x1'
      clear ht3 hx3 ho3 hb3 hs3 r0 r1 ho2 hb2 x0 x1 x2 x3 x4 x5 x6 x7 x8 x9 HD hs0 hs1 hs2
      go_upto_region 7 with fail
      rw [← hw3]
      clear hw3
      go_wp2_with fail
      refine (want_any _ _ R _ [] w3 HT3.out hm0 hm1 (by simp) (by have := HS3.out; omega)).mono ?_
      rintro e w4 ⟨rfl, ht4, hb4, _⟩
      have ht4 : TurnAt w4 w2.heap.size (w.heap.size + 2) RR LL := by rw [HER.out.1, HER.out.2]; exact ht4
      obtain ⟨vl4, vh4, vw4, vg4, vn4, vs4, ps4, hx4, ho4, hm4⟩ := ht4
      obtain ⟨al4, cl4, ah4, ch4, aw4, cw4, ag4, cg4, an4, cn4, rfl, rfl, rfl, rfl, rfl⟩ := ho4.forms
      obtain ⟨as4, cs4, rfl⟩ := hm4.form
      have r1 := HQ1.out.beside hb4 (by omega) (by have := HS3.out; omega)
      have HK5 : Hid _ := turn_out (w := w) ho4 hm4 r1 rfl (by omega) (by omega) (HBB.out.trans (hb4.below (by omega) (by have := HS3.out; omega))) _ rfl
      simp only [setAll] at HK5
      have ne4 : ¬ w2.heap.size = w.heap.size + 1 := by have := HS3.out; omega
      have ne5 : ¬ w.heap.size + 1 = w2.heap.size := by have := HS3.out; omega
      have x0 := hx4.cell 0 _ rfl
      have x1 := hx4.cell 1 _ rfl
      have x2 := hx4.cell 2 _ rfl
      have x3 := hx4.cell 3 _ rfl
      have x4 := hx4.cell 4 _ rfl
      have x5 := hx4.cell 5 _ rfl
      have x6 := hx4.cell 6 _ rfl
      have x7 := hx4.cell 7 _ rfl
      have x8 := hx4.cell 8 _ rfl
      have x9 := hx4.cell 9 _ rfl
      have x10 := hx4.cell 10 _ rfl
      have y0 := r1.cell 0 _ rfl
      have y1 := r1.cell 1 _ rfl
      have y2 := r1.cell 2 _ rfl
      have y3 := r1.cell 3 _ rfl
      have y4 := r1.cell 4 _ rfl
      have y5 := r1.cell 5 _ rfl
      have y6 := r1.cell 6 _ rfl
      have y7 := r1.cell 7 _ rfl
      have y8 := r1.cell 8 _ rfl
      have y9 := r1.cell 9 _ rfl
      have f0 := r1.frozen 0
      have f1 := r1.frozen 1
      have f2 := r1.frozen 2
      have f3 := r1.frozen 3
      have f4 := r1.frozen 4
      have f5 := r1.frozen 5
      have f6 := r1.frozen 6
      have f7 := r1.frozen 7
      have f8 := r1.frozen 8
      have f9 := r1.frozen 9
      clear hx4 ho4 hm4 r1 hb4
      go_upto_region 8 with fail
      go_region
      generalize (((((((((((w4.setCell ⟨w.heap.size + 1, 0, none⟩ (.int .i64 (RR).me)).setCell ⟨w.heap.size + 1, 1, none⟩ (.int .i64 (RR).kept.view)).setCell ⟨w.heap.size + 1, 2, none⟩ (.int .i64 (RR).kept.normal)).setCell ⟨w.heap.size + 1, 3, none⟩ (.bool (RR).kept.calm)).setCell ⟨w.heap.size + 1, 4, none⟩ (.slice al4 (RR).kept.log.length cl4)).setCell ⟨w.heap.size + 1, 5, none⟩ (.int .i64 (RR).kept.commit)).setCell ⟨w.heap.size + 1, 6, none⟩ (.slice ah4 (RR).hav.length ch4)).setCell ⟨w.heap.size + 1, 7, none⟩ (.slice aw4 (RR).wants.length cw4)).setCell ⟨w.heap.size + 1, 8, none⟩ (.slice ag4 (RR).gives.length cg4)).setCell ⟨w.heap.size + 1, 9, none⟩ (.slice an4 (RR).given.length cn4))).drew = w5 at HK5 ⊢
      have hR := HK5.out.1
      clear x0 x1 x2 x3 x4 x5 x6 x7 x8 x9 x10 y0 f0 y1 f1 y2 f2 y3 f3 y4 f4 y5 f5 y6 f6 y7 f7 y8 f8 y9 f9
      have y0 := hR.cell 0 _ rfl
      have y1 := hR.cell 1 _ rfl
      have y2 := hR.cell 2 _ rfl
      have y3 := hR.cell 3 _ rfl
      have y4 := hR.cell 4 _ rfl
      have y5 := hR.cell 5 _ rfl
      have y6 := hR.cell 6 _ rfl
      have y7 := hR.cell 7 _ rfl
      have y8 := hR.cell 8 _ rfl
      have y9 := hR.cell 9 _ rfl
      clear hR
      go_wp2_with fail
      exact bodyPost_ret (v := .tuple #[.agg #[.int .i64 (RR).me, .int .i64 (RR).kept.view, .int .i64 (RR).kept.normal, .bool (RR).kept.calm, .slice al4 (RR).kept.log.length cl4, .int .i64 (RR).kept.commit, .slice ah4 (RR).hav.length ch4, .slice aw4 (RR).wants.length cw4, .slice ag4 (RR).gives.length cg4, .slice an4 (RR).given.length cn4], .slice as4 LL.length cs4, .int .i64 0]) (by clear HK5; simp [results, Tryd.results13, go_sem, *]) rfl ⟨_, _, rfl, HK5.out.2⟩
  · obtain ⟨e1, e2, e3⟩ := N1.out hE
    subst e2 e3
    have hEE : ¬ EE = 0 := by rw [e1]; exact hE
    rw [← e1]
    clear N1 N2 N3 HD e1 hE HME
    go_wp2_with fail
    have key : ∀ w4, w4 = setAll w1 (w.heap.size + 1) 0 [.int .i64 0, .int .i64 0, .int .i64 0, .bool false, .slice none 0 0, .int .i64 0, .slice none 0 0, .slice none 0 0, .slice none 0 0, .slice none 0 0] → Hid (Box w4 (w.heap.size + 1) 30 [.int .i64 0, .int .i64 0, .int .i64 0, .bool false, .slice none 0 0, .int .i64 0, .slice none 0 0, .slice none 0 0, .slice none 0 0, .slice none 0 0] ∧ Below w.heap.size w w4) := by
      intro w4 e4
      subst e4
      exact ⟨setAll_box HR1.out _ rfl, (setAll_beside _ _ _ _ (Beside.of HBE.out)).below (Nat.le_refl _) (by omega)⟩
    have key := key _ rfl
    simp only [setAll] at key
    generalize ((((((((((w1.setCell ⟨w.heap.size + 1, 0, none⟩ (.int .i64 0)).setCell ⟨w.heap.size + 1, 1, none⟩ (.int .i64 0)).setCell ⟨w.heap.size + 1, 2, none⟩ (.int .i64 0)).setCell ⟨w.heap.size + 1, 3, none⟩ (.bool false)).setCell ⟨w.heap.size + 1, 4, none⟩ (.slice none 0 0)).setCell ⟨w.heap.size + 1, 5, none⟩ (.int .i64 0)).setCell ⟨w.heap.size + 1, 6, none⟩ (.slice none 0 0)).setCell ⟨w.heap.size + 1, 7, none⟩ (.slice none 0 0)).setCell ⟨w.heap.size + 1, 8, none⟩ (.slice none 0 0)).setCell ⟨w.heap.size + 1, 9, none⟩ (.slice none 0 0)) = w4 at key ⊢
    clear y0 y1 y2 y3 y4 y5 y6 y7 y8 y9 f0 f1 f2 f3 f4 f5 f6 f7 f8 f9
    have hR := key.out.1
    have y0 := hR.cell 0 _ rfl
    have y1 := hR.cell 1 _ rfl
    have y2 := hR.cell 2 _ rfl
    have y3 := hR.cell 3 _ rfl
    have y4 := hR.cell 4 _ rfl
    have y5 := hR.cell 5 _ rfl
    have y6 := hR.cell 6 _ rfl
    have y7 := hR.cell 7 _ rfl
    have y8 := hR.cell 8 _ rfl
    have y9 := hR.cell 9 _ rfl
    clear hR
    exact bodyPost_ret (v := .tuple #[.agg #[.int .i64 0, .int .i64 0, .int .i64 0, .bool false, .slice none 0 0, .int .i64 0, .slice none 0 0, .slice none 0 0, .slice none 0 0, .slice none 0 0], .slice none 0 0, .int .i64 EE]) (by clear key HR1 HBE; simp [results, Tryd.results13, go_sem, *]) rfl ⟨_, _, rfl, replNil _ _, msgsNil _ _, key.out.2⟩

end Go.Proofs.YtmdgkjbiicaljagDoor
