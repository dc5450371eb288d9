/- The walk of the document's answer AppliedOf. -/
import Derived.Test.YtpbiojnmegemdacDecRef
import Derived.Test.YtpbiojnmegemdacStateRef
import Derived.Test.YtpbiojnmegemdacVolDid2
import Derived.Test.YtpbiojnmegemdacSteps
import Derived.Test.YtpbiojnmegemdacMachFacts
import Derived.Test.YtpbiojnmegemdacLastInfo
import Derived.Test.YtpbiojnmegemdacAppFin
import Derived.Deep.DeepCutAuto
namespace Go.Proofs.Ytpbiojnmegemdac
open Go.RowKit
set_option linter.unusedVariables false
set_option linter.unusedSimpArgs false
attribute [local go_sem] app_list ext_list get_list byteAt_zero

theorem enter_volumeCopy (us : Array Value) (w : World) : (callFunc 20 us).run Try.prog w = .ok (.enter 20 us) w := by kernel_rfl

/-- What holds behind 'out := State{VolumeCopy(s.Volume), append(nil, s.Lasts...)}'. -/
structure AppMid (w3 : World) (S : StateM) (b9 : Nat) (v1 v2 v3 : Value) (wx : World) : Prop where
  below : Below w3.heap.size w3 wx
  out : Box wx b9 40 [v1, v2, v3]
  vol : VolNew wx w3.heap.size (.agg #[v1, v2]) S.vol
  lasts : wx.ownsRow w3.heap.size 64 4 v3 S.lasts.length (lastsCells S.lasts)
  ge9 : w3.heap.size ≤ b9

theorem appMid_new {w3 wL : World} {S : StateM} {v1 v2 v3 : Value} {B B' : Nat} (hb : Below w3.heap.size w3 wL) (hv : VolNew wL B (.agg #[v1, v2]) S.vol) (hB : w3.heap.size ≤ B)
    (hl : wL.ownsRow B' 64 4 v3 S.lasts.length (lastsCells S.lasts)) (hB' : w3.heap.size ≤ B') : AppMid w3 S wL.heap.size v1 v2 v3 (wL.alloc (.cells #[v1, v2, v3] 40)) :=
  ⟨Below.up hb _, Box.new wL _ [v1, v2, v3], (hv.below (below_alloc _ _)).base hB, own_base (own_below hl (below_alloc wL _) (own_lt hl)) hB', hb.size⟩

theorem appMid_set {w3 wL : World} {S : StateM} {v1 v2 v3 y0 y1 y2 : Value} {B B' b9 : Nat} (hb : Below w3.heap.size w3 wL) (h9 : Box wL b9 40 [y0, y1, y2]) (h39 : w3.heap.size ≤ b9) (hv : VolNew wL B (.agg #[v1, v2]) S.vol) (hB : w3.heap.size ≤ B)
    (hl : wL.ownsRow B' 64 4 v3 S.lasts.length (lastsCells S.lasts)) (hB' : w3.heap.size ≤ B') : AppMid w3 S b9 v1 v2 v3 (((wL.setCell ⟨b9, 0, none⟩ v1).setCell ⟨b9, 1, none⟩ v2).setCell ⟨b9, 2, none⟩ v3) := by
  have t1 := h9.set 0 v1
  have t2 := t1.set 1 v2
  have o1 : (wL.setCell ⟨b9, 0, none⟩ v1).ownsRow B' 64 4 v3 S.lasts.length (lastsCells S.lasts) := own_other hl (own_type hl h9 (by decide)) _
  have o2 : ((wL.setCell ⟨b9, 0, none⟩ v1).setCell ⟨b9, 1, none⟩ v2).ownsRow B' 64 4 v3 S.lasts.length (lastsCells S.lasts) := own_other o1 (own_type o1 t1 (by decide)) _
  exact ⟨((hb.setCell (by simpa using h39) _).setCell (by simpa using h39) _).setCell (by simpa using h39) _, t2.set 2 v3,
    (((hv.type h9 (by decide) (by decide) 0 v1).type t1 (by decide) (by decide) 1 v2).type t2 (by decide) (by decide) 2 v3).base hB,
    own_base (own_other o2 (own_type o2 t2 (by decide)) _) hB', h39⟩

/-- Behind the stores into the state's variable, and its copies. -/
theorem app_six {w5 : World} {B5 B b9 g c3 : Nat} {v5 v6 y0 y1 y2 : Value} {V' : VolM} {L : List LastM} (hn : VolNew w5 B5 (.agg #[v5, v6]) V') (h9 : Box w5 b9 40 [y0, y1, y2])
    (hl : w5.ownsRow B 64 4 (.slice (some ⟨g, 0, none⟩) L.length c3) L.length (lastsCells L)) (o1 o2 : Obj) :
    VolNew ((((w5.setCell ⟨b9, 0, none⟩ v5).setCell ⟨b9, 1, none⟩ v6).alloc o1).alloc o2) B5 (.agg #[v5, v6]) V' ∧
    ((((w5.setCell ⟨b9, 0, none⟩ v5).setCell ⟨b9, 1, none⟩ v6).alloc o1).alloc o2).ownsRow B 64 4 (.slice (some ⟨g, 0, none⟩) L.length c3) L.length (lastsCells L) ∧
    Box ((((w5.setCell ⟨b9, 0, none⟩ v5).setCell ⟨b9, 1, none⟩ v6).alloc o1).alloc o2) b9 40 [v5, v6, y2] ∧
    (∀ b t cs, b ≠ b9 → Box w5 b t cs → Box ((((w5.setCell ⟨b9, 0, none⟩ v5).setCell ⟨b9, 1, none⟩ v6).alloc o1).alloc o2) b t cs) ∧
    (∀ w : World, Below w.heap.size w w5 → w.heap.size ≤ b9 → Below w.heap.size w ((((w5.setCell ⟨b9, 0, none⟩ v5).setCell ⟨b9, 1, none⟩ v6).alloc o1).alloc o2)) := by
  have s9 := h9.set 0 v5
  have l1 := own_other hl (own_type hl h9 (by decide)) (a := ⟨b9, 0, none⟩) v5
  have l2 := own_other l1 (own_type l1 s9 (by decide)) (a := ⟨b9, 1, none⟩) v6
  have n2 := (hn.type h9 (by decide) (by decide) 0 v5).type s9 (by decide) (by decide) 1 v6
  have ba := below_alloc2 ((w5.setCell ⟨b9, 0, none⟩ v5).setCell ⟨b9, 1, none⟩ v6) o1 o2
  refine ⟨n2.below ba, own_below l2 ba (own_lt l2), ((s9.set 1 v6).alloc o1).alloc o2, fun b t cs hne hb => (((hb.other _ (by simpa using hne)).other _ (by simpa using hne)).alloc o1).alloc o2, fun w hb h9 => ?_⟩
  exact Below.far ((hb.setCell (by simpa using h9) v5).setCell (by simpa using h9) v6) ba

set_option maxHeartbeats 2000000 in
theorem appliedOf_ok (S : StateM) (s : List UInt8) (v : Value) (w : World) (h : StAt w v S) (hl : s.length ≤ 281474976710656) (h0 : stFault S = 0) (h1 : decE s = 0) :
    Calls Try.prog 22 #[v, .string ⟨s.toArray⟩] w fun e w' => ∃ v', e = .returned (.tuple #[v', .int .i64 0]) ∧ StNew w' w.heap.size v' (doneS S (reqOf s)) ∧ Below w.heap.size w w' := by
  have hS := stMay_of S h0
  have hm := volMay_len (volMay_of S.vol hS.1)
  have hf : VolFits S.vol := ⟨by omega, by omega, fun l hl => by have := hm.2.2 l hl; omega⟩
  have hreq : reqFault (reqOf s) = 0 := by
    unfold decE at h1
    repeat' split at h1
    all_goals first | omega | exact h1
  have hdr : decR s = reqOf s := by unfold decR; rw [if_pos h1]
  generalize reqOf s = r at *
  have hr := reqMay_of r hreq
  have hom := opMay_of r.op hr.2.2
  have HMM : Hid (S.vol.now.length = 6 ∧ S.vol.snaps.length ≤ 3 ∧ ∀ l ∈ S.vol.snaps, l.length = 6) := hm
  have HSL : Hid (S.lasts.length = 4) := hS.2.1
  have h' := h
  obtain ⟨vn, vs, vl, rfl, hv, hlast⟩ := h'
  obtain ⟨_, _, hve, ⟨an, cn, rfl, _⟩, ⟨aw, cw, rfl, _⟩⟩ := id hv
  cases hve
  obtain ⟨al, cl, rfl, _, _⟩ := id hlast
  obtain ⟨b0, b1, hb⟩ := boxes2 w 40 40 [.slice an S.vol.now.length cn, .slice aw S.vol.snaps.length cw, .slice al S.lasts.length cl] [.slice none 0 0, .slice none 0 0, .slice none 0 0]
  have HF : Hid (Calls _ _ _ _ _) := stateFault_any S _ _ (h.below hb)
  have HE : Hid (∀ w, Calls _ _ _ w _) := fun w => entryOf_any s w hl
  rw [h0] at HF
  rw [h1, hdr] at HE
  obtain ⟨c, n, k, p, sn, d⟩ := r
  simp only at hr hom
  unfold reqVal at HE
  obtain ⟨hr1, hr2, ho⟩ := hr
  have hvf := hS.1
  clear hS hm h0 h1 hdr hreq
  go_enter Try.func22, Try.ntmps22
  go_wp2_with fail
  refine HF.out.mono ?_
  rintro e w1 ⟨rfl, hb1⟩
  have c0 := b0.below hb1 b0.lt
  have c1 := b1.below hb1 b1.lt
  have hw1 := Below.seq hb hb1
  clear b0 b1 hb hb1 HF
  go_wp2_with fail
  refine (HE.out _).mono ?_
  rintro e w2 ⟨rfl, hb2⟩
  have d0 := c0.below hb2 c0.lt
  have d1 := c1.below hb2 c1.lt
  have hw2 := Below.seq hw1 hb2
  clear c0 c1 hw1 hb2 HE
  have l0 := d0.lt
  have l1 := d1.lt
  have B7 := Box.new w2 25 [.int .i64 c, .int .i64 n, .int .i64 k, .int .i64 p, .int .i64 sn, .string ⟨d.toArray⟩]
  obtain ⟨w3, hw3e⟩ : ∃ w3, w3 = w2.alloc (.cells #[.int .i64 c, .int .i64 n, .int .i64 k, .int .i64 p, .int .i64 sn, .string ⟨d.toArray⟩] 25) := ⟨_, rfl⟩
  go_upto_region 7 with fail
  rw [← hw3e]
  have e0 := d0.alloc (.cells #[.int .i64 c, .int .i64 n, .int .i64 k, .int .i64 p, .int .i64 sn, .string ⟨d.toArray⟩] 25)
  have e1 := d1.alloc (.cells #[.int .i64 c, .int .i64 n, .int .i64 k, .int .i64 p, .int .i64 sn, .string ⟨d.toArray⟩] 25)
  rw [← hw3e] at B7 e0 e1
  have hw3 : Below w.heap.size w w3 := by rw [hw3e]; exact Below.up hw2 _
  have l7 : w.heap.size + 1 < w2.heap.size := d1.lt
  clear d0 d1 hw2 hw3e l0 l1
  have HC : Hid (∀ W, Below w3.heap.size w3 W → Calls Try.prog 20 [.agg #[.slice an S.vol.now.length cn, .slice aw S.vol.snaps.length cw]].toArray W fun e w' => ∃ v', e = .returned v' ∧ (VolNew w' W.heap.size v' S.vol ∧ Below W.heap.size W w')) :=
    fun W hW => volumeCopy_any S.vol _ _ (hv.below (Below.far hw3 hW)) hf
  have HRW : Hid (∀ W, Below w3.heap.size w3 W → RowAt W (.slice al S.lasts.length cl) S.lasts.length 4 (lastsCells S.lasts)) := fun W hW => (hlast.below (Below.far hw3 hW)).row
  have HB0 : Hid (Box w3 w.heap.size _ _) := e0
  have l0 := e0.lt
  have x0 := e0.cell 0 _ rfl
  have x1 := e0.cell 1 _ rfl
  have x2 := e0.cell 2 _ rfl
  go_cut [9] (fun s9 wx => ∃ b9 a1 c1 a2 c2 a3 c3, s9 = .pointer (some ⟨b9, 0, none⟩) ∧ AppMid w3 S b9 (.slice a1 S.vol.now.length c1) (.slice a2 S.vol.snaps.length c2) (.slice a3 S.lasts.length c3) wx)
  case first =>
    go_region_law
      ((first
        | (refine step_go _ (by rfl) 20 _ _ (by rfl) _ (by rfl) enter_volumeCopy _ (HC.out _ (by (repeat (first | exact Below.refl _ _ | assumption | apply Below.drew | apply Below.up | (refine Below.far ?_ (by assumption)))))) ?_
           rintro u' wA ⟨hn3, hbA⟩
           obtain ⟨a1, c1, a2, c2, hu4⟩ := hn3.form
           subst hu4
           have hAU : Below w3.heap.size w3 wA := by (repeat (first | exact Below.refl _ _ | assumption | apply Below.drew | apply Below.up | (refine Below.far ?_ (by assumption))))
           have EA : Box wA w.heap.size _ _ := HB0.out.below hAU HB0.out.lt
           have xa0 := EA.cell 0 _ rfl
           have xa1 := EA.cell 1 _ rfl
           have xa2 := EA.cell 2 _ rfl
           have qa := EA.lt
           have qa' : w3.heap.size ≤ wA.heap.size := hAU.size
           first
             | (have B9A := B9B.below hbA B9B.lt
                have k0 := B9A.cell 0 _ rfl
                have k1 := B9A.cell 1 _ rfl
                have k2 := B9A.cell 2 _ rfl
                have k3 := B9A.frozen 0
                have k4 := B9A.frozen 1
                have k5 := B9A.frozen 2)
             | (have B9A : Box wA w3.heap.size 40 [.slice none 0 0, .slice none 0 0, .slice none 0 0] := (Box.new w3.drew 40 [.slice none 0 0, .slice none 0 0, .slice none 0 0]).below hbA (by simp <;> omega)
                have k0 := B9A.cell 0 _ rfl
                have k1 := B9A.cell 1 _ rfl
                have k2 := B9A.cell 2 _ rfl
                have k3 := B9A.frozen 0
                have k4 := B9A.frozen 1
                have k5 := B9A.frozen 2)
             | (have B9A : Box wA wB.heap.size 40 [.slice none 0 0, .slice none 0 0, .slice none 0 0] := (Box.new wB 40 [.slice none 0 0, .slice none 0 0, .slice none 0 0]).below hbA (by simp <;> omega)
                have k0 := B9A.cell 0 _ rfl
                have k1 := B9A.cell 1 _ rfl
                have k2 := B9A.cell 2 _ rfl
                have k3 := B9A.frozen 0
                have k4 := B9A.frozen 1
                have k5 := B9A.frozen 2)
             | skip)
        | (refine step_copy_row _ (by rfl) (.const (.slice none 0 0)) _ 38 (by rfl) 64 Try.t64 _ 4 40 Try.underlying38 infoLast zeroLastV sizeLast bytesLast rfl (by decide) (by decide) (by rfl) _ S.lasts.length (lastsCells S.lasts) (by rfl) (HRW.out _ (by (repeat (first | exact Below.refl _ _ | assumption | apply Below.drew | apply Below.up | (refine Below.far ?_ (by assumption)))))) (lastsCells_one _) (by have := HSL.out; omega) ?_
           intro u3 wB hownB hbB
           obtain ⟨a3, c3, hu5⟩ := own_formN hownB
           subst hu5
           have hBU : Below w3.heap.size w3 wB := by (repeat (first | exact Below.refl _ _ | assumption | apply Below.drew | apply Below.up | (refine Below.far ?_ (by assumption))))
           have EB : Box wB w.heap.size _ _ := HB0.out.below hBU HB0.out.lt
           have xb0 := EB.cell 0 _ rfl
           have xb1 := EB.cell 1 _ rfl
           have xb2 := EB.cell 2 _ rfl
           have qb := EB.lt
           have qb' : w3.heap.size ≤ wB.heap.size := hBU.size
           first
             | (have B9B := B9A.below hbB B9A.lt
                have k0 := B9B.cell 0 _ rfl
                have k1 := B9B.cell 1 _ rfl
                have k2 := B9B.cell 2 _ rfl
                have k3 := B9B.frozen 0
                have k4 := B9B.frozen 1
                have k5 := B9B.frozen 2)
             | (have B9B : Box wB w3.heap.size 40 [.slice none 0 0, .slice none 0 0, .slice none 0 0] := (Box.new w3.drew 40 [.slice none 0 0, .slice none 0 0, .slice none 0 0]).below hbB (by simp <;> omega)
                have k0 := B9B.cell 0 _ rfl
                have k1 := B9B.cell 1 _ rfl
                have k2 := B9B.cell 2 _ rfl
                have k3 := B9B.frozen 0
                have k4 := B9B.frozen 1
                have k5 := B9B.frozen 2)
             | (have B9B : Box wB wA.heap.size 40 [.slice none 0 0, .slice none 0 0, .slice none 0 0] := (Box.new wA 40 [.slice none 0 0, .slice none 0 0, .slice none 0 0]).below hbB (by simp <;> omega)
                have k0 := B9B.cell 0 _ rfl
                have k1 := B9B.cell 1 _ rfl
                have k2 := B9B.cell 2 _ rfl
                have k3 := B9B.frozen 0
                have k4 := B9B.frozen 1
                have k5 := B9B.frozen 2)
             | skip)))
    all_goals go_wp2_with fail
    all_goals go_meet
    all_goals first
      | exact ⟨_, _, _, _, _, _, _, rfl, appMid_new hBU (hn3.below (by first | exact hbB | exact Below.far (below_alloc wA _) hbB)) (by first | assumption | omega | (simp <;> omega)) hownB (by first | assumption | omega | (simp <;> omega))⟩
      | exact ⟨_, _, _, _, _, _, _, rfl, appMid_new hAU hn3 (by first | assumption | omega | (simp <;> omega)) (own_below hownB (B := wB.heap.size) (by first | exact hbA | exact Below.far (below_alloc wB _) hbA) (own_lt hownB)) (by first | assumption | omega | (simp <;> omega))⟩
      | exact ⟨_, _, _, _, _, _, _, rfl, appMid_set hBU B9B (by omega) (hn3.below (by first | exact hbB | exact Below.far (below_alloc wA _) hbB)) (by first | assumption | omega | (simp <;> omega)) hownB (by first | assumption | omega | (simp <;> omega))⟩
      | exact ⟨_, _, _, _, _, _, _, rfl, appMid_set hAU B9A (by omega) hn3 (by first | assumption | omega | (simp <;> omega)) (own_below hownB (B := wB.heap.size) (by first | exact hbA | exact Below.far (below_alloc wB _) hbA) (own_lt hownB)) (by first | assumption | omega | (simp <;> omega))⟩
  case rest =>
    obtain ⟨b9, a1, c1, a2, c2, a3, c3, rfl, M⟩ := hcut
    have g0 := e0.below M.below e0.lt
    have g1 := e1.below M.below e1.lt
    have g7 := B7.below M.below B7.lt
    have hw4 : Below w.heap.size w wc := Below.far hw3 M.below
    have l9 := M.ge9
    have l1 := e1.lt
    have l77 := B7.lt
    have m0 := g0.lt
    have m1 := g1.lt
    have m7 := g7.lt
    have m9 := M.out.lt
    clear HC HRW HB0 x0 x1 x2
    obtain ⟨i, hi⟩ : ∃ i : Nat, c - 1 = i := ⟨(c - 1).toNat, by omega⟩
    obtain rfl : c = (i : Int) + 1 := by omega
    have hi4 : i < 4 := by omega
    have hil : i < S.lasts.length := by have := HSL.out; omega
    obtain ⟨_, _, hvl, _, hcl⟩ := hlast.below hw4
    cases hvl
    obtain ⟨bl, ol, rfl, q0, _⟩ := hcl i hil
    have hbl := lt_of_cell q0
    obtain ⟨ln, hln⟩ : ∃ ln, (S.lasts.getD i zeroLast).num = ln := ⟨_, rfl⟩
    have HLN : Hid ((S.lasts.getD i zeroLast).num = ln) := hln
    rw [hln] at q0
    clear hln hcl
    have x0 := g0.cell 0 _ rfl
    have x1 := g0.cell 1 _ rfl
    have x2 := g0.cell 2 _ rfl
    have y0 := g7.cell 0 _ rfl
    have y1 := g7.cell 1 _ rfl
    have y2 := g7.cell 2 _ rfl
    have y3 := g7.cell 3 _ rfl
    have y4 := g7.cell 4 _ rfl
    have y5 := g7.cell 5 _ rfl
    have i0 : (0 : Int) ≤ (i : Int) := by omega
    have i1 : (i : Int) < (S.lasts.length : Int) := by omega
    have r0 := g1.cell 0 _ rfl
    have r1 := g1.cell 1 _ rfl
    have r2 := g1.cell 2 _ rfl
    have f0 := g1.frozen 0
    have f1 := g1.frozen 1
    have f2 := g1.frozen 2
    have z0 := M.out.cell 0 _ rfl
    have z1 := M.out.cell 1 _ rfl
    have z2 := M.out.cell 2 _ rfl
    by_cases hlt : ln < n
    · have HD : Hid (doneS S ⟨(i : Int) + 1, n, ⟨k, p, sn, d⟩⟩ = ⟨didV S.vol ⟨k, p, sn, d⟩, S.lasts.set i ⟨n, didR S.vol ⟨k, p, sn, d⟩⟩⟩) := by
        unfold Hid doneS
        have e1 : ((i : Int) + 1 - 1).toNat = i := by omega
        simp only [e1, HLN.out]
        rw [if_pos hlt]
      have HC : Hid (∀ m, Calls Try.prog 43 #[.agg #[.slice an S.vol.now.length cn, .slice aw S.vol.snaps.length cw], .agg #[.int .i64 k, .int .i64 p, .int .i64 sn, .string ⟨d.toArray⟩]] (wc.drewN m) _) := fun m => didOf_ok S.vol ⟨k, p, sn, d⟩ _ (wc.drewN m) ((hv.below hw4).below (below_drew_n wc m)) hvf ho
      go_wp2_with fail
      go_quiet (fail)
      go_wp2_with fail
      refine (HC.out _).mono ?_
      rintro e w5 ⟨v5, rfl, hn5, hb5⟩
      obtain ⟨a5, c5, a6, c6, rfl⟩ := hn5.form
      have hb5' : Below wc.heap.size wc w5 := Below.far (below_drew_n wc _) hb5
      have k1 := g1.below hb5' m1
      have k7 := g7.below hb5' m7
      have k9 := M.out.below hb5' m9
      have kl := own_below M.lasts hb5' (own_lt M.lasts)
      have hw5 : Below w.heap.size w w5 := Below.far hw4 hb5'
      have m5 := hb5'.size
      obtain ⟨RR, HRR⟩ : ∃ RR, Hid (didR S.vol ⟨k, p, sn, d⟩ = RR) := ⟨_, rfl⟩
      rw [HRR.out]
      obtain ⟨VV, HVV⟩ : ∃ VV, Hid (didV S.vol ⟨k, p, sn, d⟩ = VV) := ⟨_, rfl⟩
      rw [HVV.out] at hn5 ⊢
      obtain ⟨N5, HN5⟩ : ∃ N5, Hid (VV.now.length = N5) := ⟨_, rfl⟩
      obtain ⟨N6, HN6⟩ : ∃ N6, Hid (VV.snaps.length = N6) := ⟨_, rfl⟩
      rw [HN5.out, HN6.out] at hn5 ⊢
      obtain ⟨rc, rn, rd⟩ := RR
      simp only
      clear x0 x1 x2 y0 y1 y2 y3 y4 y5 r0 r1 r2 f0 f1 f2 z0 z1 z2 q0
      have z0 := k9.cell 0 _ rfl
      have z1 := k9.cell 1 _ rfl
      have z3 := k9.frozen 0
      have z4 := k9.frozen 1
      have o1 := k1.lt
      have o7 := k7.lt
      have o9 := k9.lt
      obtain ⟨g, _, hgv, hgB, _, _, _⟩ := own_cellN kl (by decide) (i * 4) (by omega)
      cases hgv
      obtain ⟨n6, l6, k96, kall, kbel⟩ := app_six hn5 k9 kl (.cells #[.slice a5 N5 c5, .slice a6 N6 c6] 37) (.cells #[.int .i64 rc, .int .i64 rn, .string ⟨rd.toArray⟩] 62)
      have k16 := kall _ _ _ (by omega) k1
      have k76 := kall _ _ _ (by omega) k7
      have hw6 := kbel w hw5 (by omega)
      have kr6 : Box ((((w5.setCell ⟨b9, 0, none⟩ (.slice a5 N5 c5)).setCell ⟨b9, 1, none⟩ (.slice a6 N6 c6)).alloc (.cells #[.slice a5 N5 c5, .slice a6 N6 c6] 37)).alloc (.cells #[.int .i64 rc, .int .i64 rn, .string ⟨rd.toArray⟩] 62)) (w5.heap.size + 1) 62 [.int .i64 rc, .int .i64 rn, .string ⟨rd.toArray⟩] := by
        have := Box.new (((w5.setCell ⟨b9, 0, none⟩ (.slice a5 N5 c5)).setCell ⟨b9, 1, none⟩ (.slice a6 N6 c6)).alloc (.cells #[.slice a5 N5 c5, .slice a6 N6 c6] 37)) 62 [.int .i64 rc, .int .i64 rn, .string ⟨rd.toArray⟩]
        simpa [World.setCell] using this
      have hB5 : wc.heap.size ≤ (wc.drewN nq).heap.size := by simp
      clear hn5 kl kall kbel k1 k7 k9 hb5 hb5' hw5 M g0 g1 g7 hw4 hw3 e0 e1 B7 HC
      obtain ⟨w6, hw6e⟩ : ∃ w6, w6 = ((((w5.setCell ⟨b9, 0, none⟩ (.slice a5 N5 c5)).setCell ⟨b9, 1, none⟩ (.slice a6 N6 c6)).alloc (.cells #[.slice a5 N5 c5, .slice a6 N6 c6] 37)).alloc (.cells #[.int .i64 rc, .int .i64 rn, .string ⟨rd.toArray⟩] 62)) := ⟨_, rfl⟩
      rw [← hw6e] at n6 l6 k96 k16 k76 hw6 kr6
      go_upto_region 11 with fail
      rw [← hw6e]
      clear hw6e z0 z1 z3 z4
      have HF : Hid (StNew _ _ _ _ ∧ Below _ _ _) := app_fin (w := w) (i := i) (x := ⟨n, ⟨rc, rn, rd⟩⟩) n6 l6 (by simp <;> omega) (by omega) hw6 (.slice a5 N5 c5) (.slice a6 N6 c6) (.slice (some ⟨g, 0, none⟩) S.lasts.length c3)
      obtain ⟨_, _, hgv, _, _, u0, u4⟩ := own_cellN l6 (by decide) (i * 4) (by omega)
      cases hgv
      obtain ⟨_, _, hgv, _, _, u1, u5⟩ := own_cellN l6 (by decide) (i * 4 + 1) (by omega)
      cases hgv
      obtain ⟨_, _, hgv, _, _, u2, u6⟩ := own_cellN l6 (by decide) (i * 4 + 2) (by omega)
      cases hgv
      obtain ⟨_, _, hgv, _, _, u3, u7⟩ := own_cellN l6 (by decide) (i * 4 + 3) (by omega)
      cases hgv
      have ng9 : ¬ g = b9 := fun e => own_type l6 k96 (by decide) (by rw [e]; rfl)
      have ng9' : ¬ b9 = g := fun e => ng9 e.symm
      rw [lastsCells_get _ i 1 hil (by decide)] at u1
      rw [lastsCells_get _ i 2 hil (by decide)] at u2
      rw [lastsCells_get _ i 3 hil (by decide)] at u3
      have u0' := lastsCells_get S.lasts i 0 hil (by decide)
      rw [Nat.add_zero] at u0'
      rw [u0'] at u0
      simp only [lastCells, List.getElem?_cons_zero, List.getElem?_cons_succ] at u0 u1 u2 u3
      generalize S.lasts.getD i zeroLast = ll at *
      have y0 := k76.cell 0 _ rfl
      have y1 := k76.cell 1 _ rfl
      have r0 := k16.cell 0 _ rfl
      have r1 := k16.cell 1 _ rfl
      have r2 := k16.cell 2 _ rfl
      have f0 := k16.frozen 0
      have f1 := k16.frozen 1
      have f2 := k16.frozen 2
      have z0 := k96.cell 0 _ rfl
      have z1 := k96.cell 1 _ rfl
      have z2 := k96.cell 2 _ rfl
      have t0 := kr6.cell 0 _ rfl
      have t1 := kr6.cell 1 _ rfl
      have t2 := kr6.cell 2 _ rfl
      have v1 : ¬ w.heap.size + 1 = g := by omega
      have v2 : ¬ g = w.heap.size + 1 := by omega
      have v5 : ¬ w.heap.size + 1 = b9 := by omega
      have v6 : ¬ b9 = w.heap.size + 1 := by omega
      clear n6 l6 k96 k16 k76 hw6 kr6 u0' HLN
      clear hbl hlt l7 l0 l9 l1 l77 m0 m1 m7 m9 m5 o1 o7 o9 hgB hB5
      go_upto_region 12 with fail
      go_wp2_with fail
      rw [HD.out, HVV.out, HRR.out]
      refine bodyPost_ret (v := .tuple #[.agg #[.slice a5 N5 c5, .slice a6 N6 c6, .slice (some ⟨g, 0, none⟩) S.lasts.length c3], .int .i64 0]) ?_ rfl ?_
      · clear HF
        simp [results, Try.results22, go_sem, *]
      · exact ⟨_, rfl, HF.out.1, HF.out.2⟩
    · have HD : Hid (doneS S ⟨(i : Int) + 1, n, ⟨k, p, sn, d⟩⟩ = S) := by
        unfold Hid doneS
        have e1 : ((i : Int) + 1 - 1).toNat = i := by omega
        simp only [e1, HLN.out]
        rw [if_neg hlt]
      have HN : Hid (StNew _ _ _ _) := ((((show StNew wc w3.heap.size (.agg #[.slice a1 S.vol.now.length c1, .slice a2 S.vol.snaps.length c2, .slice a3 S.lasts.length c3]) S from ⟨_, _, _, rfl, M.vol, M.lasts⟩).other (a := ⟨w.heap.size + 1, 0, none⟩) (by simp <;> omega) (.slice a1 S.vol.now.length c1)).other (a := ⟨w.heap.size + 1, 1, none⟩) (by simp <;> omega) (.slice a2 S.vol.snaps.length c2)).other (a := ⟨w.heap.size + 1, 2, none⟩) (by simp <;> omega) (.slice a3 S.lasts.length c3)).base (B' := w.heap.size) (by omega)
      have HB : Hid (∀ m, Below w.heap.size w ((((wc.drewN m).setCell ⟨w.heap.size + 1, 0, none⟩ (.slice a1 S.vol.now.length c1)).setCell ⟨w.heap.size + 1, 1, none⟩ (.slice a2 S.vol.snaps.length c2)).setCell ⟨w.heap.size + 1, 2, none⟩ (.slice a3 S.lasts.length c3))) := fun m => (((Below.far hw4 (below_drew_n wc m)).setCell (p := ⟨w.heap.size + 1, 0, none⟩) (by simp) (.slice a1 S.vol.now.length c1)).setCell (p := ⟨w.heap.size + 1, 1, none⟩) (by simp) (.slice a2 S.vol.snaps.length c2)).setCell (p := ⟨w.heap.size + 1, 2, none⟩) (by simp) (.slice a3 S.lasts.length c3)
      clear M g0 g1 g7 hw4 hw3 e0 e1 B7
      go_wp2_with fail
      go_quiet (fail)
      go_wp2_with fail
      rw [HD.out]
      refine bodyPost_ret (v := .tuple #[.agg #[.slice a1 S.vol.now.length c1, .slice a2 S.vol.snaps.length c2, .slice a3 S.lasts.length c3], .int .i64 0]) ?_ rfl ?_
      · clear HN HB
        simp [results, Try.results22, go_sem, *]
      · exact ⟨_, rfl, HN.out, HB.out _⟩

set_option maxHeartbeats 1000000 in
theorem appliedOf_badS (S : StateM) (s : List UInt8) (v : Value) (w : World) (h : StAt w v S) (h0 : stFault S ≠ 0) :
    Calls Try.prog 22 #[v, .string ⟨s.toArray⟩] w fun e w' => e = .returned (.tuple #[.agg #[.slice none 0 0, .slice none 0 0, .slice none 0 0], .int .i64 (stFault S)]) ∧ Below w.heap.size w w' := by
  have h' := h
  obtain ⟨vn, vs, vl, rfl, hv, hlast⟩ := h'
  obtain ⟨b0, b1, hb⟩ := boxes2 w 40 40 [vn, vs, vl] [.slice none 0 0, .slice none 0 0, .slice none 0 0]
  have HF : Hid (Calls _ _ _ _ _) := stateFault_any S _ _ (h.below hb)
  obtain ⟨x, hx⟩ : ∃ x, stFault S = x := ⟨_, rfl⟩
  rw [hx] at HF h0 ⊢
  clear hx
  have t1 : (x == 0) = false := by simpa using h0
  have t2 : (x != 0) = true := by simpa using h0
  go_enter Try.func22, Try.ntmps22
  go_wp2_with fail
  refine HF.out.mono ?_
  rintro e w1 ⟨rfl, hb1⟩
  have c1 := b1.below hb1 b1.lt
  have r0 := c1.cell 0 _ rfl
  have r1 := c1.cell 1 _ rfl
  have r2 := c1.cell 2 _ rfl
  have f0 := c1.frozen 0
  have f1 := c1.frozen 1
  have f2 := c1.frozen 2
  have hw1 := Below.seq hb hb1
  have HB : Hid (Below w.heap.size w _) := ((hw1.setCell (p := ⟨w.heap.size + 1, 0, none⟩) (by simp) (.slice none 0 0)).setCell (p := ⟨w.heap.size + 1, 1, none⟩) (by simp) (.slice none 0 0)).setCell (p := ⟨w.heap.size + 1, 2, none⟩) (by simp) (.slice none 0 0)
  clear b0 b1 hb hb1 c1 hw1 HF
  go_wp2_with fail
  exact bodyPost_ret (v := .tuple #[.agg #[.slice none 0 0, .slice none 0 0, .slice none 0 0], .int .i64 x]) (by clear HB; simp [results, Try.results22, go_sem, *]) rfl ⟨rfl, HB.out⟩

set_option maxHeartbeats 1000000 in
theorem appliedOf_badE (S : StateM) (s : List UInt8) (v : Value) (w : World) (h : StAt w v S) (hl : s.length ≤ 281474976710656) (h0 : stFault S = 0) (h1 : decE s ≠ 0) :
    Calls Try.prog 22 #[v, .string ⟨s.toArray⟩] w fun e w' => e = .returned (.tuple #[.agg #[.slice none 0 0, .slice none 0 0, .slice none 0 0], .int .i64 (decE s)]) ∧ Below w.heap.size w w' := by
  have h' := h
  obtain ⟨vn, vs, vl, rfl, hv, hlast⟩ := h'
  obtain ⟨b0, b1, hb⟩ := boxes2 w 40 40 [vn, vs, vl] [.slice none 0 0, .slice none 0 0, .slice none 0 0]
  have HF : Hid (Calls _ _ _ _ _) := stateFault_any S _ _ (h.below hb)
  have HE : Hid (∀ w, Calls _ _ _ w _) := fun w => entryOf_any s w hl
  rw [h0] at HF
  obtain ⟨x, hx⟩ : ∃ x, decE s = x := ⟨_, rfl⟩
  rw [hx] at HE h1 ⊢
  clear hx
  obtain ⟨r, hr⟩ : ∃ r, decR s = r := ⟨_, rfl⟩
  rw [hr] at HE
  obtain ⟨c, n, k, p, sn, d⟩ := r
  unfold reqVal at HE
  clear hr
  have t1 : (x == 0) = false := by simpa using h1
  have t2 : (x != 0) = true := by simpa using h1
  go_enter Try.func22, Try.ntmps22
  go_wp2_with fail
  refine HF.out.mono ?_
  rintro e w1 ⟨rfl, hb1⟩
  have c1 := b1.below hb1 b1.lt
  have hw1 := Below.seq hb hb1
  clear b0 b1 hb hb1 HF
  go_wp2_with fail
  refine (HE.out _).mono ?_
  rintro e w2 ⟨rfl, hb2⟩
  have d1 := c1.below hb2 c1.lt
  have hw2 := Below.seq hw1 hb2
  have r0 := d1.cell 0 _ rfl
  have r1 := d1.cell 1 _ rfl
  have r2 := d1.cell 2 _ rfl
  have f0 := d1.frozen 0
  have f1 := d1.frozen 1
  have f2 := d1.frozen 2
  have l1 := d1.lt
  have HB : Hid (Below w.heap.size w _) := Below.up (((hw2.setCell (p := ⟨w.heap.size + 1, 0, none⟩) (by simp) (.slice none 0 0)).setCell (p := ⟨w.heap.size + 1, 1, none⟩) (by simp) (.slice none 0 0)).setCell (p := ⟨w.heap.size + 1, 2, none⟩) (by simp) (.slice none 0 0)) (.cells #[.int .i64 c, .int .i64 n, .int .i64 k, .int .i64 p, .int .i64 sn, .string ⟨d.toArray⟩] 25)
  clear c1 hw1 hb2 d1 hw2 HE
  go_wp2_with fail
  exact bodyPost_ret (v := .tuple #[.agg #[.slice none 0 0, .slice none 0 0, .slice none 0 0], .int .i64 x]) (by clear HB; simp [results, Try.results22, go_sem, *]) rfl ⟨rfl, HB.out⟩

theorem appliedOf_any (S : StateM) (s : List UInt8) (v : Value) (w : World) (h : StAt w v S) (hl : s.length ≤ 281474976710656) :
    Calls Try.prog 22 #[v, .string ⟨s.toArray⟩] w fun e w' => ∃ v', e = .returned (.tuple #[v', .int .i64 (appE S s)]) ∧ StNew w' w.heap.size v' (appS S s) ∧ Below w.heap.size w w' := by
  by_cases h0 : stFault S = 0
  · have e1 : appE S s = decE s := by unfold appE; rw [if_pos h0]
    by_cases h1 : decE s = 0
    · unfold appS
      rw [e1, if_pos h1, h1]
      exact appliedOf_ok S s v w h hl h0 h1
    · unfold appS
      rw [e1, if_neg h1]
      exact (appliedOf_badE S s v w h hl h0 h1).mono fun e w' ⟨he, hb⟩ => ⟨_, he, StNew.nil _ _, hb⟩
  · have e1 : appE S s = stFault S := by unfold appE; rw [if_neg h0]
    unfold appS
    rw [e1, if_neg h0]
    exact (appliedOf_badS S s v w h h0).mono fun e w' ⟨he, hb⟩ => ⟨_, he, StNew.nil _ _, hb⟩

end Go.Proofs.Ytpbiojnmegemdac
