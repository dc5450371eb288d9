/- The program's own 'Apply', of what may be. -/
import Derived.Test.YtpbiojnmegemdadDoorMachGoCopySt
namespace Go.Proofs.YtpbiojnmegemdadDoor
open Go.RowKit
set_option linter.unusedVariables false
set_option linter.unusedSimpArgs false
attribute [local go_sem] app_list ext_list get_list byteAt_zero

theorem fieldLast (a b c d : Value) (w : World) : (Instr.field 51 (.agg #[a, b, c, d]) 0).run Tryd.prog w = .ok a w := by kernel_rfl

set_option maxHeartbeats 2000000 in
theorem apply_ok (S : StateM) (s : List UInt8) (v : Value) (w : World) (h : StAt w v S) (hl : s.length ≤ 281474976710656) (h0 : stFault S = 0) (h1 : decE s = 0) :
    Calls Tryd.prog 21 #[v, .string ⟨s.toArray⟩] w fun e w' => ∃ v', e = .returned (.tuple #[v', .int .i64 0]) ∧ StNew w' w.heap.size v' (doneS S (reqOf s)) ∧ Below w.heap.size w w' := by
  have hS := stMay_of S h0
  have hm := volMay_len (volMay_of S.vol hS.1)
  have hf : VolFits S.vol := ⟨by omega, by omega, fun l hl => by have := hm.2.2 l hl; omega⟩
  have hreq := decE_req s h1
  have hdr : decR s = reqOf s := by unfold decR; rw [if_pos h1]
  generalize reqOf s = r at *
  have hr := reqMay_of r hreq
  have hom := opMay_of r.op hr.2.2
  have HSL : Hid (S.lasts.length = 4) := hS.2.1
  have h' := h
  obtain ⟨vn, vs, vl, rfl, hv, hlast⟩ := h'
  obtain ⟨_, _, hve, ⟨an, cn, rfl, _⟩, ⟨aw, cw, rfl, _⟩⟩ := id hv
  cases hve
  obtain ⟨al, cl, rfl, _, _⟩ := id hlast
  obtain ⟨b0, b1, hb⟩ := boxes2 w 43 43 [.slice an S.vol.now.length cn, .slice aw S.vol.snaps.length cw, .slice al S.lasts.length cl] [.slice none 0 0, .slice none 0 0, .slice none 0 0]
  have HF : Hid (Calls _ _ _ _ _) := machCheck_any S _ _ (h.below hb)
  have HE : Hid (∀ w, Calls _ _ _ w _) := fun w => machDec_any s w hl
  rw [h0] at HF
  rw [h1, hdr] at HE
  obtain ⟨c, n, k, p, sn, d⟩ := r
  simp only at hr hom
  unfold reqVal at HE
  obtain ⟨hr1, hr2, ho⟩ := hr
  have hvf := hS.1
  clear hS hm h0 h1 hdr hreq
  go_enter Tryd.func21, Tryd.ntmps21
  go_wp2_with fail
  refine HF.out.mono ?_
  rintro e w1 ⟨rfl, hb1⟩
  have c0 := b0.below hb1 b0.lt
  have c1 := b1.below hb1 b1.lt
  have hw1 := Below.seq hb hb1
  clear b0 b1 hb hb1 HF
  go_wp2_with fail
  refine (HE.out _).mono ?_
  rintro e w2 ⟨rfl, hb2⟩
  have d0 := c0.below hb2 c0.lt
  have d1 := c1.below hb2 c1.lt
  have hw2 := Below.seq hw1 hb2
  clear c0 c1 hw1 hb2 HE
  have l0 := d0.lt
  have l1 := d1.lt
  have B7 := Box.new w2 28 [.int .i64 c, .int .i64 n, .int .i64 k, .int .i64 p, .int .i64 sn, .string ⟨d.toArray⟩]
  obtain ⟨w3, hw3e⟩ : ∃ w3, w3 = w2.alloc (.cells #[.int .i64 c, .int .i64 n, .int .i64 k, .int .i64 p, .int .i64 sn, .string ⟨d.toArray⟩] 28) := ⟨_, rfl⟩
  go_upto_region 7 with fail
  rw [← hw3e]
  have e0 := d0.alloc (.cells #[.int .i64 c, .int .i64 n, .int .i64 k, .int .i64 p, .int .i64 sn, .string ⟨d.toArray⟩] 28)
  have e1 := d1.alloc (.cells #[.int .i64 c, .int .i64 n, .int .i64 k, .int .i64 p, .int .i64 sn, .string ⟨d.toArray⟩] 28)
  rw [← hw3e] at B7 e0 e1
  have hw3 : Below w.heap.size w w3 := by rw [hw3e]; exact Below.up hw2 _
  have l7 : w.heap.size + 1 < w2.heap.size := d1.lt
  clear d0 d1 hw2 hw3e l0 l1
  have x0 := e0.cell 0 _ rfl
  have x1 := e0.cell 1 _ rfl
  have x2 := e0.cell 2 _ rfl
  go_wp2_with fail
  refine (toldIn_any (.slice an S.vol.now.length cn) (.slice aw S.vol.snaps.length cw) (.slice al S.lasts.length cl) w3 rfl rfl rfl).mono ?_
  rintro e w4 ⟨v4, rfl, rfl, hw4e⟩
  have f0 := e0.alloc (.cells #[.slice an S.vol.now.length cn, .slice aw S.vol.snaps.length cw, .slice al S.lasts.length cl] 43)
  have f1 := e1.alloc (.cells #[.slice an S.vol.now.length cn, .slice aw S.vol.snaps.length cw, .slice al S.lasts.length cl] 43)
  have f7 := B7.alloc (.cells #[.slice an S.vol.now.length cn, .slice aw S.vol.snaps.length cw, .slice al S.lasts.length cl] 43)
  have fT := Box.new w3 43 [.slice an S.vol.now.length cn, .slice aw S.vol.snaps.length cw, .slice al S.lasts.length cl]
  rw [← hw4e] at f0 f1 f7 fT
  have hw4 : Below w.heap.size w w4 := by rw [hw4e]; exact Below.up hw3 _
  clear hw4e e0 e1 B7 hw3 x0 x1 x2
  obtain ⟨i, hi⟩ : ∃ i : Nat, c - 1 = i := ⟨(c - 1).toNat, by omega⟩
  obtain rfl : c = (i : Int) + 1 := by omega
  have hi4 : i < 4 := by omega
  have hil : i < S.lasts.length := by have := HSL.out; omega
  clear hi
  have HT : Hid (∀ W, Below w4.heap.size w4 W → Calls Tryd.prog 39 ([(.int .i64 ((i : Int) + 1) : Value)] ++ [(.pointer (some ⟨w3.heap.size, 0, none⟩) : Value)]).toArray W fun e w' => ∃ v', e = .returned v' ∧ (v' = .agg #[.int .i64 (S.lasts.getD i zeroLast).num, .int .i64 (S.lasts.getD i zeroLast).rep.code, .int .i64 (S.lasts.getD i zeroLast).rep.n, .string ⟨(S.lasts.getD i zeroLast).rep.data.toArray⟩] ∧ Below W.heap.size W w')) :=
    fun W hW => (told_any S.lasts i _ _ _ _ W (fT.below hW fT.lt) (hlast.below (Below.far hw4 hW)) hil).mono fun e w' ⟨he, hb⟩ => ⟨_, he, rfl, hb⟩
  obtain ⟨ln, hln⟩ : ∃ ln, (S.lasts.getD i zeroLast).num = ln := ⟨_, rfl⟩
  have HLN : Hid ((S.lasts.getD i zeroLast).num = ln) := hln
  rw [hln] at HT
  clear hln
  generalize (S.lasts.getD i zeroLast).rep = lr at HT
  have y0 := f7.cell 0 _ rfl
  have y1 := f7.cell 1 _ rfl
  have HB7 : Hid (Box w4 w2.heap.size _ _) := f7
  have kf := fieldLast
  go_upto_region 8 with fail
  go_cut [37] (fun s37 wx => s37 = .bool (decide (n ≤ ln)) ∧ Below w4.heap.size w4 wx)
  case first =>
    go_region_law
      ((refine step_fn _ (by rfl) 32 39 [.pointer (some ⟨w3.heap.size, 0, none⟩)] _ _ (by rfl) ?hfn [.int .i64 ((i : Int) + 1)] ?hvs enter_told _ (HT.out _ ?hbw) ?_
        case hfn => rfl
        case hvs => rfl
        case hbw => (repeat (first | exact Below.refl _ _ | assumption | apply Below.drew | apply Below.up | (refine Below.far ?_ (by assumption))))
        rintro u' wA ⟨hu4, hbA⟩
        subst hu4
        have hAU : Below w4.heap.size w4 wA := by (repeat (first | exact Below.refl _ _ | assumption | apply Below.drew | apply Below.up | (refine Below.far ?_ (by assumption))))
        have E7 := HB7.out.below hAU HB7.out.lt
        have y0a := E7.cell 0 _ rfl
        have y1a := E7.cell 1 _ rfl))
    all_goals go_wp2_with fail
    all_goals go_meet
    all_goals exact ⟨rfl, hAU⟩
  case rest =>
    obtain ⟨rfl, hbc⟩ := hcut
    have g0 := f0.below hbc f0.lt
    have g1 := f1.below hbc f1.lt
    have g7 := f7.below hbc f7.lt
    have hwc := Below.far hw4 hbc
    have m0 := g0.lt
    have m1 := g1.lt
    have m7 := g7.lt
    clear f0 f1 f7 fT HT HB7 y0 y1 kf hbc hw4
    have x0 := g0.cell 0 _ rfl
    have x1 := g0.cell 1 _ rfl
    have x2 := g0.cell 2 _ rfl
    by_cases hle : n ≤ ln
    · have q : decide (n ≤ ln) = true := by simp [hle]
      rw [q]
      have HD : Hid (doneS S ⟨(i : Int) + 1, n, ⟨k, p, sn, d⟩⟩ = S) := by
        unfold Hid doneS
        have e1 : ((i : Int) + 1 - 1).toNat = i := by omega
        simp only [e1, HLN.out]
        rw [if_neg (by omega)]
      have HC : Hid (Calls _ _ _ _ _) := copyState_any S _ wc (h.below hwc) hf
      clear HLN q hle
      go_wp2_with fail
      refine HC.out.mono ?_
      rintro e w5 ⟨v5, rfl, hn5, hb5⟩
      obtain ⟨a1, c1, a2, c2, a3, c3, rfl⟩ := hn5.form
      have k1 := g1.below hb5 g1.lt
      have z0 := k1.cell 0 _ rfl
      have z1 := k1.cell 1 _ rfl
      have z2 := k1.cell 2 _ rfl
      have z3 := k1.frozen 0
      have z4 := k1.frozen 1
      have z5 := k1.frozen 2
      have HN : Hid (StNew _ _ _ _) := (((hn5.other (a := ⟨w.heap.size + 1, 0, none⟩) (by first | exact m1 | (simp <;> omega)) (.slice a1 S.vol.now.length c1)).other (a := ⟨w.heap.size + 1, 1, none⟩) (by first | exact m1 | (simp <;> omega)) (.slice a2 S.vol.snaps.length c2)).other (a := ⟨w.heap.size + 1, 2, none⟩) (by first | exact m1 | (simp <;> omega)) (.slice a3 S.lasts.length c3)).base (B' := w.heap.size) (by omega)
      have HB : Hid (Below w.heap.size w _) := (((Below.far hwc hb5).setCell (p := ⟨w.heap.size + 1, 0, none⟩) (by simp) (.slice a1 S.vol.now.length c1)).setCell (p := ⟨w.heap.size + 1, 1, none⟩) (by simp) (.slice a2 S.vol.snaps.length c2)).setCell (p := ⟨w.heap.size + 1, 2, none⟩) (by simp) (.slice a3 S.lasts.length c3)
      clear hn5 hb5 k1 HC x0 x1 x2 g0 g1 g7
      go_wp2_with fail
      rw [HD.out]
      refine bodyPost_ret (v := .tuple #[.agg #[.slice a1 S.vol.now.length c1, .slice a2 S.vol.snaps.length c2, .slice a3 S.lasts.length c3], .int .i64 0]) ?_ rfl ⟨_, rfl, HN.out, HB.out⟩
      clear HN HB
      simp [results, Tryd.results21, go_sem, *]
    · have q : decide (n ≤ ln) = false := by simp [hle]
      rw [q]
      have HD : Hid (doneS S ⟨(i : Int) + 1, n, ⟨k, p, sn, d⟩⟩ = ⟨didV S.vol ⟨k, p, sn, d⟩, S.lasts.set i ⟨n, didR S.vol ⟨k, p, sn, d⟩⟩⟩) := by
        unfold Hid doneS
        have e1 : ((i : Int) + 1 - 1).toNat = i := by omega
        simp only [e1, HLN.out]
        rw [if_pos (by omega)]
      have HC : Hid (Calls Tryd.prog 31 #[.agg #[.slice an S.vol.now.length cn, .slice aw S.vol.snaps.length cw], .agg #[.int .i64 k, .int .i64 p, .int .i64 sn, .string ⟨d.toArray⟩]] wc _) := do_ok S.vol ⟨k, p, sn, d⟩ _ wc (hv.below hwc) hvf ho
      clear HLN q hle
      have y2 := g7.cell 2 _ rfl
      have y3 := g7.cell 3 _ rfl
      have y4 := g7.cell 4 _ rfl
      have y5 := g7.cell 5 _ rfl
      go_wp2_with fail
      refine HC.out.mono ?_
      rintro e w5 ⟨v5, rfl, hn5, hb5⟩
      obtain ⟨a5, c5, a6, c6, rfl⟩ := hn5.form
      have k0 := g0.below hb5 m0
      have k1 := g1.below hb5 m1
      have k7 := g7.below hb5 m7
      have hw5 : Below w.heap.size w w5 := Below.far hwc hb5
      have m5 := hb5.size
      obtain ⟨RR, HRR⟩ : ∃ RR, Hid (didR S.vol ⟨k, p, sn, d⟩ = RR) := ⟨_, rfl⟩
      rw [HRR.out]
      obtain ⟨VV, HVV⟩ : ∃ VV, Hid (didV S.vol ⟨k, p, sn, d⟩ = VV) := ⟨_, rfl⟩
      rw [HVV.out] at hn5 ⊢
      obtain ⟨N5, HN5⟩ : ∃ N5, Hid (VV.now.length = N5) := ⟨_, rfl⟩
      obtain ⟨N6, HN6⟩ : ∃ N6, Hid (VV.snaps.length = N6) := ⟨_, rfl⟩
      rw [HN5.out, HN6.out] at hn5 ⊢
      obtain ⟨rc, rn, rd⟩ := RR
      unfold repVal
      simp only
      clear x0 x1 x2 y2 y3 y4 y5 g0 g1 g7
      have x2 := k0.cell 2 _ rfl
      have o0 := k0.lt
      have HL : Hid (∀ W, Below w5.heap.size w5 W → Calls Tryd.prog 32 #[.slice al S.lasts.length cl] W _) := fun W hW => copyLasts_any S.lasts _ W (hlast.below (Below.far hw5 hW))
      obtain ⟨bV, bR, hb6⟩ := boxes2 w5 40 49 [.slice a5 N5 c5, .slice a6 N6 c6] [.int .i64 rc, .int .i64 rn, .string ⟨rd.toArray⟩]
      obtain ⟨w6, hw6e⟩ : ∃ w6, w6 = (w5.alloc (.cells #[.slice a5 N5 c5, .slice a6 N6 c6] 40)).alloc (.cells #[.int .i64 rc, .int .i64 rn, .string ⟨rd.toArray⟩] 49) := ⟨_, rfl⟩
      go_upto_region 13 with fail
      rw [← hw6e]
      rw [← hw6e] at bV bR hb6
      have j0 := k0.below hb6 k0.lt
      have j1 := k1.below hb6 k1.lt
      have j7 := k7.below hb6 k7.lt
      have hn6 := hn5.below hb6
      have hw6 := Below.far hw5 hb6
      have HL6 : Hid (Calls _ _ _ _ _) := HL.out w6 hb6
      have m6 := hb6.size
      have n6 : w6.heap.size = w5.heap.size + 1 + 1 := by rw [hw6e]; simp
      clear hw6e hb5 k0 k1 k7 HL hn5 hb6 x2
      have x2 := j0.cell 2 _ rfl
      go_wp2_with fail
      refine HL6.out.mono ?_
      rintro e w7 ⟨v7, rfl, hl7, hb7⟩
      have i1 := j1.below hb7 j1.lt
      have i7 := j7.below hb7 j7.lt
      have iV := bV.below hb7 bV.lt
      have iR := bR.below hb7 bR.lt
      have hn7 := hn6.below hb7
      have hw7 := Below.far hw6 hb7
      obtain ⟨g, c3, hgv, hgB, _, u0, u4⟩ := own_cellN hl7 (by decide) (i * 4) (by omega)
      subst hgv
      obtain ⟨_, _, hgv, _, _, u1, u5⟩ := own_cellN hl7 (by decide) (i * 4 + 1) (by omega)
      cases hgv
      obtain ⟨_, _, hgv, _, _, u2, u6⟩ := own_cellN hl7 (by decide) (i * 4 + 2) (by omega)
      cases hgv
      obtain ⟨_, _, hgv, _, _, u3, u7⟩ := own_cellN hl7 (by decide) (i * 4 + 3) (by omega)
      cases hgv
      rw [lastsCells_get _ i 1 hil (by decide)] at u1
      rw [lastsCells_get _ i 2 hil (by decide)] at u2
      rw [lastsCells_get _ i 3 hil (by decide)] at u3
      have u0' := lastsCells_get S.lasts i 0 hil (by decide)
      rw [Nat.add_zero] at u0'
      rw [u0'] at u0
      simp only [lastCells, List.getElem?_cons_zero, List.getElem?_cons_succ] at u0 u1 u2 u3
      have HF : Hid (StNew _ _ _ _ ∧ Below _ _ _) := app_fin (w := w) (i := i) (x := ⟨n, ⟨rc, rn, rd⟩⟩) hn7 hl7 (by first | omega | (simp <;> omega)) (by first | omega | (simp <;> omega)) hw7 (.slice a5 N5 c5) (.slice a6 N6 c6) (.slice (some ⟨g, 0, none⟩) S.lasts.length c3)
      generalize S.lasts.getD i zeroLast = ll at *
      have y0 := i7.cell 0 _ rfl
      have y1 := i7.cell 1 _ rfl
      have r0 := i1.cell 0 _ rfl
      have r1 := i1.cell 1 _ rfl
      have r2 := i1.cell 2 _ rfl
      have s0 := i1.frozen 0
      have s1 := i1.frozen 1
      have s2 := i1.frozen 2
      have z0 := iV.cell 0 _ rfl
      have z1 := iV.cell 1 _ rfl
      have t0 := iR.cell 0 _ rfl
      have t1 := iR.cell 1 _ rfl
      have t2 := iR.cell 2 _ rfl
      have q1 : ¬ w.heap.size + 1 = g := by omega
      have q2 : ¬ g = w.heap.size + 1 := by omega
      have q3 : ¬ g = w5.heap.size := by omega
      have q4 : ¬ w5.heap.size = g := by omega
      have i0' : (0 : Int) ≤ (i : Int) := by omega
      have i1' : (i : Int) < (S.lasts.length : Int) := by omega
      clear hn6 hn7 hl7 i1 i7 iV iR hw5 hw6 hw7 u0' hb7 j0 j1 j7 bV bR x2 HC
      clear m0 m1 m5 m6 n6 m7 o0 hgB l7
      go_wp2_with fail
      rw [HD.out, HVV.out, HRR.out]
      refine bodyPost_ret (v := .tuple #[.agg #[.slice a5 N5 c5, .slice a6 N6 c6, .slice (some ⟨g, 0, none⟩) S.lasts.length c3], .int .i64 0]) ?_ rfl ⟨_, rfl, HF.out.1, HF.out.2⟩
      clear HF
      simp [results, Tryd.results21, go_sem, *]

end Go.Proofs.YtpbiojnmegemdadDoor
