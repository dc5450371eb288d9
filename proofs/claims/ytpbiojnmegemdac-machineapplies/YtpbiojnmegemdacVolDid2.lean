/- The walk of the document's answer DidOf, a snapshot more; and what it refuses. -/
import Derived.Test.YtpbiojnmegemdacVolDid
import Derived.Deep.RegionLaw
namespace Go.Proofs.Ytpbiojnmegemdac
open Go.RowKit
set_option linter.unusedVariables false
set_option linter.unusedSimpArgs false
attribute [local go_sem] app_list ext_list get_list byteAt_zero

set_option maxHeartbeats 2000000 in
theorem didOf_snapMore (V : VolM) (o : OpM) (v : Value) (w : World) (h : VolAt w v V) (hv : volFault V = 0) (ho : opFault o = 0) (hk : o.kind = 4) (hs : V.snaps.length < 3) :
    Calls Try.prog 43 #[v, .agg (opCells o).toArray] w fun e w' => ∃ v', e = .returned (.tuple #[v', .agg #[.int .i64 (didR V o).code, .int .i64 (didR V o).n, .string ⟨(didR V o).data.toArray⟩], .int .i64 0]) ∧ VolNew w' w.heap.size v' (didV V o) ∧ Below w.heap.size w w' := by
  have hm := volMay_len (volMay_of V hv)
  have hom := opMay_of o ho
  have hf : VolFits V := ⟨by omega, by omega, fun l hl => by have := hm.2.2 l hl; omega⟩
  have HM : Hid (V.now.length = 6 ∧ V.snaps.length ≤ 3 ∧ ∀ l ∈ V.snaps, l.length = 6) := hm
  clear hm
  obtain ⟨k, p, s, d⟩ := o
  simp only at hk hom
  subst hk
  have hdv : didV V ⟨4, p, s, d⟩ = { V with snaps := V.snaps ++ [V.now] } := by simp [didV, *]
  have hdr : didR V ⟨4, p, s, d⟩ = ⟨0, V.snaps.length + 1, []⟩ := by simp [didR, *]
  rw [hdv, hdr]
  clear hdv hdr
  unfold opCells
  have h' := h
  obtain ⟨vn, vs, rfl, _, _⟩ := h'
  obtain ⟨b0, b1, b2, b3, hb⟩ := boxes4 w 37 23 37 62 [vn, vs] [.int .i64 4, .int .i64 p, .int .i64 s, .string ⟨d.toArray⟩] [.slice none 0 0, .slice none 0 0] [.int .i64 0, .int .i64 0, .string ⟨#[]⟩]
  go_enter Try.func43, Try.ntmps43
  go_wp2_with fail
  refine (volumeFault_any V _ _ (h.below hb)).mono ?_
  rintro e w1 ⟨rfl, hb1⟩
  rw [hv]
  have b0' := b0.below hb1 b0.lt
  have b1' := b1.below hb1 b1.lt
  have b2' := b2.below hb1 b2.lt
  have b3' := b3.below hb1 b3.lt
  have hbw := Below.seq hb hb1
  clear b0 b1 b2 b3 hb hb1
  have x0 := b1'.cell 0 _ rfl
  have x1 := b1'.cell 1 _ rfl
  have x2 := b1'.cell 2 _ rfl
  have x3 := b1'.cell 3 _ rfl
  go_wp2_with fail
  refine (opFaultR_any ⟨4, p, s, d⟩ _ (by simp <;> omega)).mono ?_
  rintro e w2 ⟨rfl, hb2⟩
  rw [ho]
  have b0 := b0'.below hb2 b0'.lt
  have b1 := b1'.below hb2 b1'.lt
  have b2 := b2'.below hb2 b2'.lt
  have b3 := b3'.below hb2 b3'.lt
  have hbw2 := Below.seq hbw hb2
  clear b0' b1' b2' b3' hbw hb2 x0 x1 x2 x3
  have x0 := b0.cell 0 _ rfl
  have x1 := b0.cell 1 _ rfl
  go_wp2_with fail
  refine (volumeCopy_any V _ _ (h.below hbw2) hf).mono ?_
  rintro e w3 ⟨v3, rfl, hn3, hb3⟩
  obtain ⟨a1, c1, a2, c2, rfl⟩ := hn3.form
  have e0 := b0.below hb3 b0.lt
  have e1 := b1.below hb3 b1.lt
  have e2 := b2.below hb3 b2.lt
  have e3 := b3.below hb3 b3.lt
  have hbw3 := Below.seq hbw2 hb3
  have l5 := b3.lt
  have l0 := e0.lt
  have l1 := e1.lt
  have l2 := e2.lt
  have l3 := e3.lt
  clear b0 b1 b2 b3 x0 x1
  have x0 := e1.cell 0 _ rfl
  have x1 := e1.cell 1 _ rfl
  have x2 := e1.cell 2 _ rfl
  have x3 := e1.cell 3 _ rfl
  have HN3 := hn3
  obtain ⟨q, hq⟩ := Int.eq_ofNat_of_zero_le hom.2.1.1
  subst hq
  have hq6 : q < V.now.length := by have := HM.out.1; omega
  have y0 := e2.cell 0 _ rfl
  have y1 := e2.cell 1 _ rfl
  have f0 := e2.frozen 0
  have f1 := e2.frozen 1
  have z0 := e3.cell 0 _ rfl
  have z1 := e3.cell 1 _ rfl
  have z2 := e3.cell 2 _ rfl
  have g0 := e3.frozen 0
  have g1 := e3.frozen 1
  have g2 := e3.frozen 2
  have hV3 := h.below hbw3
  obtain ⟨vn', vs', hvv, hn', hs'⟩ := hV3
  cases hvv
  obtain ⟨a7, c7, rfl, hl7, hc7⟩ := hn'
  obtain ⟨a8, c8, rfl, hl8, hc8⟩ := hs'
  have v0 := e0.cell 0 _ rfl
  have v1 := e0.cell 1 _ rfl
  clear hc7 hc8
  have hs5 : (V.snaps.length : Int) < 3 := by omega
  have hs6 : ¬ (3 : Int) ≤ (V.snaps.length : Int) := by omega
  have hn' : Strs w3 (.slice a7 V.now.length c7) V.now := by
    obtain ⟨_, _, hvv, hn', _⟩ := h.below hbw3
    cases hvv
    exact hn'
  obtain ⟨vn3, vs3, us3, hv3, hn4, hs4, hu4, hu5, hap⟩ := hn3
  cases hv3
  have HR : Hid (∀ o1 o2, RowAt ((w3.alloc o1).alloc o2).drew (.slice a7 V.now.length c7) V.now.length 1 (V.now.map enc)) := fun o1 o2 => (hn'.below (below_alloc2 w3 o1 o2)).row
  have HZ : Hid (V.now.length * 16 ≤ 140737488355328) := hf.now
  have HS4 : Hid (w3.ownsRow w2.heap.size 34 1 (.slice a2 V.snaps.length c2) V.snaps.length us3) := hs4
  have HBO : Hid (∀ o2, Box ((w3.alloc (.cells #[.slice a1 V.now.length c1, .slice a2 V.snaps.length c2] 37)).alloc o2) w3.heap.size 37 [.slice a1 V.now.length c1, .slice a2 V.snaps.length c2]) := fun o2 => (Box.new w3 _ [.slice a1 V.now.length c1, .slice a2 V.snaps.length c2]).alloc o2
  have HBR : Hid (∀ o1, Box ((w3.alloc o1).alloc (.cells #[.int .i64 0, .int .i64 0, .string ⟨#[]⟩] 62)) (w3.heap.size + 1) 62 [.int .i64 0, .int .i64 0, .string ⟨#[]⟩]) := fun o1 => by
    have := Box.new (w3.alloc o1) 62 [.int .i64 0, .int .i64 0, .string ⟨#[]⟩]
    simpa using this
  have HALL : Hid (w3.ownsRow w2.heap.size 9 1 (.slice a1 V.now.length c1) V.now.length (V.now.map enc) ∧ OwnEach w3 w2.heap.size (.slice a1 V.now.length c1) us3 V.snaps ∧ OwnEach w3 w2.heap.size (.slice a2 V.snaps.length c2) us3 V.snaps ∧ Apart (.slice a1 V.now.length c1) (.slice a2 V.snaps.length c2)) := ⟨hn4, hu4, hu5, hap⟩
  have l6 := hb3.size
  clear hn4 hs4 hu4 hu5 hap hn'
  go_wp2_with fail
  go_region_law
    ((first
      | (refine step_copy_row _ (by rfl) (.const (.slice none 0 0)) _ 34 (by rfl) 9 Try.t9 _ 1 16 Try.underlying34 infoStr zeroStr sizeStr bytesStr rfl (by decide) (by decide) (by rfl) _ V.now.length (V.now.map enc) (by rfl) (HR.out _ _) (enc_one _) HZ.out ?_
         intro u' wA hownA hbA
         obtain ⟨a4, c4, hu4⟩ := own_form hownA
         subst hu4
         have hbX := undrew hbA
         have BO := (HBO.out _).below hbX (by simp <;> omega)
         have BR := (HBR.out _).below hbX (by simp)
         have m1 := BO.cell 1 _ rfl
         have m3 := BR.cell 1 _ rfl
         have m4 := BR.frozen 1
         have hbA2 : Below w3.heap.size w3 wA := (below_alloc2 w3 _ _).trans (hbX.mono (by simp <;> omega))
         have m0 := (e0.below hbA2 l0).cell 0 _ rfl
         have q4 : w3.heap.size + 1 + 1 ≤ wA.heap.size := by have := hbX.size; simpa using this
         have q5 : w.heap.size < wA.heap.size := by omega
         have q6 : w3.heap.size < wA.heap.size := by omega)
      | (refine step_append_row _ (by rfl) _ _ 35 (by rfl) w2.heap.size 34 Try.t34 _ 1 24 Try.underlying35 infoStrs zeroStrs sizeStrs bytesStrs rfl (by decide) _ V.snaps.length us3 (by rfl) (own_below HS4.out (hbA2.alloc (by omega) _) (own_lt HS4.out)) _ 1 [.slice a4 V.now.length c4] (by rfl) (RowAt.one _ _ _) (by simp [Value.oneCell']) (by unfold maxLen; have := hf.snaps; omega) (by have := hf.snaps; omega) (by simp <;> omega) ?_
         intro u3 wB hownB hgB hatB
         obtain ⟨a5, c5, hu5⟩ := own_form hownB
         subst hu5
         have BO2 := (BO.alloc (.cells #[.slice a4 V.now.length c4] 34)).grown hgB (fun e => by have := own_lt HS4.out _ e; omega)
         have BR2 := (BR.alloc (.cells #[.slice a4 V.now.length c4] 34)).grown hgB (fun e => by have := own_lt HS4.out _ e; omega)
         have p1 := BO2.cell 1 _ rfl
         have p2 := BO2.frozen 1
         have p0 := BO2.cell 0 _ rfl
         have r0 := BR2.cell 0 _ rfl
         have r1 := BR2.cell 1 _ rfl
         have r2 := BR2.cell 2 _ rfl
         have r3 := BR2.frozen 1
         have p4 : wA.heap.size + 1 ≤ wB.heap.size := by have := hgB.size; simpa using this)))
  all_goals go_wp2_with fail
  all_goals
    have far : ∀ b, b < w2.heap.size → (Value.slice a2 V.snaps.length c2).ownBlock ≠ some b := fun b hb e => own_far HS4.out b hb e.symm
    have E2 := ((e2.below hbA2 l2).alloc (.cells #[.slice a4 V.now.length c4] 34)).grown hgB (far _ (by omega))
    have E3 := ((e3.below hbA2 l3).alloc (.cells #[.slice a4 V.now.length c4] 34)).grown hgB (far _ (by omega))
    have y0 := E2.cell 0 _ rfl
    have y1 := E2.cell 1 _ rfl
    have f0 := E2.frozen 0
    have f1 := E2.frozen 1
    have z0 := E3.cell 0 _ rfl
    have z1 := E3.cell 1 _ rfl
    have z2 := E3.cell 2 _ rfl
    have g0 := E3.frozen 0
    have g1 := E3.frozen 1
    have g2 := E3.frozen 2
    have HW : Hid (VolNew _ _ _ _) := (((((((vol_snap (wC := (wB.setCell ⟨w3.heap.size, 1, none⟩ (.slice a5 (V.snaps.length + 1) c5)).setCell ⟨w3.heap.size + 1, 1, none⟩ (.int .i64 ((V.snaps.length : Int) + 1))) (l := V.now) HALL.out.1 HS4.out HALL.out.2.1 HALL.out.2.2.1 HALL.out.2.2.2 (by omega) hbA2 (hi := w3.heap.size + 1 + 1) (by omega) q4 (by simpa using hownA) hgB hownB (by simpa using hatB)
        (fun k hk => by rw [Below.heap_setCell _ _ _ _ (by simp <;> omega), Below.heap_setCell _ _ _ _ (by simp <;> omega)]))).other (a := ⟨w.heap.size + 1 + 1, 0, none⟩) (by simp <;> omega) (.slice a1 V.now.length c1)).other (a := ⟨w.heap.size + 1 + 1, 1, none⟩) (by simp <;> omega) (.slice a5 (V.snaps.length + 1) c5)).other
        (a := ⟨w.heap.size + 1 + 1 + 1, 0, none⟩) (by simp <;> omega) (.int .i64 0)).other (a := ⟨w.heap.size + 1 + 1 + 1, 1, none⟩) (by simp <;> omega) (.int .i64 ((V.snaps.length : Int) + 1))).other (a := ⟨w.heap.size + 1 + 1 + 1, 2, none⟩) (by simp <;> omega) (.string ⟨#[]⟩)).base (B' := w.heap.size) (by omega)
    have HG : Below w.heap.size w wB := (hbw3.trans (hbA2.mono (by omega))).trans ⟨hgB.os, hgB.tape, hgB.output, by have := hgB.size; simp at this; omega, fun k hk => (hgB.block k (by simp; omega) (fun e => far k (by omega) e.symm)).trans (Below.heap_alloc _ _ _ (by omega))⟩
    have HB : Hid (Below _ _ _) := ((((((HG.setCell (p := ⟨w3.heap.size, 1, none⟩) (by simp <;> omega) (.slice a5 (V.snaps.length + 1) c5)).setCell (p := ⟨w3.heap.size + 1, 1, none⟩) (by simp <;> omega) (.int .i64 ((V.snaps.length : Int) + 1))).setCell (p := ⟨w.heap.size + 1 + 1, 0, none⟩) (by simp <;> omega) (.slice a1 V.now.length c1)).setCell (p := ⟨w.heap.size + 1 + 1, 1, none⟩) (by simp <;> omega) (.slice a5 (V.snaps.length + 1) c5)).setCell
        (p := ⟨w.heap.size + 1 + 1 + 1, 0, none⟩) (by simp <;> omega) (.int .i64 0)).setCell (p := ⟨w.heap.size + 1 + 1 + 1, 1, none⟩) (by simp <;> omega) (.int .i64 ((V.snaps.length : Int) + 1))).setCell (p := ⟨w.heap.size + 1 + 1 + 1, 2, none⟩) (by simp <;> omega) (.string ⟨#[]⟩)
    have n1 : ¬ w3.heap.size = w.heap.size + 1 + 1 := by omega
    have n2 : ¬ w3.heap.size = w.heap.size + 1 + 1 + 1 := by omega
    have n3 : ¬ w3.heap.size + 1 = w.heap.size + 1 + 1 := by omega
    have n4 : ¬ w3.heap.size + 1 = w.heap.size + 1 + 1 + 1 := by omega
    clear HALL HS4 HR HZ HBO HBR hgB hownB hownA hbA hbX hbA2 BO BR BO2 BR2 E2 E3 e0 e1 e2 e3 HG HN3 far hbw3 hbw2 hb3
    go_region
    go_wp2_with fail
    refine bodyPost_ret (v := .tuple #[.agg #[.slice a1 V.now.length c1, .slice a5 (V.snaps.length + 1) c5], .agg #[.int .i64 0, .int .i64 ((V.snaps.length : Int) + 1), .string ⟨#[]⟩], .int .i64 0]) ?_ rfl ?_
    · clear HW HB
      simp [results, Try.results43, go_sem, *]
    · exact ⟨_, rfl, HW.out.drew, HB.out.drew⟩

set_option maxHeartbeats 2000000 in
theorem didOf_badV (V : VolM) (o : OpM) (v : Value) (w : World) (h : VolAt w v V) (hl : o.data.length ≤ 281474976710656) (hv : volFault V ≠ 0) :
    Calls Try.prog 43 #[v, .agg (opCells o).toArray] w fun e w' => e = .returned (.tuple #[.agg #[.slice none 0 0, .slice none 0 0], .agg #[.int .i64 0, .int .i64 0, .string ⟨#[]⟩], .int .i64 (volFault V)]) ∧ Below w.heap.size w w' := by
  obtain ⟨k, p, s, d⟩ := o
  unfold opCells
  have h' := h
  obtain ⟨vn, vs, rfl, _, _⟩ := h'
  obtain ⟨b0, b1, b2, b3, hb⟩ := boxes4 w 37 23 37 62 [vn, vs] [.int .i64 k, .int .i64 p, .int .i64 s, .string ⟨d.toArray⟩] [.slice none 0 0, .slice none 0 0] [.int .i64 0, .int .i64 0, .string ⟨#[]⟩]
  go_enter Try.func43, Try.ntmps43
  go_wp2_with fail
  refine (volumeFault_any V _ _ (h.below hb)).mono ?_
  rintro e w1 ⟨rfl, hb1⟩
  generalize hx : volFault V = x at *
  have HX : Hid (volFault V = x) := hx
  clear hx
  have t1 : (x == 0) = false := by simpa using hv
  have t2 : (x != 0) = true := by simpa using hv
  clear hv
  have b2' := b2.below hb1 b2.lt
  have b3' := b3.below hb1 b3.lt
  have hbw := Below.seq hb hb1
  clear b0 b1 b2 b3 hb hb1
  have y0 := b2'.cell 0 _ rfl
  have y1 := b2'.cell 1 _ rfl
  have f0 := b2'.frozen 0
  have f1 := b2'.frozen 1
  have z0 := b3'.cell 0 _ rfl
  have z1 := b3'.cell 1 _ rfl
  have z2 := b3'.cell 2 _ rfl
  have g0 := b3'.frozen 0
  have g1 := b3'.frozen 1
  have g2 := b3'.frozen 2
  have HB : Hid (Below _ _ _) := ((((hbw.setCell (p := ⟨w.heap.size + 1 + 1, 0, none⟩) (by simp <;> omega) (.slice none 0 0)).setCell (p := ⟨w.heap.size + 1 + 1, 1, none⟩) (by simp <;> omega) (.slice none 0 0)).setCell (p := ⟨w.heap.size + 1 + 1 + 1, 0, none⟩) (by simp <;> omega) (.int .i64 0)).setCell (p := ⟨w.heap.size + 1 + 1 + 1, 1, none⟩) (by simp <;> omega) (.int .i64 0)).setCell (p := ⟨w.heap.size + 1 + 1 + 1, 2, none⟩) (by simp <;> omega) (.string ⟨#[]⟩)
  clear b2' b3' hbw
  go_wp2_with fail
  refine bodyPost_ret (v := .tuple #[.agg #[.slice none 0 0, .slice none 0 0], .agg #[.int .i64 0, .int .i64 0, .string ⟨#[]⟩], .int .i64 x]) ?_ rfl ?_
  · clear HB HX
    simp [results, Try.results43, go_sem, *]
  · exact ⟨by rw [HX.out], HB.out⟩

set_option maxHeartbeats 2000000 in
theorem didOf_badO (V : VolM) (o : OpM) (v : Value) (w : World) (h : VolAt w v V) (hl : o.data.length ≤ 281474976710656) (hv : volFault V = 0) (ho : opFault o ≠ 0) :
    Calls Try.prog 43 #[v, .agg (opCells o).toArray] w fun e w' => e = .returned (.tuple #[.agg #[.slice none 0 0, .slice none 0 0], .agg #[.int .i64 0, .int .i64 0, .string ⟨#[]⟩], .int .i64 (opFault o)]) ∧ Below w.heap.size w w' := by
  obtain ⟨k, p, s, d⟩ := o
  unfold opCells
  have h' := h
  obtain ⟨vn, vs, rfl, _, _⟩ := h'
  obtain ⟨b0, b1, b2, b3, hb⟩ := boxes4 w 37 23 37 62 [vn, vs] [.int .i64 k, .int .i64 p, .int .i64 s, .string ⟨d.toArray⟩] [.slice none 0 0, .slice none 0 0] [.int .i64 0, .int .i64 0, .string ⟨#[]⟩]
  go_enter Try.func43, Try.ntmps43
  go_wp2_with fail
  refine (volumeFault_any V _ _ (h.below hb)).mono ?_
  rintro e w1 ⟨rfl, hb1⟩
  rw [hv]
  have b1' := b1.below hb1 b1.lt
  have b2 := b2.below hb1 b2.lt
  have b3 := b3.below hb1 b3.lt
  have hbw := Below.seq hb hb1
  clear b0 b1 hb hb1
  have x0 := b1'.cell 0 _ rfl
  have x1 := b1'.cell 1 _ rfl
  have x2 := b1'.cell 2 _ rfl
  have x3 := b1'.cell 3 _ rfl
  go_wp2_with fail
  refine (opFaultR_any ⟨k, p, s, d⟩ _ hl).mono ?_
  rintro e w2 ⟨rfl, hb2⟩
  generalize hx : opFault ⟨k, p, s, d⟩ = x at *
  have HX : Hid (opFault ⟨k, p, s, d⟩ = x) := hx
  clear hx
  have t1 : (x == 0) = false := by simpa using ho
  have t2 : (x != 0) = true := by simpa using ho
  clear ho
  have b2' := b2.below hb2 b2.lt
  have b3' := b3.below hb2 b3.lt
  have hbw := Below.seq hbw hb2
  clear b1' b2 b3 hb2 x0 x1 x2 x3
  have y0 := b2'.cell 0 _ rfl
  have y1 := b2'.cell 1 _ rfl
  have f0 := b2'.frozen 0
  have f1 := b2'.frozen 1
  have z0 := b3'.cell 0 _ rfl
  have z1 := b3'.cell 1 _ rfl
  have z2 := b3'.cell 2 _ rfl
  have g0 := b3'.frozen 0
  have g1 := b3'.frozen 1
  have g2 := b3'.frozen 2
  have HB : Hid (Below _ _ _) := ((((hbw.setCell (p := ⟨w.heap.size + 1 + 1, 0, none⟩) (by simp <;> omega) (.slice none 0 0)).setCell (p := ⟨w.heap.size + 1 + 1, 1, none⟩) (by simp <;> omega) (.slice none 0 0)).setCell (p := ⟨w.heap.size + 1 + 1 + 1, 0, none⟩) (by simp <;> omega) (.int .i64 0)).setCell (p := ⟨w.heap.size + 1 + 1 + 1, 1, none⟩) (by simp <;> omega) (.int .i64 0)).setCell (p := ⟨w.heap.size + 1 + 1 + 1, 2, none⟩) (by simp <;> omega) (.string ⟨#[]⟩)
  clear b2' b3' hbw
  go_wp2_with fail
  refine bodyPost_ret (v := .tuple #[.agg #[.slice none 0 0, .slice none 0 0], .agg #[.int .i64 0, .int .i64 0, .string ⟨#[]⟩], .int .i64 x]) ?_ rfl ?_
  · clear HB HX
    simp [results, Try.results43, go_sem, *]
  · exact ⟨by rw [HX.out], HB.out⟩

theorem didOf_ok (V : VolM) (o : OpM) (v : Value) (w : World) (h : VolAt w v V) (hv : volFault V = 0) (ho : opFault o = 0) :
    Calls Try.prog 43 #[v, .agg (opCells o).toArray] w fun e w' => ∃ v', e = .returned (.tuple #[v', .agg #[.int .i64 (didR V o).code, .int .i64 (didR V o).n, .string ⟨(didR V o).data.toArray⟩], .int .i64 0]) ∧ VolNew w' w.heap.size v' (didV V o) ∧ Below w.heap.size w w' := by
  have hom := opMay_of o ho
  have h4 : o.kind = 1 ∨ o.kind = 2 ∨ o.kind = 3 ∨ o.kind = 4 := by omega
  rcases h4 with hk | hk | hk | hk
  · exact didOf_write V o v w h hv ho hk
  · exact didOf_trim V o v w h hv ho hk
  · by_cases h1 : (V.snaps.length : Int) < o.snap
    · exact didOf_readNone V o v w h hv ho hk h1
    · by_cases h2 : o.snap = 0
      · exact didOf_readNow V o v w h hv ho hk h2
      · exact didOf_readSnap V o v w h hv ho hk (by omega) (by omega)
  · by_cases h1 : V.snaps.length < 3
    · exact didOf_snapMore V o v w h hv ho hk h1
    · exact didOf_snapFull V o v w h hv ho hk h1

theorem didOf_any (V : VolM) (o : OpM) (v : Value) (w : World) (h : VolAt w v V) (hl : o.data.length ≤ 281474976710656) :
    Calls Try.prog 43 #[v, .agg (opCells o).toArray] w fun e w' => ∃ v', e = .returned (.tuple #[v', repVal (doR V o), .int .i64 (doE V o)]) ∧ VolNew w' w.heap.size v' (doV V o) ∧ Below w.heap.size w w' := by
  by_cases hv : volFault V = 0
  · have e1 : doE V o = opFault o := by unfold doE; rw [if_pos hv]
    by_cases ho : opFault o = 0
    · unfold doR doV
      rw [e1, if_pos ho, if_pos ho, ho]
      exact didOf_ok V o v w h hv ho
    · unfold doR doV
      rw [e1, if_neg ho, if_neg ho]
      exact (didOf_badO V o v w h hl hv ho).mono fun e w' ⟨he, hb⟩ => ⟨_, he, VolNew.nil _ _, hb⟩
  · have e1 : doE V o = volFault V := by unfold doE; rw [if_neg hv]
    unfold doR doV
    rw [e1, if_neg hv, if_neg hv]
    exact (didOf_badV V o v w h hl hv).mono fun e w' ⟨he, hb⟩ => ⟨_, he, VolNew.nil _ _, hb⟩

end Go.Proofs.Ytpbiojnmegemdac
