/- The walk of the document's answer DidOf. -/
import Derived.Test.YtpbiojnmegemdacVolCopy
namespace Go.Proofs.Ytpbiojnmegemdac
open Go.RowKit
set_option linter.unusedVariables false
set_option linter.unusedSimpArgs false
attribute [local go_sem] app_list ext_list get_list byteAt_zero

set_option maxHeartbeats 2000000 in
theorem didOf_write (V : VolM) (o : OpM) (v : Value) (w : World) (h : VolAt w v V) (hv : volFault V = 0) (ho : opFault o = 0) (hk : o.kind = 1) :
    Calls Try.prog 43 #[v, .agg (opCells o).toArray] w fun e w' => ∃ v', e = .returned (.tuple #[v', .agg #[.int .i64 (didR V o).code, .int .i64 (didR V o).n, .string ⟨(didR V o).data.toArray⟩], .int .i64 0]) ∧ VolNew w' w.heap.size v' (didV V o) ∧ Below w.heap.size w w' := by
  have hm := volMay_len (volMay_of V hv)
  have hom := opMay_of o ho
  have hf : VolFits V := ⟨by omega, by omega, fun l hl => by have := hm.2.2 l hl; omega⟩
  have HM : Hid (V.now.length = 6 ∧ V.snaps.length ≤ 3 ∧ ∀ l ∈ V.snaps, l.length = 6) := hm
  clear hm
  obtain ⟨k, p, s, d⟩ := o
  simp only at hk hom
  subst hk
  have hdv : didV V ⟨1, p, s, d⟩ = { V with now := V.now.set p.toNat d } := by simp [didV, *]
  have hdr : didR V ⟨1, p, s, d⟩ = ⟨0, 0, []⟩ := by simp [didR, *]
  rw [hdv, hdr]
  clear hdv hdr
  unfold opCells
  have h' := h
  obtain ⟨vn, vs, rfl, _, _⟩ := h'
  obtain ⟨b0, b1, b2, b3, hb⟩ := boxes4 w 37 23 37 62 [vn, vs] [.int .i64 1, .int .i64 p, .int .i64 s, .string ⟨d.toArray⟩] [.slice none 0 0, .slice none 0 0] [.int .i64 0, .int .i64 0, .string ⟨#[]⟩]
  go_enter Try.func43, Try.ntmps43
  go_wp2_with fail
  refine (volumeFault_any V _ _ (h.below hb)).mono ?_
  rintro e w1 ⟨rfl, hb1⟩
  rw [hv]
  have b0' := b0.below hb1 b0.lt
  have b1' := b1.below hb1 b1.lt
  have b2' := b2.below hb1 b2.lt
  have b3' := b3.below hb1 b3.lt
  have hbw := Below.seq hb hb1
  clear b0 b1 b2 b3 hb hb1
  have x0 := b1'.cell 0 _ rfl
  have x1 := b1'.cell 1 _ rfl
  have x2 := b1'.cell 2 _ rfl
  have x3 := b1'.cell 3 _ rfl
  go_wp2_with fail
  refine (opFaultR_any ⟨1, p, s, d⟩ _ (by simp; omega)).mono ?_
  rintro e w2 ⟨rfl, hb2⟩
  rw [ho]
  have b0 := b0'.below hb2 b0'.lt
  have b1 := b1'.below hb2 b1'.lt
  have b2 := b2'.below hb2 b2'.lt
  have b3 := b3'.below hb2 b3'.lt
  have hbw2 := Below.seq hbw hb2
  clear b0' b1' b2' b3' hbw hb2 x0 x1 x2 x3
  have x0 := b0.cell 0 _ rfl
  have x1 := b0.cell 1 _ rfl
  go_wp2_with fail
  refine (volumeCopy_any V _ _ (h.below hbw2) hf).mono ?_
  rintro e w3 ⟨v3, rfl, hn3, hb3⟩
  obtain ⟨a1, c1, a2, c2, rfl⟩ := hn3.form
  have e0 := b0.below hb3 b0.lt
  have e1 := b1.below hb3 b1.lt
  have e2 := b2.below hb3 b2.lt
  have e3 := b3.below hb3 b3.lt
  have hbw3 := Below.seq hbw2 hb3
  have l5 := b3.lt
  have l0 := e0.lt
  have l1 := e1.lt
  have l2 := e2.lt
  have l3 := e3.lt
  clear b0 b1 b2 b3 x0 x1
  have x0 := e1.cell 0 _ rfl
  have x1 := e1.cell 1 _ rfl
  have x2 := e1.cell 2 _ rfl
  have x3 := e1.cell 3 _ rfl
  have HN3 := hn3
  obtain ⟨q, hq⟩ := Int.eq_ofNat_of_zero_le hom.2.1.1
  subst hq
  have hq6 : q < V.now.length := by have := HM.out.1; omega
  have y0 := e2.cell 0 _ rfl
  have y1 := e2.cell 1 _ rfl
  have f0 := e2.frozen 0
  have f1 := e2.frozen 1
  have z0 := e3.cell 0 _ rfl
  have z1 := e3.cell 1 _ rfl
  have z2 := e3.cell 2 _ rfl
  have g0 := e3.frozen 0
  have g1 := e3.frozen 1
  have g2 := e3.frozen 2
  obtain ⟨vn3, vs3, us3, hv3, hn4, hs4, hu4, hu5, hap⟩ := hn3
  cases hv3
  obtain ⟨g, cap, hg, hge, hgn, hgc, hgf⟩ := own_cell hn4 q hq6
  cases hg
  have hgl := own_lt hn4 g rfl
  have hgc' : w3.cell? ⟨g, q, none⟩ = some (enc (V.now.getD q [])) := by rw [hgc]; simp [List.getD, hq6]
  have ng : w.heap.size + 1 + 1 < g := by omega
  have ng2 : w.heap.size + 1 + 1 + 1 < g := by omega
  clear hn4 hs4 hu4 hu5 hap
  go_wp2_with fail
  go_region
  have HW : Hid (VolNew _ _ _ _) := (((((((HN3.write q d).other (a := ⟨w.heap.size + 1 + 1, 0, none⟩) (by simp; omega) (.slice (some ⟨g, 0, none⟩) V.now.length c1)).other (a := ⟨w.heap.size + 1 + 1, 1, none⟩) (by simp; omega) (.slice a2 V.snaps.length c2)).other (a := ⟨w.heap.size + 1 + 1 + 1, 0, none⟩) (by simp; omega) (.int .i64 0)).other (a := ⟨w.heap.size + 1 + 1 + 1, 1, none⟩) (by simp; omega) (.int .i64 0)).other (a := ⟨w.heap.size + 1 + 1 + 1, 2, none⟩) (by simp; omega) (.string ⟨#[]⟩)).below (below_alloc2 _ (.cells #[.slice (some ⟨g, 0, none⟩) V.now.length c1, .slice a2 V.snaps.length c2] 37) (.cells #[.int .i64 0, .int .i64 0, .string ⟨#[]⟩] 62))).base (B' := w.heap.size) (by omega)
  have HB : Hid (Below _ _ _) := ((((((hbw3.setCell (p := ⟨g, q, none⟩) (by simp; omega) (.string ⟨d.toArray⟩)).setCell (p := ⟨w.heap.size + 1 + 1, 0, none⟩) (by simp; omega) (.slice (some ⟨g, 0, none⟩) V.now.length c1)).setCell (p := ⟨w.heap.size + 1 + 1, 1, none⟩) (by simp; omega) (.slice a2 V.snaps.length c2)).setCell (p := ⟨w.heap.size + 1 + 1 + 1, 0, none⟩) (by simp; omega) (.int .i64 0)).setCell (p := ⟨w.heap.size + 1 + 1 + 1, 1, none⟩) (by simp; omega) (.int .i64 0)).setCell (p := ⟨w.heap.size + 1 + 1 + 1, 2, none⟩) (by simp; omega) (.string ⟨#[]⟩)).trans ((below_alloc2 _ (.cells #[.slice (some ⟨g, 0, none⟩) V.now.length c1, .slice a2 V.snaps.length c2] 37) (.cells #[.int .i64 0, .int .i64 0, .string ⟨#[]⟩] 62)).mono (by simp [World.setCell]; omega))
  clear HN3 hbw3 hbw2 hb3 e0 e1 e2 e3
  go_wp2_with fail
  refine bodyPost_ret (v := .tuple #[.agg #[.slice (some ⟨g, 0, none⟩) V.now.length c1, .slice a2 V.snaps.length c2], .agg #[.int .i64 0, .int .i64 0, .string ⟨#[]⟩], .int .i64 0]) ?_ rfl ?_
  · clear HW HB
    simp [results, Try.results43, go_sem, *]
  · exact ⟨_, rfl, HW.out.drew, HB.out.drew⟩

set_option maxHeartbeats 2000000 in
theorem didOf_trim (V : VolM) (o : OpM) (v : Value) (w : World) (h : VolAt w v V) (hv : volFault V = 0) (ho : opFault o = 0) (hk : o.kind = 2) :
    Calls Try.prog 43 #[v, .agg (opCells o).toArray] w fun e w' => ∃ v', e = .returned (.tuple #[v', .agg #[.int .i64 (didR V o).code, .int .i64 (didR V o).n, .string ⟨(didR V o).data.toArray⟩], .int .i64 0]) ∧ VolNew w' w.heap.size v' (didV V o) ∧ Below w.heap.size w w' := by
  have hm := volMay_len (volMay_of V hv)
  have hom := opMay_of o ho
  have hf : VolFits V := ⟨by omega, by omega, fun l hl => by have := hm.2.2 l hl; omega⟩
  have HM : Hid (V.now.length = 6 ∧ V.snaps.length ≤ 3 ∧ ∀ l ∈ V.snaps, l.length = 6) := hm
  clear hm
  obtain ⟨k, p, s, d⟩ := o
  simp only at hk hom
  subst hk
  have hdv : didV V ⟨2, p, s, d⟩ = { V with now := V.now.set p.toNat [] } := by simp [didV, *]
  have hdr : didR V ⟨2, p, s, d⟩ = ⟨0, 0, []⟩ := by simp [didR, *]
  rw [hdv, hdr]
  clear hdv hdr
  unfold opCells
  have h' := h
  obtain ⟨vn, vs, rfl, _, _⟩ := h'
  obtain ⟨b0, b1, b2, b3, hb⟩ := boxes4 w 37 23 37 62 [vn, vs] [.int .i64 2, .int .i64 p, .int .i64 s, .string ⟨d.toArray⟩] [.slice none 0 0, .slice none 0 0] [.int .i64 0, .int .i64 0, .string ⟨#[]⟩]
  go_enter Try.func43, Try.ntmps43
  go_wp2_with fail
  refine (volumeFault_any V _ _ (h.below hb)).mono ?_
  rintro e w1 ⟨rfl, hb1⟩
  rw [hv]
  have b0' := b0.below hb1 b0.lt
  have b1' := b1.below hb1 b1.lt
  have b2' := b2.below hb1 b2.lt
  have b3' := b3.below hb1 b3.lt
  have hbw := Below.seq hb hb1
  clear b0 b1 b2 b3 hb hb1
  have x0 := b1'.cell 0 _ rfl
  have x1 := b1'.cell 1 _ rfl
  have x2 := b1'.cell 2 _ rfl
  have x3 := b1'.cell 3 _ rfl
  go_wp2_with fail
  refine (opFaultR_any ⟨2, p, s, d⟩ _ (by simp; omega)).mono ?_
  rintro e w2 ⟨rfl, hb2⟩
  rw [ho]
  have b0 := b0'.below hb2 b0'.lt
  have b1 := b1'.below hb2 b1'.lt
  have b2 := b2'.below hb2 b2'.lt
  have b3 := b3'.below hb2 b3'.lt
  have hbw2 := Below.seq hbw hb2
  clear b0' b1' b2' b3' hbw hb2 x0 x1 x2 x3
  have x0 := b0.cell 0 _ rfl
  have x1 := b0.cell 1 _ rfl
  go_wp2_with fail
  refine (volumeCopy_any V _ _ (h.below hbw2) hf).mono ?_
  rintro e w3 ⟨v3, rfl, hn3, hb3⟩
  obtain ⟨a1, c1, a2, c2, rfl⟩ := hn3.form
  have e0 := b0.below hb3 b0.lt
  have e1 := b1.below hb3 b1.lt
  have e2 := b2.below hb3 b2.lt
  have e3 := b3.below hb3 b3.lt
  have hbw3 := Below.seq hbw2 hb3
  have l5 := b3.lt
  have l0 := e0.lt
  have l1 := e1.lt
  have l2 := e2.lt
  have l3 := e3.lt
  clear b0 b1 b2 b3 x0 x1
  have x0 := e1.cell 0 _ rfl
  have x1 := e1.cell 1 _ rfl
  have x2 := e1.cell 2 _ rfl
  have x3 := e1.cell 3 _ rfl
  have HN3 := hn3
  obtain ⟨q, hq⟩ := Int.eq_ofNat_of_zero_le hom.2.1.1
  subst hq
  have hq6 : q < V.now.length := by have := HM.out.1; omega
  have y0 := e2.cell 0 _ rfl
  have y1 := e2.cell 1 _ rfl
  have f0 := e2.frozen 0
  have f1 := e2.frozen 1
  have z0 := e3.cell 0 _ rfl
  have z1 := e3.cell 1 _ rfl
  have z2 := e3.cell 2 _ rfl
  have g0 := e3.frozen 0
  have g1 := e3.frozen 1
  have g2 := e3.frozen 2
  obtain ⟨vn3, vs3, us3, hv3, hn4, hs4, hu4, hu5, hap⟩ := hn3
  cases hv3
  obtain ⟨g, cap, hg, hge, hgn, hgc, hgf⟩ := own_cell hn4 q hq6
  cases hg
  have hgl := own_lt hn4 g rfl
  have hgc' : w3.cell? ⟨g, q, none⟩ = some (enc (V.now.getD q [])) := by rw [hgc]; simp [List.getD, hq6]
  have ng : w.heap.size + 1 + 1 < g := by omega
  have ng2 : w.heap.size + 1 + 1 + 1 < g := by omega
  clear hn4 hs4 hu4 hu5 hap
  go_wp2_with fail
  go_region
  have HW : Hid (VolNew _ _ _ _) := (((((((HN3.write q []).other (a := ⟨w.heap.size + 1 + 1, 0, none⟩) (by simp; omega) (.slice (some ⟨g, 0, none⟩) V.now.length c1)).other (a := ⟨w.heap.size + 1 + 1, 1, none⟩) (by simp; omega) (.slice a2 V.snaps.length c2)).other (a := ⟨w.heap.size + 1 + 1 + 1, 0, none⟩) (by simp; omega) (.int .i64 0)).other (a := ⟨w.heap.size + 1 + 1 + 1, 1, none⟩) (by simp; omega) (.int .i64 0)).other (a := ⟨w.heap.size + 1 + 1 + 1, 2, none⟩) (by simp; omega) (.string ⟨#[]⟩)).below (below_alloc2 _ (.cells #[.slice (some ⟨g, 0, none⟩) V.now.length c1, .slice a2 V.snaps.length c2] 37) (.cells #[.int .i64 0, .int .i64 0, .string ⟨#[]⟩] 62))).base (B' := w.heap.size) (by omega)
  have HB : Hid (Below _ _ _) := ((((((hbw3.setCell (p := ⟨g, q, none⟩) (by simp; omega) (.string ⟨#[]⟩)).setCell (p := ⟨w.heap.size + 1 + 1, 0, none⟩) (by simp; omega) (.slice (some ⟨g, 0, none⟩) V.now.length c1)).setCell (p := ⟨w.heap.size + 1 + 1, 1, none⟩) (by simp; omega) (.slice a2 V.snaps.length c2)).setCell (p := ⟨w.heap.size + 1 + 1 + 1, 0, none⟩) (by simp; omega) (.int .i64 0)).setCell (p := ⟨w.heap.size + 1 + 1 + 1, 1, none⟩) (by simp; omega) (.int .i64 0)).setCell (p := ⟨w.heap.size + 1 + 1 + 1, 2, none⟩) (by simp; omega) (.string ⟨#[]⟩)).trans ((below_alloc2 _ (.cells #[.slice (some ⟨g, 0, none⟩) V.now.length c1, .slice a2 V.snaps.length c2] 37) (.cells #[.int .i64 0, .int .i64 0, .string ⟨#[]⟩] 62)).mono (by simp [World.setCell]; omega))
  clear HN3 hbw3 hbw2 hb3 e0 e1 e2 e3
  go_wp2_with fail
  refine bodyPost_ret (v := .tuple #[.agg #[.slice (some ⟨g, 0, none⟩) V.now.length c1, .slice a2 V.snaps.length c2], .agg #[.int .i64 0, .int .i64 0, .string ⟨#[]⟩], .int .i64 0]) ?_ rfl ?_
  · clear HW HB
    simp [results, Try.results43, go_sem, *]
  · exact ⟨_, rfl, HW.out.drew, HB.out.drew⟩

set_option maxHeartbeats 2000000 in
theorem didOf_readNone (V : VolM) (o : OpM) (v : Value) (w : World) (h : VolAt w v V) (hv : volFault V = 0) (ho : opFault o = 0) (hk : o.kind = 3) (hs : (V.snaps.length : Int) < o.snap) :
    Calls Try.prog 43 #[v, .agg (opCells o).toArray] w fun e w' => ∃ v', e = .returned (.tuple #[v', .agg #[.int .i64 (didR V o).code, .int .i64 (didR V o).n, .string ⟨(didR V o).data.toArray⟩], .int .i64 0]) ∧ VolNew w' w.heap.size v' (didV V o) ∧ Below w.heap.size w w' := by
  have hm := volMay_len (volMay_of V hv)
  have hom := opMay_of o ho
  have hf : VolFits V := ⟨by omega, by omega, fun l hl => by have := hm.2.2 l hl; omega⟩
  have HM : Hid (V.now.length = 6 ∧ V.snaps.length ≤ 3 ∧ ∀ l ∈ V.snaps, l.length = 6) := hm
  clear hm
  obtain ⟨k, p, s, d⟩ := o
  simp only at hk hom hs
  subst hk
  have hdv : didV V ⟨3, p, s, d⟩ = V := by simp [didV, *]
  have hdr : didR V ⟨3, p, s, d⟩ = ⟨6, 0, []⟩ := by simp [didR, *]
  rw [hdv, hdr]
  clear hdv hdr
  unfold opCells
  have h' := h
  obtain ⟨vn, vs, rfl, _, _⟩ := h'
  obtain ⟨b0, b1, b2, b3, hb⟩ := boxes4 w 37 23 37 62 [vn, vs] [.int .i64 3, .int .i64 p, .int .i64 s, .string ⟨d.toArray⟩] [.slice none 0 0, .slice none 0 0] [.int .i64 0, .int .i64 0, .string ⟨#[]⟩]
  go_enter Try.func43, Try.ntmps43
  go_wp2_with fail
  refine (volumeFault_any V _ _ (h.below hb)).mono ?_
  rintro e w1 ⟨rfl, hb1⟩
  rw [hv]
  have b0' := b0.below hb1 b0.lt
  have b1' := b1.below hb1 b1.lt
  have b2' := b2.below hb1 b2.lt
  have b3' := b3.below hb1 b3.lt
  have hbw := Below.seq hb hb1
  clear b0 b1 b2 b3 hb hb1
  have x0 := b1'.cell 0 _ rfl
  have x1 := b1'.cell 1 _ rfl
  have x2 := b1'.cell 2 _ rfl
  have x3 := b1'.cell 3 _ rfl
  go_wp2_with fail
  refine (opFaultR_any ⟨3, p, s, d⟩ _ (by simp; omega)).mono ?_
  rintro e w2 ⟨rfl, hb2⟩
  rw [ho]
  have b0 := b0'.below hb2 b0'.lt
  have b1 := b1'.below hb2 b1'.lt
  have b2 := b2'.below hb2 b2'.lt
  have b3 := b3'.below hb2 b3'.lt
  have hbw2 := Below.seq hbw hb2
  clear b0' b1' b2' b3' hbw hb2 x0 x1 x2 x3
  have x0 := b0.cell 0 _ rfl
  have x1 := b0.cell 1 _ rfl
  go_wp2_with fail
  refine (volumeCopy_any V _ _ (h.below hbw2) hf).mono ?_
  rintro e w3 ⟨v3, rfl, hn3, hb3⟩
  obtain ⟨a1, c1, a2, c2, rfl⟩ := hn3.form
  have e0 := b0.below hb3 b0.lt
  have e1 := b1.below hb3 b1.lt
  have e2 := b2.below hb3 b2.lt
  have e3 := b3.below hb3 b3.lt
  have hbw3 := Below.seq hbw2 hb3
  have l5 := b3.lt
  have l0 := e0.lt
  have l1 := e1.lt
  have l2 := e2.lt
  have l3 := e3.lt
  clear b0 b1 b2 b3 x0 x1
  have x0 := e1.cell 0 _ rfl
  have x1 := e1.cell 1 _ rfl
  have x2 := e1.cell 2 _ rfl
  have x3 := e1.cell 3 _ rfl
  have HN3 := hn3
  obtain ⟨q, hq⟩ := Int.eq_ofNat_of_zero_le hom.2.1.1
  subst hq
  have hq6 : q < V.now.length := by have := HM.out.1; omega
  have y0 := e2.cell 0 _ rfl
  have y1 := e2.cell 1 _ rfl
  have f0 := e2.frozen 0
  have f1 := e2.frozen 1
  have z0 := e3.cell 0 _ rfl
  have z1 := e3.cell 1 _ rfl
  have z2 := e3.cell 2 _ rfl
  have g0 := e3.frozen 0
  have g1 := e3.frozen 1
  have g2 := e3.frozen 2
  have hV3 := h.below hbw3
  obtain ⟨vn', vs', hvv, hn', hs'⟩ := hV3
  cases hvv
  obtain ⟨a7, c7, rfl, hl7, hc7⟩ := hn'
  obtain ⟨a8, c8, rfl, hl8, hc8⟩ := hs'
  have v0 := e0.cell 0 _ rfl
  have v1 := e0.cell 1 _ rfl
  clear hc7 hc8
  go_wp2_with fail
  go_region
  have HW : Hid (VolNew _ _ _ _) := ((((((HN3.other (a := ⟨w.heap.size + 1 + 1, 0, none⟩) (by simp; omega) (.slice a1 V.now.length c1)).other (a := ⟨w.heap.size + 1 + 1, 1, none⟩) (by simp; omega) (.slice a2 V.snaps.length c2)).other (a := ⟨w.heap.size + 1 + 1 + 1, 0, none⟩) (by simp; omega) (.int .i64 6)).other (a := ⟨w.heap.size + 1 + 1 + 1, 1, none⟩) (by simp; omega) (.int .i64 0)).other (a := ⟨w.heap.size + 1 + 1 + 1, 2, none⟩) (by simp; omega) (.string ⟨#[]⟩)).below (below_alloc2 _ (.cells #[.slice a1 V.now.length c1, .slice a2 V.snaps.length c2] 37) (.cells #[.int .i64 6, .int .i64 0, .string ⟨#[]⟩] 62))).base (B' := w.heap.size) (by omega)
  have HB : Hid (Below _ _ _) := (((((hbw3.setCell (p := ⟨w.heap.size + 1 + 1, 0, none⟩) (by simp; omega) (.slice a1 V.now.length c1)).setCell (p := ⟨w.heap.size + 1 + 1, 1, none⟩) (by simp; omega) (.slice a2 V.snaps.length c2)).setCell (p := ⟨w.heap.size + 1 + 1 + 1, 0, none⟩) (by simp; omega) (.int .i64 6)).setCell (p := ⟨w.heap.size + 1 + 1 + 1, 1, none⟩) (by simp; omega) (.int .i64 0)).setCell (p := ⟨w.heap.size + 1 + 1 + 1, 2, none⟩) (by simp; omega) (.string ⟨#[]⟩)).trans ((below_alloc2 _ (.cells #[.slice a1 V.now.length c1, .slice a2 V.snaps.length c2] 37) (.cells #[.int .i64 6, .int .i64 0, .string ⟨#[]⟩] 62)).mono (by simp [World.setCell]; omega))
  clear HN3 hn3 hbw3 hbw2 hb3 e0 e1 e2 e3
  go_wp2_with fail
  refine bodyPost_ret (v := .tuple #[.agg #[.slice a1 V.now.length c1, .slice a2 V.snaps.length c2], .agg #[.int .i64 6, .int .i64 0, .string ⟨#[]⟩], .int .i64 0]) ?_ rfl ?_
  · clear HW HB
    simp [results, Try.results43, go_sem, *]
  · exact ⟨_, rfl, HW.out.drew, HB.out.drew⟩

set_option maxHeartbeats 2000000 in
theorem didOf_readNow (V : VolM) (o : OpM) (v : Value) (w : World) (h : VolAt w v V) (hv : volFault V = 0) (ho : opFault o = 0) (hk : o.kind = 3) (hs : o.snap = 0) :
    Calls Try.prog 43 #[v, .agg (opCells o).toArray] w fun e w' => ∃ v', e = .returned (.tuple #[v', .agg #[.int .i64 (didR V o).code, .int .i64 (didR V o).n, .string ⟨(didR V o).data.toArray⟩], .int .i64 0]) ∧ VolNew w' w.heap.size v' (didV V o) ∧ Below w.heap.size w w' := by
  have hm := volMay_len (volMay_of V hv)
  have hom := opMay_of o ho
  have hf : VolFits V := ⟨by omega, by omega, fun l hl => by have := hm.2.2 l hl; omega⟩
  have HM : Hid (V.now.length = 6 ∧ V.snaps.length ≤ 3 ∧ ∀ l ∈ V.snaps, l.length = 6) := hm
  clear hm
  obtain ⟨k, p, s, d⟩ := o
  simp only at hk hom hs
  subst hs
  subst hk
  have hdv : didV V ⟨3, p, 0, d⟩ = V := by simp [didV, *]
  have hdr : didR V ⟨3, p, 0, d⟩ = ⟨0, 0, V.now.getD p.toNat []⟩ := by simp [didR, *]
  rw [hdv, hdr]
  clear hdv hdr
  unfold opCells
  have h' := h
  obtain ⟨vn, vs, rfl, _, _⟩ := h'
  obtain ⟨b0, b1, b2, b3, hb⟩ := boxes4 w 37 23 37 62 [vn, vs] [.int .i64 3, .int .i64 p, .int .i64 0, .string ⟨d.toArray⟩] [.slice none 0 0, .slice none 0 0] [.int .i64 0, .int .i64 0, .string ⟨#[]⟩]
  go_enter Try.func43, Try.ntmps43
  go_wp2_with fail
  refine (volumeFault_any V _ _ (h.below hb)).mono ?_
  rintro e w1 ⟨rfl, hb1⟩
  rw [hv]
  have b0' := b0.below hb1 b0.lt
  have b1' := b1.below hb1 b1.lt
  have b2' := b2.below hb1 b2.lt
  have b3' := b3.below hb1 b3.lt
  have hbw := Below.seq hb hb1
  clear b0 b1 b2 b3 hb hb1
  have x0 := b1'.cell 0 _ rfl
  have x1 := b1'.cell 1 _ rfl
  have x2 := b1'.cell 2 _ rfl
  have x3 := b1'.cell 3 _ rfl
  go_wp2_with fail
  refine (opFaultR_any ⟨3, p, 0, d⟩ _ (by simp; omega)).mono ?_
  rintro e w2 ⟨rfl, hb2⟩
  rw [ho]
  have b0 := b0'.below hb2 b0'.lt
  have b1 := b1'.below hb2 b1'.lt
  have b2 := b2'.below hb2 b2'.lt
  have b3 := b3'.below hb2 b3'.lt
  have hbw2 := Below.seq hbw hb2
  clear b0' b1' b2' b3' hbw hb2 x0 x1 x2 x3
  have x0 := b0.cell 0 _ rfl
  have x1 := b0.cell 1 _ rfl
  go_wp2_with fail
  refine (volumeCopy_any V _ _ (h.below hbw2) hf).mono ?_
  rintro e w3 ⟨v3, rfl, hn3, hb3⟩
  obtain ⟨a1, c1, a2, c2, rfl⟩ := hn3.form
  have e0 := b0.below hb3 b0.lt
  have e1 := b1.below hb3 b1.lt
  have e2 := b2.below hb3 b2.lt
  have e3 := b3.below hb3 b3.lt
  have hbw3 := Below.seq hbw2 hb3
  have l5 := b3.lt
  have l0 := e0.lt
  have l1 := e1.lt
  have l2 := e2.lt
  have l3 := e3.lt
  clear b0 b1 b2 b3 x0 x1
  have x0 := e1.cell 0 _ rfl
  have x1 := e1.cell 1 _ rfl
  have x2 := e1.cell 2 _ rfl
  have x3 := e1.cell 3 _ rfl
  have HN3 := hn3
  obtain ⟨q, hq⟩ := Int.eq_ofNat_of_zero_le hom.2.1.1
  subst hq
  have hq6 : q < V.now.length := by have := HM.out.1; omega
  have y0 := e2.cell 0 _ rfl
  have y1 := e2.cell 1 _ rfl
  have f0 := e2.frozen 0
  have f1 := e2.frozen 1
  have z0 := e3.cell 0 _ rfl
  have z1 := e3.cell 1 _ rfl
  have z2 := e3.cell 2 _ rfl
  have g0 := e3.frozen 0
  have g1 := e3.frozen 1
  have g2 := e3.frozen 2
  have hV3 := h.below hbw3
  obtain ⟨vn', vs', hvv, hn', hs'⟩ := hV3
  cases hvv
  obtain ⟨a7, c7, rfl, hl7, hc7⟩ := hn'
  obtain ⟨a8, c8, rfl, hl8, hc8⟩ := hs'
  have v0 := e0.cell 0 _ rfl
  have v1 := e0.cell 1 _ rfl
  obtain ⟨b7, o7, rfl, h7, _⟩ := hc7 q hq6
  have lb7 := lt_of_cell h7
  clear hc7 hc8
  obtain ⟨t, ht⟩ : ∃ t, V.now.getD q [] = t := ⟨_, rfl⟩
  have HT : Hid (V.now.getD q [] = t) := ht
  rw [ht] at h7
  clear ht
  go_wp2_with fail
  go_region
  have HW : Hid (VolNew _ _ _ _) := ((((((HN3.other (a := ⟨w.heap.size + 1 + 1, 0, none⟩) (by simp; omega) (.slice a1 V.now.length c1)).other (a := ⟨w.heap.size + 1 + 1, 1, none⟩) (by simp; omega) (.slice a2 V.snaps.length c2)).other (a := ⟨w.heap.size + 1 + 1 + 1, 0, none⟩) (by simp; omega) (.int .i64 0)).other (a := ⟨w.heap.size + 1 + 1 + 1, 1, none⟩) (by simp; omega) (.int .i64 0)).other (a := ⟨w.heap.size + 1 + 1 + 1, 2, none⟩) (by simp; omega) (.string ⟨t.toArray⟩)).below (below_alloc2 _ (.cells #[.slice a1 V.now.length c1, .slice a2 V.snaps.length c2] 37) (.cells #[.int .i64 0, .int .i64 0, .string ⟨t.toArray⟩] 62))).base (B' := w.heap.size) (by omega)
  have HB : Hid (Below _ _ _) := (((((hbw3.setCell (p := ⟨w.heap.size + 1 + 1, 0, none⟩) (by simp; omega) (.slice a1 V.now.length c1)).setCell (p := ⟨w.heap.size + 1 + 1, 1, none⟩) (by simp; omega) (.slice a2 V.snaps.length c2)).setCell (p := ⟨w.heap.size + 1 + 1 + 1, 0, none⟩) (by simp; omega) (.int .i64 0)).setCell (p := ⟨w.heap.size + 1 + 1 + 1, 1, none⟩) (by simp; omega) (.int .i64 0)).setCell (p := ⟨w.heap.size + 1 + 1 + 1, 2, none⟩) (by simp; omega) (.string ⟨t.toArray⟩)).trans ((below_alloc2 _ (.cells #[.slice a1 V.now.length c1, .slice a2 V.snaps.length c2] 37) (.cells #[.int .i64 0, .int .i64 0, .string ⟨t.toArray⟩] 62)).mono (by simp [World.setCell]; omega))
  clear HN3 hn3 hbw3 hbw2 hb3 e0 e1 e2 e3
  go_wp2_with fail
  refine bodyPost_ret (v := .tuple #[.agg #[.slice a1 V.now.length c1, .slice a2 V.snaps.length c2], .agg #[.int .i64 0, .int .i64 0, .string ⟨t.toArray⟩], .int .i64 0]) ?_ rfl ?_
  · clear HW HB
    simp [results, Try.results43, go_sem, *]
  · rw [show V.now.getD (q : Int).toNat [] = t from HT.out]
    exact ⟨_, rfl, HW.out.drew, HB.out.drew⟩

set_option maxHeartbeats 2000000 in
theorem didOf_readSnap (V : VolM) (o : OpM) (v : Value) (w : World) (h : VolAt w v V) (hv : volFault V = 0) (ho : opFault o = 0) (hk : o.kind = 3) (hs : 0 < o.snap) (hs2 : o.snap ≤ V.snaps.length) :
    Calls Try.prog 43 #[v, .agg (opCells o).toArray] w fun e w' => ∃ v', e = .returned (.tuple #[v', .agg #[.int .i64 (didR V o).code, .int .i64 (didR V o).n, .string ⟨(didR V o).data.toArray⟩], .int .i64 0]) ∧ VolNew w' w.heap.size v' (didV V o) ∧ Below w.heap.size w w' := by
  have hm := volMay_len (volMay_of V hv)
  have hom := opMay_of o ho
  have hf : VolFits V := ⟨by omega, by omega, fun l hl => by have := hm.2.2 l hl; omega⟩
  have HM : Hid (V.now.length = 6 ∧ V.snaps.length ≤ 3 ∧ ∀ l ∈ V.snaps, l.length = 6) := hm
  clear hm
  obtain ⟨k, p, s, d⟩ := o
  simp only at hk hom hs hs2
  have hs3 : ¬ (V.snaps.length : Int) < s := by omega
  subst hk
  have hdv : didV V ⟨3, p, s, d⟩ = V := by simp [didV, *]
  have hdr : didR V ⟨3, p, s, d⟩ = ⟨0, 0, (V.snaps.getD (s - 1).toNat []).getD p.toNat []⟩ := by simp [didR, *]
  rw [hdv, hdr]
  clear hdv hdr
  unfold opCells
  have h' := h
  obtain ⟨vn, vs, rfl, _, _⟩ := h'
  obtain ⟨b0, b1, b2, b3, hb⟩ := boxes4 w 37 23 37 62 [vn, vs] [.int .i64 3, .int .i64 p, .int .i64 s, .string ⟨d.toArray⟩] [.slice none 0 0, .slice none 0 0] [.int .i64 0, .int .i64 0, .string ⟨#[]⟩]
  go_enter Try.func43, Try.ntmps43
  go_wp2_with fail
  refine (volumeFault_any V _ _ (h.below hb)).mono ?_
  rintro e w1 ⟨rfl, hb1⟩
  rw [hv]
  have b0' := b0.below hb1 b0.lt
  have b1' := b1.below hb1 b1.lt
  have b2' := b2.below hb1 b2.lt
  have b3' := b3.below hb1 b3.lt
  have hbw := Below.seq hb hb1
  clear b0 b1 b2 b3 hb hb1
  have x0 := b1'.cell 0 _ rfl
  have x1 := b1'.cell 1 _ rfl
  have x2 := b1'.cell 2 _ rfl
  have x3 := b1'.cell 3 _ rfl
  go_wp2_with fail
  refine (opFaultR_any ⟨3, p, s, d⟩ _ (by simp; omega)).mono ?_
  rintro e w2 ⟨rfl, hb2⟩
  rw [ho]
  have b0 := b0'.below hb2 b0'.lt
  have b1 := b1'.below hb2 b1'.lt
  have b2 := b2'.below hb2 b2'.lt
  have b3 := b3'.below hb2 b3'.lt
  have hbw2 := Below.seq hbw hb2
  clear b0' b1' b2' b3' hbw hb2 x0 x1 x2 x3
  have x0 := b0.cell 0 _ rfl
  have x1 := b0.cell 1 _ rfl
  go_wp2_with fail
  refine (volumeCopy_any V _ _ (h.below hbw2) hf).mono ?_
  rintro e w3 ⟨v3, rfl, hn3, hb3⟩
  obtain ⟨a1, c1, a2, c2, rfl⟩ := hn3.form
  have e0 := b0.below hb3 b0.lt
  have e1 := b1.below hb3 b1.lt
  have e2 := b2.below hb3 b2.lt
  have e3 := b3.below hb3 b3.lt
  have hbw3 := Below.seq hbw2 hb3
  have l5 := b3.lt
  have l0 := e0.lt
  have l1 := e1.lt
  have l2 := e2.lt
  have l3 := e3.lt
  clear b0 b1 b2 b3 x0 x1
  have x0 := e1.cell 0 _ rfl
  have x1 := e1.cell 1 _ rfl
  have x2 := e1.cell 2 _ rfl
  have x3 := e1.cell 3 _ rfl
  have HN3 := hn3
  obtain ⟨q, hq⟩ := Int.eq_ofNat_of_zero_le hom.2.1.1
  subst hq
  have hq6 : q < V.now.length := by have := HM.out.1; omega
  have y0 := e2.cell 0 _ rfl
  have y1 := e2.cell 1 _ rfl
  have f0 := e2.frozen 0
  have f1 := e2.frozen 1
  have z0 := e3.cell 0 _ rfl
  have z1 := e3.cell 1 _ rfl
  have z2 := e3.cell 2 _ rfl
  have g0 := e3.frozen 0
  have g1 := e3.frozen 1
  have g2 := e3.frozen 2
  have hV3 := h.below hbw3
  obtain ⟨vn', vs', hvv, hn', hs'⟩ := hV3
  cases hvv
  obtain ⟨a7, c7, rfl, hl7, hc7⟩ := hn'
  obtain ⟨a8, c8, rfl, hl8, hc8⟩ := hs'
  have v0 := e0.cell 0 _ rfl
  have v1 := e0.cell 1 _ rfl
  obtain ⟨i, hi⟩ := Int.eq_ofNat_of_zero_le (show 0 ≤ s - 1 by omega)
  have hi3 : i < V.snaps.length := by omega
  obtain ⟨sk, HSK⟩ : ∃ sk, Hid (V.snaps.getD i [] = sk) := ⟨_, rfl⟩
  have hmem : sk ∈ V.snaps := by
    rw [← HSK.out, show V.snaps.getD i [] = V.snaps[i] by simp [List.getD, hi3]]; exact List.getElem_mem hi3
  have hq7 : q < sk.length := by have := HM.out.2.2 _ hmem; omega
  obtain ⟨b8, o8, u8, rfl, h8, hu8⟩ := hc8 i hi3
  rw [HSK.out] at hu8
  obtain ⟨a9, c9, rfl, hl9, hc9⟩ := hu8
  obtain ⟨b9, o9, rfl, h9, _⟩ := hc9 q hq7
  have lb8 := lt_of_cell h8
  have lb9 := lt_of_cell h9
  obtain ⟨t, HT⟩ : ∃ t, Hid (sk.getD q [] = t) := ⟨_, rfl⟩
  rw [HT.out] at h9
  have HS : Hid ((V.snaps.getD (s - 1).toNat []).getD (q : Int).toNat [] = t) := by
    unfold Hid
    rw [hi, Int.toNat_natCast, Int.toNat_natCast, HSK.out, HT.out]
  have hs4 : s = (i : Int) + 1 := by omega
  subst hs4
  clear hc7 hc8 hc9 hmem hi
  have i0 : (0 : Int) ≤ (i : Int) := by omega
  have i1 : (i : Int) < (V.snaps.length : Int) := by omega
  have q0 : (0 : Int) ≤ (q : Int) := by omega
  have q1 : (q : Int) < (sk.length : Int) := by omega
  have si : ((i : Int) + 1 - 1) = (i : Int) := by omega
  go_wp2_with fail
  go_region
  go_wp2_with fail
  go_region
  have HW : Hid (VolNew _ _ _ _) := ((((((HN3.other (a := ⟨w.heap.size + 1 + 1, 0, none⟩) (by simp; omega) (.slice a1 V.now.length c1)).other (a := ⟨w.heap.size + 1 + 1, 1, none⟩) (by simp; omega) (.slice a2 V.snaps.length c2)).other (a := ⟨w.heap.size + 1 + 1 + 1, 0, none⟩) (by simp; omega) (.int .i64 0)).other (a := ⟨w.heap.size + 1 + 1 + 1, 1, none⟩) (by simp; omega) (.int .i64 0)).other (a := ⟨w.heap.size + 1 + 1 + 1, 2, none⟩) (by simp; omega) (.string ⟨t.toArray⟩)).below (below_alloc2 _ (.cells #[.slice a1 V.now.length c1, .slice a2 V.snaps.length c2] 37) (.cells #[.int .i64 0, .int .i64 0, .string ⟨t.toArray⟩] 62))).base (B' := w.heap.size) (by omega)
  have HB : Hid (Below _ _ _) := (((((hbw3.setCell (p := ⟨w.heap.size + 1 + 1, 0, none⟩) (by simp; omega) (.slice a1 V.now.length c1)).setCell (p := ⟨w.heap.size + 1 + 1, 1, none⟩) (by simp; omega) (.slice a2 V.snaps.length c2)).setCell (p := ⟨w.heap.size + 1 + 1 + 1, 0, none⟩) (by simp; omega) (.int .i64 0)).setCell (p := ⟨w.heap.size + 1 + 1 + 1, 1, none⟩) (by simp; omega) (.int .i64 0)).setCell (p := ⟨w.heap.size + 1 + 1 + 1, 2, none⟩) (by simp; omega) (.string ⟨t.toArray⟩)).trans ((below_alloc2 _ (.cells #[.slice a1 V.now.length c1, .slice a2 V.snaps.length c2] 37) (.cells #[.int .i64 0, .int .i64 0, .string ⟨t.toArray⟩] 62)).mono (by simp [World.setCell]; omega))
  clear HN3 hn3 hbw3 hbw2 hb3 e0 e1 e2 e3
  go_wp2_with fail
  refine bodyPost_ret (v := .tuple #[.agg #[.slice a1 V.now.length c1, .slice a2 V.snaps.length c2], .agg #[.int .i64 0, .int .i64 0, .string ⟨t.toArray⟩], .int .i64 0]) ?_ rfl ?_
  · clear HW HB
    simp [results, Try.results43, go_sem, *]
  · rw [HS.out]
    exact ⟨_, rfl, HW.out.drew.drew, HB.out.drew.drew⟩

set_option maxHeartbeats 2000000 in
theorem didOf_snapFull (V : VolM) (o : OpM) (v : Value) (w : World) (h : VolAt w v V) (hv : volFault V = 0) (ho : opFault o = 0) (hk : o.kind = 4) (hs : ¬ V.snaps.length < 3) :
    Calls Try.prog 43 #[v, .agg (opCells o).toArray] w fun e w' => ∃ v', e = .returned (.tuple #[v', .agg #[.int .i64 (didR V o).code, .int .i64 (didR V o).n, .string ⟨(didR V o).data.toArray⟩], .int .i64 0]) ∧ VolNew w' w.heap.size v' (didV V o) ∧ Below w.heap.size w w' := by
  have hm := volMay_len (volMay_of V hv)
  have hom := opMay_of o ho
  have hf : VolFits V := ⟨by omega, by omega, fun l hl => by have := hm.2.2 l hl; omega⟩
  have HM : Hid (V.now.length = 6 ∧ V.snaps.length ≤ 3 ∧ ∀ l ∈ V.snaps, l.length = 6) := hm
  clear hm
  obtain ⟨k, p, s, d⟩ := o
  simp only at hk hom
  subst hk
  have hdv : didV V ⟨4, p, s, d⟩ = V := by simp [didV, *]
  have hdr : didR V ⟨4, p, s, d⟩ = ⟨7, 0, []⟩ := by simp [didR, *]
  rw [hdv, hdr]
  clear hdv hdr
  unfold opCells
  have h' := h
  obtain ⟨vn, vs, rfl, _, _⟩ := h'
  obtain ⟨b0, b1, b2, b3, hb⟩ := boxes4 w 37 23 37 62 [vn, vs] [.int .i64 4, .int .i64 p, .int .i64 s, .string ⟨d.toArray⟩] [.slice none 0 0, .slice none 0 0] [.int .i64 0, .int .i64 0, .string ⟨#[]⟩]
  go_enter Try.func43, Try.ntmps43
  go_wp2_with fail
  refine (volumeFault_any V _ _ (h.below hb)).mono ?_
  rintro e w1 ⟨rfl, hb1⟩
  rw [hv]
  have b0' := b0.below hb1 b0.lt
  have b1' := b1.below hb1 b1.lt
  have b2' := b2.below hb1 b2.lt
  have b3' := b3.below hb1 b3.lt
  have hbw := Below.seq hb hb1
  clear b0 b1 b2 b3 hb hb1
  have x0 := b1'.cell 0 _ rfl
  have x1 := b1'.cell 1 _ rfl
  have x2 := b1'.cell 2 _ rfl
  have x3 := b1'.cell 3 _ rfl
  go_wp2_with fail
  refine (opFaultR_any ⟨4, p, s, d⟩ _ (by simp; omega)).mono ?_
  rintro e w2 ⟨rfl, hb2⟩
  rw [ho]
  have b0 := b0'.below hb2 b0'.lt
  have b1 := b1'.below hb2 b1'.lt
  have b2 := b2'.below hb2 b2'.lt
  have b3 := b3'.below hb2 b3'.lt
  have hbw2 := Below.seq hbw hb2
  clear b0' b1' b2' b3' hbw hb2 x0 x1 x2 x3
  have x0 := b0.cell 0 _ rfl
  have x1 := b0.cell 1 _ rfl
  go_wp2_with fail
  refine (volumeCopy_any V _ _ (h.below hbw2) hf).mono ?_
  rintro e w3 ⟨v3, rfl, hn3, hb3⟩
  obtain ⟨a1, c1, a2, c2, rfl⟩ := hn3.form
  have e0 := b0.below hb3 b0.lt
  have e1 := b1.below hb3 b1.lt
  have e2 := b2.below hb3 b2.lt
  have e3 := b3.below hb3 b3.lt
  have hbw3 := Below.seq hbw2 hb3
  have l5 := b3.lt
  have l0 := e0.lt
  have l1 := e1.lt
  have l2 := e2.lt
  have l3 := e3.lt
  clear b0 b1 b2 b3 x0 x1
  have x0 := e1.cell 0 _ rfl
  have x1 := e1.cell 1 _ rfl
  have x2 := e1.cell 2 _ rfl
  have x3 := e1.cell 3 _ rfl
  have HN3 := hn3
  obtain ⟨q, hq⟩ := Int.eq_ofNat_of_zero_le hom.2.1.1
  subst hq
  have hq6 : q < V.now.length := by have := HM.out.1; omega
  have y0 := e2.cell 0 _ rfl
  have y1 := e2.cell 1 _ rfl
  have f0 := e2.frozen 0
  have f1 := e2.frozen 1
  have z0 := e3.cell 0 _ rfl
  have z1 := e3.cell 1 _ rfl
  have z2 := e3.cell 2 _ rfl
  have g0 := e3.frozen 0
  have g1 := e3.frozen 1
  have g2 := e3.frozen 2
  have hV3 := h.below hbw3
  obtain ⟨vn', vs', hvv, hn', hs'⟩ := hV3
  cases hvv
  obtain ⟨a7, c7, rfl, hl7, hc7⟩ := hn'
  obtain ⟨a8, c8, rfl, hl8, hc8⟩ := hs'
  have v0 := e0.cell 0 _ rfl
  have v1 := e0.cell 1 _ rfl
  clear hc7 hc8
  have hs5 : (3 : Int) ≤ (V.snaps.length : Int) := by omega
  go_wp2_with fail
  go_region
  have HW : Hid (VolNew _ _ _ _) := ((((((HN3.other (a := ⟨w.heap.size + 1 + 1, 0, none⟩) (by simp; omega) (.slice a1 V.now.length c1)).other (a := ⟨w.heap.size + 1 + 1, 1, none⟩) (by simp; omega) (.slice a2 V.snaps.length c2)).other (a := ⟨w.heap.size + 1 + 1 + 1, 0, none⟩) (by simp; omega) (.int .i64 7)).other (a := ⟨w.heap.size + 1 + 1 + 1, 1, none⟩) (by simp; omega) (.int .i64 0)).other (a := ⟨w.heap.size + 1 + 1 + 1, 2, none⟩) (by simp; omega) (.string ⟨#[]⟩)).below (below_alloc2 _ (.cells #[.slice a1 V.now.length c1, .slice a2 V.snaps.length c2] 37) (.cells #[.int .i64 7, .int .i64 0, .string ⟨#[]⟩] 62))).base (B' := w.heap.size) (by omega)
  have HB : Hid (Below _ _ _) := (((((hbw3.setCell (p := ⟨w.heap.size + 1 + 1, 0, none⟩) (by simp; omega) (.slice a1 V.now.length c1)).setCell (p := ⟨w.heap.size + 1 + 1, 1, none⟩) (by simp; omega) (.slice a2 V.snaps.length c2)).setCell (p := ⟨w.heap.size + 1 + 1 + 1, 0, none⟩) (by simp; omega) (.int .i64 7)).setCell (p := ⟨w.heap.size + 1 + 1 + 1, 1, none⟩) (by simp; omega) (.int .i64 0)).setCell (p := ⟨w.heap.size + 1 + 1 + 1, 2, none⟩) (by simp; omega) (.string ⟨#[]⟩)).trans ((below_alloc2 _ (.cells #[.slice a1 V.now.length c1, .slice a2 V.snaps.length c2] 37) (.cells #[.int .i64 7, .int .i64 0, .string ⟨#[]⟩] 62)).mono (by simp [World.setCell]; omega))
  clear HN3 hn3 hbw3 hbw2 hb3 e0 e1 e2 e3
  go_wp2_with fail
  refine bodyPost_ret (v := .tuple #[.agg #[.slice a1 V.now.length c1, .slice a2 V.snaps.length c2], .agg #[.int .i64 7, .int .i64 0, .string ⟨#[]⟩], .int .i64 0]) ?_ rfl ?_
  · clear HW HB
    simp [results, Try.results43, go_sem, *]
  · exact ⟨_, rfl, HW.out.drew, HB.out.drew⟩

end Go.Proofs.Ytpbiojnmegemdac
