/- The program's own: hearHas. -/
import Derived.Test.YtmdgkjbiicaljagDoorHearLd
namespace Go.Proofs.YtmdgkjbiicaljagDoor
open Go.RowKit
set_option linter.unusedVariables false
set_option linter.unusedSimpArgs false

theorem below_drewN_refl {w : World} {B : Nat} (h : B ≤ w.heap.size) : Below B w w := (Below.refl _ _).mono h
theorem ReplOwn.havs {w : World} {B g cap : Nat} {R : ReplM} {vl vw vg vn : Value} {ps : List (KeptM × Value)} (h : ReplOwn w B R vl (.slice (some ⟨g, 0, none⟩) R.hav.length cap) vw vg vn ps) (i : Nat) (x : Int) :
    ReplOwn (w.setCell ⟨g, i, none⟩ (.int .i64 x)) B ⟨R.me, R.kept, R.hav.set i x, R.wants, R.gives, R.given⟩ vl (.slice (some ⟨g, 0, none⟩) R.hav.length cap) vw vg vn ps := by
  obtain ⟨h0, h1, h2, h3, h4, h5, h6, h7⟩ := h
  have ot : ∀ (e : TypeId) (s : Nat) (v : Value) (n : Nat) (xs : List Value), 3 ≠ e → w.ownsRow B e s v n xs → (w.setCell ⟨g, i, none⟩ (.int .i64 x)).ownsRow B e s v n xs := fun e s v n xs he r => own_other (a := ⟨g, i, none⟩) r (own_types r h2 (Ne.symm he) rfl) _
  have h2' := own_set h2 i (.int .i64 x)
  refine ⟨h0, ot _ _ _ _ _ (by decide) h1, ?_, ot _ _ _ _ _ (by decide) h3, ⟨ot _ _ _ _ _ (by decide) h4.1, fun p hp => ot _ _ _ _ _ (by decide) (h4.2 p hp)⟩, ot _ _ _ _ _ (by decide) h5, h6, h7⟩
  show World.ownsRow _ _ _ _ _ (R.hav.set i x).length ((R.hav.set i x).map encI)
  rw [List.length_set, List.map_set]
  exact h2'

set_option maxRecDepth 4000 in
set_option maxHeartbeats 8000000 in
theorem hearHas_any (b B : Nat) (R : ReplM) (L : List MsgM) (M : MsgM) (u : Value) (w : World) (h : TurnAt w b B R L) (hm : MsgAt w u M) (hf : ReplFits R) (hl3 : R.hav.length = 3) (hf0 : 0 ≤ M.frm) (hf1 : M.frm ≤ 2) (hn : L.length ≤ 900) (hB : B ≤ w.heap.size) :
    Calls Tryd.prog 29 #[.pointer (some ⟨b, 0, none⟩), u] w fun e w' => e = .returned (.tuple #[]) ∧ TurnAt w' b B (hasR R M) (L ++ hasL R M) ∧ Beside B b w w' := by
  obtain ⟨RR, hRR⟩ : ∃ RR, RR = hasR R M := ⟨_, rfl⟩
  obtain ⟨LL, hLL⟩ : ∃ LL, LL = hasL R M := ⟨_, rfl⟩
  rw [← hRR, ← hLL]
  have HRR : Hid (RR = hasR R M ∧ LL = hasL R M) := ⟨hRR, hLL⟩
  clear hRR hLL
  obtain ⟨mi, hmi⟩ : ∃ mi : Nat, M.frm = (mi : Int) := ⟨M.frm.toNat, by omega⟩
  have hml : mi < R.hav.length := by omega
  have k0 : (0 : Int) ≤ (mi : Int) := by omega
  have k1 : (mi : Int) < (R.hav.length : Int) := by omega
  obtain ⟨N, hN⟩ : ∃ N, N = min M.n (R.kept.log.length : Int) := ⟨_, rfl⟩
  obtain ⟨H, hH⟩ : ∃ H, H = R.hav.getD mi 0 := ⟨_, rfl⟩
  have HN : Hid (N = min M.n (R.kept.log.length : Int)) := hN
  have HH : Hid (H = R.hav.getD mi 0) := hH
  have HM2I : Hid (M.frm = (mi : Int)) := hmi
  have HMI : Hid (M.frm.toNat = mi) := (show M.frm.toNat = mi by omega)
  clear hN hH hl3
  obtain ⟨vm, rfl, hs⟩ := hm
  obtain ⟨am, cm, rfl, _, _⟩ := hs
  have bm := Box.new w 43 [.int .i64 M.kind, .int .i64 M.frm, .int .i64 M.dst, .int .i64 M.view, .int .i64 M.normal, .int .i64 M.commit, .int .i64 M.n, .slice am M.log.length cm]
  obtain ⟨w0, hw0⟩ : ∃ w0, w0 = w.alloc (.cells #[.int .i64 M.kind, .int .i64 M.frm, .int .i64 M.dst, .int .i64 M.view, .int .i64 M.normal, .int .i64 M.commit, .int .i64 M.n, .slice am M.log.length cm] 43) := ⟨_, rfl⟩
  have hb0 : Below w.heap.size w w0 := by rw [hw0]; exact below_alloc _ _
  have hs0 : w0.heap.size = w.heap.size + 1 := by rw [hw0]; simp
  have h0 := turn_below h hb0
  simp only [msgCells]
  rw [← hw0] at bm
  have HB0 : Hid (Below w.heap.size w w0) := hb0
  have HS0 : Hid (w0.heap.size = w.heap.size + 1) := hs0
  have HT : Hid (TurnAt w0 b B R L) := h0
  obtain ⟨vl, vh, vw, vg, vn, vs, ps, hx, ho, hmn⟩ := h0
  obtain ⟨al, cl, ah, ch, aw, cw, ag, cg, an, cn, rfl, rfl, rfl, rfl, rfl⟩ := ho.forms
  obtain ⟨g, ch', hvh, hgB, _, _, _⟩ := own_cell ho.2.2.1 mi (by omega)
  simp only [Value.slice.injEq, true_and] at hvh
  obtain ⟨rfl, rfl⟩ := hvh
  have HA : Hid (ReplAt w0 _ R) := ho.at hf
  simp only [replCells] at HA
  have HLD : Hid (∀ W, Below w0.heap.size w0 W → Calls _ _ _ W _) := fun W hW => leads_any R _ W (HA.out.below hW)
  have HX : Hid (Box w0 b _ _) := hx
  have HBM : Hid (Box w0 w.heap.size _ _) := bm
  have HO : Hid (ReplOwn w0 B R _ _ _ _ _ _) := ho
  have HFZ : Hid (R.kept.log.length * 16 ≤ 140737488355328) := hf.log.1
  have x0 := hx.cell 0 _ rfl
  have x1 := hx.cell 1 _ rfl
  have x2 := hx.cell 2 _ rfl
  have x3 := hx.cell 3 _ rfl
  have x4 := hx.cell 4 _ rfl
  have x5 := hx.cell 5 _ rfl
  have x6 := hx.cell 6 _ rfl
  have x7 := hx.cell 7 _ rfl
  have x8 := hx.cell 8 _ rfl
  have x9 := hx.cell 9 _ rfl
  have x10 := hx.cell 10 _ rfl
  have y0 := bm.cell 0 _ rfl
  have y1 := bm.cell 1 _ rfl
  have y2 := bm.cell 2 _ rfl
  have y3 := bm.cell 3 _ rfl
  have y4 := bm.cell 4 _ rfl
  have y5 := bm.cell 5 _ rfl
  have y6 := bm.cell 6 _ rfl
  have y7 := bm.cell 7 _ rfl
  rw [hmi] at y1
  clear hx ho hmn bm h hb0 hs0 HA hf hmi
  by_cases hl : leads R = true
  · by_cases hv : M.view = R.kept.view
    · have qv : (M.view != R.kept.view) = false := by simpa using hv
      have e1 : RR = ⟨R.me, ⟨R.kept.view, R.kept.normal, R.kept.calm, R.kept.log, max R.kept.commit N⟩, R.hav.set mi (max H N), R.wants, R.gives, R.given⟩ ∧ LL = if R.kept.commit < N then ledBy RR else [] := by
        rw [HRR.out.2, HRR.out.1, HN.out, HH.out]
        unfold hasL hasR
        rw [if_pos ⟨hv, hl⟩, if_pos ⟨hv, hl⟩, HMI.out]
        exact ⟨rfl, rfl⟩
      have HR : Hid (RR = _ ∧ LL = _) := e1
      clear e1 HRR hv
      by_cases hc : R.kept.commit < N
      · go_enter Tryd.func29, Tryd.ntmps29
        go_upto_region 1 with fail
        rw [← hw0]
        clear hw0
        refine wp_region_three [0, 0, 0, 0, 1, 2, 2, 2, 2, 2, 2, 2, 2, 2, 2, 2, 2] (by kernel_rfl) (by kernel_rfl) ?_
        simp only [sel, ↓reduceIte, Nat.reduceEqDiff]
        repeat (go_big_quiet_step (fail))
        refine wpQuiet_nil ?_
        intro w9 hw9
        obtain ⟨n1, rfl⟩ := hw9
        go_wp2_with fail
        refine (HLD.out (w0.drewN n1) (below_drewN n1 (Below.refl w0.heap.size w0))).mono ?_
        rintro e w2 ⟨rfl, hb2⟩
        have hbw : Below w0.heap.size w0 w2 := ⟨hb2.os, hb2.tape, hb2.output, hb2.size, hb2.block⟩
        have HB2 : Hid (Below w0.heap.size w0 w2) := hbw
        have bx := HX.out.below hbw HX.out.lt
        have by' := HBM.out.below hbw HBM.out.lt
        have HT2 : Hid (TurnAt w2 b B R L) := turn_below HT.out hbw
        have HX2 : Hid (Box w2 b _ _) := bx
        have HM2 : Hid (Box w2 w.heap.size _ _) := by'
        have HO2 : Hid (ReplOwn w2 B R _ _ _ _ _ _) := HO.out.below hbw
        have HBS : Hid (Beside B b w w2) := (Beside.of (HB0.out.mono hB)).trans (Beside.of (hbw.mono (by have := HS0.out; omega)))
        have HBZ : Hid (B ≤ w2.heap.size) := Nat.le_trans hB (Nat.le_trans (by have := HS0.out; omega) hbw.size)
        clear hb2 hbw x0 x1 x2 x3 x4 x5 x6 x7 x8 x9 x10 y0 y1 y2 y3 y4 y5 y6 y7 HLD
        have x0 := bx.cell 0 _ rfl
        have x1 := bx.cell 1 _ rfl
        have x2 := bx.cell 2 _ rfl
        have x3 := bx.cell 3 _ rfl
        have x4 := bx.cell 4 _ rfl
        have x5 := bx.cell 5 _ rfl
        have x6 := bx.cell 6 _ rfl
        have x7 := bx.cell 7 _ rfl
        have x8 := bx.cell 8 _ rfl
        have x9 := bx.cell 9 _ rfl
        have x10 := bx.cell 10 _ rfl
        have y0 := by'.cell 0 _ rfl
        have y1 := by'.cell 1 _ rfl
        have y2 := by'.cell 2 _ rfl
        have y3 := by'.cell 3 _ rfl
        have y4 := by'.cell 4 _ rfl
        have y5 := by'.cell 5 _ rfl
        have y6 := by'.cell 6 _ rfl
        have y7 := by'.cell 7 _ rfl
        rw [HM2I.out] at y1
        clear bx by'
        rw [hl]
        go_wp2_with fail
        refine onNormal_intro ?_
        unfold wpRest
        simp only [sel, ↓reduceIte, Nat.reduceEqDiff]
        repeat (go_big_quiet_step (fail))
        refine wpQuiet_nil ?_
        intro w9 hw9
        obtain ⟨n2, rfl⟩ := hw9
        go_upto_region 2 with fail
        go_quiet (fail)
        rw [show (if (R.kept.log.length : Int) < M.n then (R.kept.log.length : Int) else M.n) = N from by rw [HN.out]; exact lead_min _ _]
        obtain ⟨g', ch2, hvh, _, _, hcell, hfz⟩ := own_cell HO2.out.2.2.1 mi (by omega)
        simp only [Value.slice.injEq, true_and, Option.some.injEq, Addr.mk.injEq, and_true] at hvh
        obtain ⟨rfl, rfl⟩ := hvh
        rw [show (R.hav.map encI)[mi]? = some (.int .i64 H) from by rw [HH.out]; simp [encI, List.getD, hml]] at hcell
        have hnb : g ≠ b := fun e => own_type HO2.out.2.2.1 HX2.out (by decide) (congrArg some e)
        go_upto_region 3 with fail
        refine wp_region_two [0, 0, 0, 0, 0, 0, 0, 0, 0, 0, 0, 0, 0, 0, 0, 0, 0, 0, 0, 1] (by kernel_rfl) (by kernel_rfl) ?_
        simp only [sel, ↓reduceIte, Nat.reduceEqDiff]
        repeat (go_big_quiet_step (fail))
        refine wpQuiet_nil ?_
        intro w9 hw9
        obtain ⟨n3, rfl⟩ := hw9
        rw [show (if H < N then N else H) = max H N from lead_max _ _]
        go_upto_region 4 with fail
        have HT3 : Hid (TurnAt ((w2.drewN (n2 + nq + n3)).setCell ⟨g, mi, none⟩ (.int .i64 (max H N))) b B ⟨R.me, R.kept, R.hav.set mi (max H N), R.wants, R.gives, R.given⟩ L ∧ Beside B b w ((w2.drewN (n2 + nq + n3)).setCell ⟨g, mi, none⟩ (.int .i64 (max H N)))) := by
          have hb3 : Below w2.heap.size w2 (w2.drewN (n2 + nq + n3)) := below_drewN _ (Below.refl _ _)
          obtain ⟨vl', vh', vw', vg', vn', vs', ps', hx', ho', hm'⟩ := turn_below HT2.out hb3
          have e := (HX2.out.below hb3 HX2.out.lt).uniq hx'
          simp only [List.cons.injEq, and_true, true_and] at e
          obtain ⟨_, rfl, _, _, _, _⟩ := e
          exact ⟨⟨_, _, _, _, _, _, _, hx'.row ho'.2.2.1 rfl (by decide) _, ho'.havs mi (max H N), hm'.row ho'.2.2.1 rfl (by decide) (by decide) _⟩, (HBS.out.trans (Beside.of (hb3.mono HBZ.out))).setCell (a := ⟨g, mi, none⟩) (Or.inr hgB) _⟩
        clear x0 x1 x2 x3 x4 x5 x6 x7 x8 x9 x10 y0 y1 y2 y3 y4 y5 y6 y7 hcell hfz
        have hT := HT3.out.1
        generalize hw3 : World.setCell (w2.drewN (n2 + nq + n3)) _ _ = w3 at HT3 hT ⊢
        clear hw3
        obtain ⟨vl3, vh3, vw3, vg3, vn3, vs3, ps3, hx3, ho3, hm3⟩ := hT
        have z5 := hx3.cell 5 _ rfl
        have g5 := hx3.frozen 5
        clear hx3 ho3 hm3
        go_upto_region 5 with fail
        have HT5 : Hid (TurnAt ((w3.drewN 0).setCell ⟨b, 5, none⟩ (.int .i64 N)) b B RR L ∧ Beside B b w3 ((w3.drewN 0).setCell ⟨b, 5, none⟩ (.int .i64 N))) := by
          have k := turn_commit HT3.out.1 N 0
          have e : max R.kept.commit N = N := by omega
          rw [HR.out.1, e]
          exact k
        have HL5 : Hid (LL = ledBy RR) := by unfold Hid; rw [HR.out.2, if_pos hc]
        have HZ5 : Hid (RR.kept.log.length * 16 ≤ 140737488355328) := by unfold Hid; rw [HR.out.1]; exact HFZ.out
        simp only [World.drewN_zero] at HT5
        have HBZ5 : Hid (B ≤ (w3.setCell ⟨b, 5, none⟩ (.int .i64 N)).heap.size) := (HT3.out.2.trans HT5.out.2).up hB
        go_wp2_with fail
        clear z5 g5
        refine (leadOn_any b B RR L _ HT5.out.1 HZ5.out hn HBZ5.out).mono ?_
        rintro e w7 ⟨rfl, ht7, hb7⟩
        have HE : Hid (TurnAt w7 b B RR (L ++ LL) ∧ Beside B b w w7) := by
          refine ⟨?_, (HT3.out.2.trans HT5.out.2).trans hb7⟩
          rw [HL5.out]
          exact ht7
        clear ht7 hb7 HT5 HT3
        go_wp2_with fail
        go_end0
        exact ⟨rfl, HE.out⟩
      · go_enter Tryd.func29, Tryd.ntmps29
        go_upto_region 1 with fail
        rw [← hw0]
        clear hw0
        refine wp_region_three [0, 0, 0, 0, 1, 2, 2, 2, 2, 2, 2, 2, 2, 2, 2, 2, 2] (by kernel_rfl) (by kernel_rfl) ?_
        simp only [sel, ↓reduceIte, Nat.reduceEqDiff]
        repeat (go_big_quiet_step (fail))
        refine wpQuiet_nil ?_
        intro w9 hw9
        obtain ⟨n1, rfl⟩ := hw9
        go_wp2_with fail
        refine (HLD.out (w0.drewN n1) (below_drewN n1 (Below.refl w0.heap.size w0))).mono ?_
        rintro e w2 ⟨rfl, hb2⟩
        have hbw : Below w0.heap.size w0 w2 := ⟨hb2.os, hb2.tape, hb2.output, hb2.size, hb2.block⟩
        have HB2 : Hid (Below w0.heap.size w0 w2) := hbw
        have bx := HX.out.below hbw HX.out.lt
        have by' := HBM.out.below hbw HBM.out.lt
        have HT2 : Hid (TurnAt w2 b B R L) := turn_below HT.out hbw
        have HX2 : Hid (Box w2 b _ _) := bx
        have HM2 : Hid (Box w2 w.heap.size _ _) := by'
        have HO2 : Hid (ReplOwn w2 B R _ _ _ _ _ _) := HO.out.below hbw
        have HBS : Hid (Beside B b w w2) := (Beside.of (HB0.out.mono hB)).trans (Beside.of (hbw.mono (by have := HS0.out; omega)))
        have HBZ : Hid (B ≤ w2.heap.size) := Nat.le_trans hB (Nat.le_trans (by have := HS0.out; omega) hbw.size)
        clear hb2 hbw x0 x1 x2 x3 x4 x5 x6 x7 x8 x9 x10 y0 y1 y2 y3 y4 y5 y6 y7 HLD
        have x0 := bx.cell 0 _ rfl
        have x1 := bx.cell 1 _ rfl
        have x2 := bx.cell 2 _ rfl
        have x3 := bx.cell 3 _ rfl
        have x4 := bx.cell 4 _ rfl
        have x5 := bx.cell 5 _ rfl
        have x6 := bx.cell 6 _ rfl
        have x7 := bx.cell 7 _ rfl
        have x8 := bx.cell 8 _ rfl
        have x9 := bx.cell 9 _ rfl
        have x10 := bx.cell 10 _ rfl
        have y0 := by'.cell 0 _ rfl
        have y1 := by'.cell 1 _ rfl
        have y2 := by'.cell 2 _ rfl
        have y3 := by'.cell 3 _ rfl
        have y4 := by'.cell 4 _ rfl
        have y5 := by'.cell 5 _ rfl
        have y6 := by'.cell 6 _ rfl
        have y7 := by'.cell 7 _ rfl
        rw [HM2I.out] at y1
        clear bx by'
        rw [hl]
        go_wp2_with fail
        refine onNormal_intro ?_
        unfold wpRest
        simp only [sel, ↓reduceIte, Nat.reduceEqDiff]
        repeat (go_big_quiet_step (fail))
        refine wpQuiet_nil ?_
        intro w9 hw9
        obtain ⟨n2, rfl⟩ := hw9
        go_upto_region 2 with fail
        go_quiet (fail)
        rw [show (if (R.kept.log.length : Int) < M.n then (R.kept.log.length : Int) else M.n) = N from by rw [HN.out]; exact lead_min _ _]
        obtain ⟨g', ch2, hvh, _, _, hcell, hfz⟩ := own_cell HO2.out.2.2.1 mi (by omega)
        simp only [Value.slice.injEq, true_and, Option.some.injEq, Addr.mk.injEq, and_true] at hvh
        obtain ⟨rfl, rfl⟩ := hvh
        rw [show (R.hav.map encI)[mi]? = some (.int .i64 H) from by rw [HH.out]; simp [encI, List.getD, hml]] at hcell
        have hnb : g ≠ b := fun e => own_type HO2.out.2.2.1 HX2.out (by decide) (congrArg some e)
        go_upto_region 3 with fail
        refine wp_region_two [0, 0, 0, 0, 0, 0, 0, 0, 0, 0, 0, 0, 0, 0, 0, 0, 0, 0, 0, 1] (by kernel_rfl) (by kernel_rfl) ?_
        simp only [sel, ↓reduceIte, Nat.reduceEqDiff]
        repeat (go_big_quiet_step (fail))
        refine wpQuiet_nil ?_
        intro w9 hw9
        obtain ⟨n3, rfl⟩ := hw9
        rw [show (if H < N then N else H) = max H N from lead_max _ _]
        go_upto_region 4 with fail
        have HT3 : Hid (TurnAt ((w2.drewN (n2 + nq + n3)).setCell ⟨g, mi, none⟩ (.int .i64 (max H N))) b B ⟨R.me, R.kept, R.hav.set mi (max H N), R.wants, R.gives, R.given⟩ L ∧ Beside B b w ((w2.drewN (n2 + nq + n3)).setCell ⟨g, mi, none⟩ (.int .i64 (max H N)))) := by
          have hb3 : Below w2.heap.size w2 (w2.drewN (n2 + nq + n3)) := below_drewN _ (Below.refl _ _)
          obtain ⟨vl', vh', vw', vg', vn', vs', ps', hx', ho', hm'⟩ := turn_below HT2.out hb3
          have e := (HX2.out.below hb3 HX2.out.lt).uniq hx'
          simp only [List.cons.injEq, and_true, true_and] at e
          obtain ⟨_, rfl, _, _, _, _⟩ := e
          exact ⟨⟨_, _, _, _, _, _, _, hx'.row ho'.2.2.1 rfl (by decide) _, ho'.havs mi (max H N), hm'.row ho'.2.2.1 rfl (by decide) (by decide) _⟩, (HBS.out.trans (Beside.of (hb3.mono HBZ.out))).setCell (a := ⟨g, mi, none⟩) (Or.inr hgB) _⟩
        clear x0 x1 x2 x3 x4 x5 x6 x7 x8 x9 x10 y0 y1 y2 y3 y4 y5 y6 y7 hcell hfz
        have hT := HT3.out.1
        generalize hw3 : World.setCell (w2.drewN (n2 + nq + n3)) _ _ = w3 at HT3 hT ⊢
        clear hw3
        obtain ⟨vl3, vh3, vw3, vg3, vn3, vs3, ps3, hx3, ho3, hm3⟩ := hT
        have z5 := hx3.cell 5 _ rfl
        clear hx3 ho3 hm3
        have HE : Hid (TurnAt w3 b B RR (L ++ LL) ∧ Beside B b w w3) := by
          refine ⟨?_, HT3.out.2⟩
          have e : max R.kept.commit N = R.kept.commit := by omega
          rw [HR.out.2, if_neg (by omega), HR.out.1, e, List.append_nil]
          exact HT3.out.1
        clear HT3
        go_wp2_with fail
        clear z5
        go_end0
        exact ⟨rfl, HE.out⟩
    · have qv : (M.view != R.kept.view) = true := by simpa using hv
      have HR : Hid (RR = R ∧ LL = []) := by
        unfold Hid
        rw [HRR.out.2, HRR.out.1]
        unfold hasL hasR
        rw [if_neg (fun q => hv q.1), if_neg (fun q => hv q.1)]
        exact ⟨rfl, rfl⟩
      clear HRR
      go_enter Tryd.func29, Tryd.ntmps29
      go_upto_region 1 with fail
      rw [← hw0]
      clear hw0
      refine wp_region_three [0, 0, 0, 0, 1, 2, 2, 2, 2, 2, 2, 2, 2, 2, 2, 2, 2] (by kernel_rfl) (by kernel_rfl) ?_
      simp only [sel, ↓reduceIte, Nat.reduceEqDiff]
      repeat (go_big_quiet_step (fail))
      refine wpQuiet_nil ?_
      intro w9 hw9
      obtain ⟨n1, rfl⟩ := hw9
      go_wp2_with fail
      refine (HLD.out (w0.drewN n1) (below_drewN n1 (Below.refl w0.heap.size w0))).mono ?_
      rintro e w2 ⟨rfl, hb2⟩
      have hbw : Below w0.heap.size w0 w2 := ⟨hb2.os, hb2.tape, hb2.output, hb2.size, hb2.block⟩
      have HB2 : Hid (Below w0.heap.size w0 w2) := hbw
      have bx := HX.out.below hbw HX.out.lt
      have by' := HBM.out.below hbw HBM.out.lt
      have HT2 : Hid (TurnAt w2 b B R L) := turn_below HT.out hbw
      have HX2 : Hid (Box w2 b _ _) := bx
      have HM2 : Hid (Box w2 w.heap.size _ _) := by'
      have HO2 : Hid (ReplOwn w2 B R _ _ _ _ _ _) := HO.out.below hbw
      have HBS : Hid (Beside B b w w2) := (Beside.of (HB0.out.mono hB)).trans (Beside.of (hbw.mono (by have := HS0.out; omega)))
      have HBZ : Hid (B ≤ w2.heap.size) := Nat.le_trans hB (Nat.le_trans (by have := HS0.out; omega) hbw.size)
      clear hb2 hbw x0 x1 x2 x3 x4 x5 x6 x7 x8 x9 x10 y0 y1 y2 y3 y4 y5 y6 y7 HLD
      have x0 := bx.cell 0 _ rfl
      have x1 := bx.cell 1 _ rfl
      have x2 := bx.cell 2 _ rfl
      have x3 := bx.cell 3 _ rfl
      have x4 := bx.cell 4 _ rfl
      have x5 := bx.cell 5 _ rfl
      have x6 := bx.cell 6 _ rfl
      have x7 := bx.cell 7 _ rfl
      have x8 := bx.cell 8 _ rfl
      have x9 := bx.cell 9 _ rfl
      have x10 := bx.cell 10 _ rfl
      have y0 := by'.cell 0 _ rfl
      have y1 := by'.cell 1 _ rfl
      have y2 := by'.cell 2 _ rfl
      have y3 := by'.cell 3 _ rfl
      have y4 := by'.cell 4 _ rfl
      have y5 := by'.cell 5 _ rfl
      have y6 := by'.cell 6 _ rfl
      have y7 := by'.cell 7 _ rfl
      rw [HM2I.out] at y1
      clear bx by'
      rw [hl]
      go_wp2_with fail
      refine onNormal_intro ?_
      unfold wpRest
      simp only [sel, ↓reduceIte, Nat.reduceEqDiff]
      repeat (go_big_quiet_step (fail))
      refine wpQuiet_nil ?_
      intro w9 hw9
      obtain ⟨n2, rfl⟩ := hw9
      go_wp2_with fail
      refine bodyPost_ret (results_none rfl _ _ _) rfl ?_
      exact ⟨rfl, by rw [HR.out.1, HR.out.2, List.append_nil]; exact turn_below HT2.out (below_drewN n2 (Below.refl _ _)), HBS.out.trans (Beside.of (below_drewN n2 (below_drewN_refl HBZ.out)))⟩
  · have hl' : leads R = false := by simpa using hl
    have HR : Hid (RR = R ∧ LL = []) := by
      unfold Hid
      rw [HRR.out.2, HRR.out.1]
      unfold hasL hasR
      rw [if_neg (fun q => hl q.2), if_neg (fun q => hl q.2)]
      exact ⟨rfl, rfl⟩
    clear HRR
    go_enter Tryd.func29, Tryd.ntmps29
    go_upto_region 1 with fail
    rw [← hw0]
    clear hw0
    refine wp_region_three [0, 0, 0, 0, 1, 2, 2, 2, 2, 2, 2, 2, 2, 2, 2, 2, 2] (by kernel_rfl) (by kernel_rfl) ?_
    simp only [sel, ↓reduceIte, Nat.reduceEqDiff]
    repeat (go_big_quiet_step (fail))
    refine wpQuiet_nil ?_
    intro w9 hw9
    obtain ⟨n1, rfl⟩ := hw9
    go_wp2_with fail
    refine (HLD.out (w0.drewN n1) (below_drewN n1 (Below.refl w0.heap.size w0))).mono ?_
    rintro e w2 ⟨rfl, hb2⟩
    have hbw : Below w0.heap.size w0 w2 := ⟨hb2.os, hb2.tape, hb2.output, hb2.size, hb2.block⟩
    have HB2 : Hid (Below w0.heap.size w0 w2) := hbw
    have bx := HX.out.below hbw HX.out.lt
    have by' := HBM.out.below hbw HBM.out.lt
    have HT2 : Hid (TurnAt w2 b B R L) := turn_below HT.out hbw
    have HX2 : Hid (Box w2 b _ _) := bx
    have HM2 : Hid (Box w2 w.heap.size _ _) := by'
    have HO2 : Hid (ReplOwn w2 B R _ _ _ _ _ _) := HO.out.below hbw
    have HBS : Hid (Beside B b w w2) := (Beside.of (HB0.out.mono hB)).trans (Beside.of (hbw.mono (by have := HS0.out; omega)))
    have HBZ : Hid (B ≤ w2.heap.size) := Nat.le_trans hB (Nat.le_trans (by have := HS0.out; omega) hbw.size)
    clear hb2 hbw x0 x1 x2 x3 x4 x5 x6 x7 x8 x9 x10 y0 y1 y2 y3 y4 y5 y6 y7 HLD
    have x0 := bx.cell 0 _ rfl
    have x1 := bx.cell 1 _ rfl
    have x2 := bx.cell 2 _ rfl
    have x3 := bx.cell 3 _ rfl
    have x4 := bx.cell 4 _ rfl
    have x5 := bx.cell 5 _ rfl
    have x6 := bx.cell 6 _ rfl
    have x7 := bx.cell 7 _ rfl
    have x8 := bx.cell 8 _ rfl
    have x9 := bx.cell 9 _ rfl
    have x10 := bx.cell 10 _ rfl
    have y0 := by'.cell 0 _ rfl
    have y1 := by'.cell 1 _ rfl
    have y2 := by'.cell 2 _ rfl
    have y3 := by'.cell 3 _ rfl
    have y4 := by'.cell 4 _ rfl
    have y5 := by'.cell 5 _ rfl
    have y6 := by'.cell 6 _ rfl
    have y7 := by'.cell 7 _ rfl
    rw [HM2I.out] at y1
    clear bx by'
    rw [hl']
    go_wp2_with fail
    refine onNormal_intro ?_
    unfold wpRest
    simp only [sel, ↓reduceIte, Nat.reduceEqDiff]
    repeat (go_big_quiet_step (fail))
    refine wpQuiet_nil ?_
    intro w9 hw9
    obtain ⟨n2, rfl⟩ := hw9
    go_wp2_with fail
    refine bodyPost_ret (results_none rfl _ _ _) rfl ?_
    exact ⟨rfl, by rw [HR.out.1, HR.out.2, List.append_nil]; exact turn_below HT2.out (below_drewN n2 (Below.refl _ _)), HBS.out.trans (Beside.of (below_drewN n2 (below_drewN_refl HBZ.out)))⟩

end Go.Proofs.YtmdgkjbiicaljagDoor
