/- The program's own: hearWant. -/
import Derived.Test.YtmdgkjbiicaljagDoorEnoughGo
namespace Go.Proofs.YtmdgkjbiicaljagDoor
open Go.RowKit
set_option linter.unusedVariables false
set_option linter.unusedSimpArgs false

/-- What a replica in a turn is like. -/
structure Sound (R : ReplM) : Prop where
  me0 : 0 ≤ R.me
  me1 : R.me < 3
  wl : R.wants.length = 3
  gl : R.gives.length = 3
  nl : R.given.length = 3
  fits : ReplFits R
theorem sentAll_len (r : ReplM) (k c : Int) (l : List (List UInt8)) : (toAll r k c l).length ≤ 3 := by
  unfold toAll others
  rw [List.length_map]
  exact Nat.le_trans (List.length_filter_le _ _) (by simp)
theorem textsNil : TextsIn [] := ⟨by simp, fun s hs => by simp at hs⟩
theorem sound_want {R : ReplM} (h : Sound R) (v : Int) : Sound (wantR R v) := by
  refine ⟨h.me0, h.me1, by simp [wantR], rfl, rfl, ⟨h.fits.log, by simp [wantR], by simp [wantR], by simp [wantR], fun k hk => ?_, by simp [wantR]⟩⟩
  have : k = zeroKept := by simpa [wantR] using hk
  subst this
  exact textsNil
theorem sound_setWant {R : ReplM} (h : Sound R) (i : Nat) : Sound ⟨R.me, R.kept, R.hav, R.wants.set i true, R.gives, R.given⟩ :=
  ⟨h.me0, h.me1, by simp [h.wl], h.gl, h.nl, ⟨h.fits.log, h.fits.hav, by simp only [List.length_set]; exact h.fits.wants, h.fits.gives, h.fits.each, h.fits.given⟩⟩
theorem sound_give {R : ReplM} (h : Sound R) (i : Nat) (K : KeptM) (hK : TextsIn K.log) : Sound (withGive R i K) :=
  ⟨h.me0, h.me1, h.wl, by simp [withGive, h.gl], by simp [withGive, h.nl], ⟨h.fits.log, h.fits.hav, h.fits.wants, by simp only [withGive, List.length_set]; exact h.fits.gives, fun k hk => by
    rcases List.mem_or_eq_of_mem_set hk with e | e
    · exact h.fits.each k e
    · rw [e]; exact hK, by simp only [withGive, List.length_set]; exact h.fits.given⟩⟩

theorem turn_wants {w : World} {b B : Nat} {R : ReplM} {L : List MsgM} (h : TurnAt w b B R L) (i : Nat) (hi : i < R.wants.length) :
    ∃ g cap, (∀ cs, Box w b 68 cs → cs[7]? = some (.slice (some ⟨g, 0, none⟩) R.wants.length cap)) ∧ (∃ s, w.cell? ⟨g, i, none⟩ = some (.bool s) ∧ s = R.wants.getD i false) ∧ w.frozen? ⟨g, i, none⟩ = false ∧
      ∀ n, TurnAt ((w.drewN n).setCell ⟨g, i, none⟩ (.bool true)) b B ⟨R.me, R.kept, R.hav, R.wants.set i true, R.gives, R.given⟩ L ∧ (B ≤ w.heap.size → Beside B b w ((w.drewN n).setCell ⟨g, i, none⟩ (.bool true))) := by
  obtain ⟨vl, vh, vw, vg, vn, vs, ps, hx, ho, hm⟩ := h
  obtain ⟨g, cap, hvw, hgB, _, hc, hf⟩ := own_cell ho.2.2.2.1 i hi
  subst hvw
  refine ⟨g, cap, fun cs hcs => ?_, ⟨R.wants[i], ?_, by simp [List.getD, hi]⟩, hf, fun n => ⟨?_, fun hB => ?_⟩⟩
  · rw [hcs.uniq hx]; rfl
  · rw [hc]; simp [encB, hi]
  · have e : (w.drewN n).setCell ⟨g, i, none⟩ (.bool true) = (w.setCell ⟨g, i, none⟩ (.bool true)).drewN n := rfl
    rw [e]
    refine turn_below ?_ (below_drewN n (Below.refl _ _))
    exact ⟨_, _, _, _, _, _, _, hx.row ho.2.2.2.1 rfl (by decide) _, ho.wants i true, hm.row ho.2.2.2.1 rfl (by decide) (by decide) _⟩
  · exact (Beside.of (below_drewN n (below_drewN_refl hB))).setCell (a := ⟨g, i, none⟩) (Or.inr hgB) _

theorem sendTurn_any (b B : Nat) (R : ReplM) (L : List MsgM) (dst : Int) (M : MsgM) (vm : Value) (w : World) (h : TurnAt w b B R L) (hm : RowAt w vm M.log.length 1 (M.log.map enc)) (hz : M.log.length * 16 ≤ 140737488355328) (hn : L.length ≤ 900) (hB : B ≤ w.heap.size) :
    Calls Tryd.prog 47 #[.pointer (some ⟨b, 0, none⟩), .int .i64 dst, .agg (msgCells M vm).toArray] w fun e w' => e = .returned (.tuple #[]) ∧ TurnAt w' b B R (L ++ [⟨M.kind, R.me, dst, R.kept.view, M.normal, M.commit, M.n, M.log⟩]) ∧ Beside B b w w' := by
  obtain ⟨vl, vh, vw, vg, vn, vs, ps, hx, ho, hmn⟩ := h
  obtain ⟨qs, hL, hq⟩ := hmn
  have hql : qs.length ≤ 1000 := by have := congrArg List.length hL; simp at this; omega
  refine (send_any b B R.me R.kept.view _ _ _ _ _ _ _ _ vs qs dst M vm w hx hq hm hz hql hB).mono ?_
  rintro e w' ⟨rfl, vs', vm', hb', hm', hk', hv'⟩
  refine ⟨rfl, ⟨_, _, _, _, _, _, _, hb', ho.keeps hk', _, ?_, hm'⟩, hv'.beside hq.1 hB⟩
  rw [List.map_append, ← hL]
  rfl

set_option maxRecDepth 4000 in
set_option maxHeartbeats 8000000 in
theorem hearWant_any (b B : Nat) (R : ReplM) (L : List MsgM) (M : MsgM) (u : Value) (w : World) (h : TurnAt w b B R L) (hm : MsgAt w u M) (hs : Sound R) (hf0 : 0 ≤ M.frm) (hf1 : M.frm ≤ 2) (hn : L.length ≤ 800) (hB : B ≤ w.heap.size) :
    Calls Tryd.prog 30 #[.pointer (some ⟨b, 0, none⟩), u] w fun e w' => e = .returned (.tuple #[]) ∧
      TurnAt w' b B (wantedR (if R.kept.view < M.view then wantR R M.view else R) M) ((L ++ if R.kept.view < M.view then wantL R M.view else []) ++ wantedL (if R.kept.view < M.view then wantR R M.view else R) M) ∧ Beside B b w w' := by
  have HS1 : Hid (Sound (if R.kept.view < M.view then wantR R M.view else R)) := by
    unfold Hid
    split
    · exact sound_want hs _
    · exact hs
  have HL1 : Hid ((L ++ if R.kept.view < M.view then wantL R M.view else []).length ≤ 803) := by
    unfold Hid
    rw [List.length_append]
    split
    · have := sentAll_len (wantR R M.view) 3 0 []
      unfold wantL
      omega
    · simp; omega
  obtain ⟨mi, hmi⟩ : ∃ mi : Nat, M.frm = (mi : Int) := ⟨M.frm.toNat, by omega⟩
  have hml : mi < 3 := by omega
  have k0 : (0 : Int) ≤ (mi : Int) := by omega
  obtain ⟨vm, rfl, hs'⟩ := hm
  obtain ⟨am, cm, rfl, _, _⟩ := hs'
  have bm := Box.new w 43 [.int .i64 M.kind, .int .i64 M.frm, .int .i64 M.dst, .int .i64 M.view, .int .i64 M.normal, .int .i64 M.commit, .int .i64 M.n, .slice am M.log.length cm]
  obtain ⟨w0, hw0⟩ : ∃ w0, w0 = w.alloc (.cells #[.int .i64 M.kind, .int .i64 M.frm, .int .i64 M.dst, .int .i64 M.view, .int .i64 M.normal, .int .i64 M.commit, .int .i64 M.n, .slice am M.log.length cm] 43) := ⟨_, rfl⟩
  have hb0 : Below w.heap.size w w0 := by rw [hw0]; exact below_alloc _ _
  have hs0 : w0.heap.size = w.heap.size + 1 := by rw [hw0]; simp
  have h0 := turn_below h hb0
  have HOF : Hid (Off 68 w0 b w.heap.size) := by
    obtain ⟨vl, vh, vw, vg, vn, vs, ps, hxw, how, hmw⟩ := h
    refine ⟨by have := hxw.lt; omega, by omega, fun cs hcs c hc e => ?_⟩
    rw [hcs.uniq (hxw.below hb0 hxw.lt)] at hc
    obtain ⟨qs, _, hq⟩ := hmw
    have l1 := own_lt how.2.1
    have l2 := own_lt how.2.2.1
    have l3 := own_lt how.2.2.2.1
    have l4 := own_lt how.2.2.2.2.1.1
    have l5 := own_lt how.2.2.2.2.2.1
    have l6 := own_lt hq.1
    simp only [List.mem_cons, List.not_mem_nil, or_false] at hc
    rcases hc with rfl | rfl | rfl | rfl | rfl | rfl | rfl | rfl | rfl | rfl | rfl
    · cases e
    · cases e
    · cases e
    · cases e
    · have := l1 _ e; omega
    · cases e
    · have := l2 _ e; omega
    · have := l3 _ e; omega
    · have := l4 _ e; omega
    · have := l5 _ e; omega
    · have := l6 _ e; omega
  simp only [msgCells]
  rw [← hw0] at bm
  have HB0 : Hid (Below w.heap.size w w0) := hb0
  have HS0 : Hid (w0.heap.size = w.heap.size + 1) := hs0
  have HT : Hid (TurnAt w0 b B R L) := h0
  have HBM : Hid (Box w0 w.heap.size _ _) := bm
  have HMI : Hid (M.frm = (mi : Int)) := hmi
  have HWH : Hid (∀ W, TurnAt W b B R L → B ≤ W.heap.size → Calls _ _ _ W _) := fun W h1 h2 => wantHigher_any b B R L M (.slice am M.log.length cm) W h1 ⟨_, _, rfl⟩ hs.me0 hs.me1 (by omega) h2
  generalize (if R.kept.view < M.view then wantR R M.view else R) = R1 at *
  generalize (L ++ if R.kept.view < M.view then wantL R M.view else []) = L1 at *
  have y0 := bm.cell 0 _ rfl
  have y1 := bm.cell 1 _ rfl
  have y2 := bm.cell 2 _ rfl
  have y3 := bm.cell 3 _ rfl
  have y4 := bm.cell 4 _ rfl
  have y5 := bm.cell 5 _ rfl
  have y6 := bm.cell 6 _ rfl
  have y7 := bm.cell 7 _ rfl
  clear bm h hb0 hs0 h0 hs hmi
  go_enter Tryd.func30, Tryd.ntmps30
  go_upto_region 1 with fail
  rw [← hw0]
  clear hw0
  go_wp2_with fail
  refine (HWH.out w0 HT.out (by have := HS0.out; omega)).mono ?_
  rintro e w1 ⟨rfl, ht1, hb1, hl1⟩
  have HT1 : Hid (TurnAt w1 b B R1 L1) := ht1
  have HB1 : Hid (Beside B b w w1) := (Beside.of (HB0.out.mono hB)).trans hb1
  have bm := HBM.out.leaves hl1 HOF.out
  have HBM1 : Hid (Box w1 w.heap.size _ _) := bm
  clear hb1 hl1 y0 y1 y2 y3 y4 y5 y6 y7 HWH
  have y0 := bm.cell 0 _ rfl
  have y1 := bm.cell 1 _ rfl
  have y2 := bm.cell 2 _ rfl
  have y3 := bm.cell 3 _ rfl
  have y4 := bm.cell 4 _ rfl
  have y5 := bm.cell 5 _ rfl
  have y6 := bm.cell 6 _ rfl
  have y7 := bm.cell 7 _ rfl
  rw [HMI.out] at y1
  obtain ⟨vl, vh, vw, vg, vn, vs, ps, hx, ho, hmn⟩ := ht1
  have hs1 := HS1.out
  obtain ⟨g, cap, hg7, ⟨s0, hcell, hs0⟩, hfz, hput⟩ := turn_wants HT1.out mi (by rw [hs1.wl]; exact hml)
  have e7 := hg7 _ hx
  simp only [List.getElem?_cons_succ, List.getElem?_cons_zero, Option.some.injEq] at e7
  subst e7
  rw [hs1.wl] at hx
  have HX1 : Hid (Box w1 b _ _) := hx
  have k1 : (mi : Int) < 3 := by omega
  have HPUT : Hid (∀ n, TurnAt ((w1.drewN n).setCell ⟨g, mi, none⟩ (.bool true)) b B ⟨R1.me, R1.kept, R1.hav, R1.wants.set mi true, R1.gives, R1.given⟩ L1 ∧ (B ≤ w1.heap.size → Beside B b w1 ((w1.drewN n).setCell ⟨g, mi, none⟩ (.bool true)))) := hput
  have HS0' : Hid (s0 = R1.wants.getD mi false) := hs0
  have x0 := hx.cell 0 _ rfl
  have x1 := hx.cell 1 _ rfl
  have x2 := hx.cell 2 _ rfl
  have x3 := hx.cell 3 _ rfl
  have x4 := hx.cell 4 _ rfl
  have x5 := hx.cell 5 _ rfl
  have x6 := hx.cell 6 _ rfl
  have x7 := hx.cell 7 _ rfl
  have x8 := hx.cell 8 _ rfl
  have x9 := hx.cell 9 _ rfl
  have x10 := hx.cell 10 _ rfl
  have HHB : Hid (B ≤ w1.heap.size) := HB1.out.up hB
  clear hx ho hmn bm hg7 hput hs0 hs1
  by_cases hc : R1.kept.calm = true
  · have HR : Hid (wantedR R1 M = R1 ∧ wantedL R1 M = []) := by
      unfold Hid wantedR wantedL
      rw [if_pos (Or.inl hc), if_pos (Or.inl hc)]
      exact ⟨rfl, rfl⟩
    rw [hc] at x3
    go_upto_region 2 with fail
    go_quiet (fail)
    go_wp2_with fail
    refine bodyPost_ret (results_none rfl _ _ _) rfl ?_
    refine ⟨rfl, ?_, HB1.out.trans (Beside.of (below_drewN nq (below_drewN_refl HHB.out)))⟩
    rw [HR.out.1, HR.out.2, List.append_nil]
    exact turn_below HT1.out (below_drewN nq (Below.refl _ _))
  have hc' : R1.kept.calm = false := by simpa using hc
  rw [hc'] at x3
  by_cases hwt : s0 = true
  · have HR : Hid (wantedR R1 M = R1 ∧ wantedL R1 M = []) := by
      have e : R1.wants.getD M.frm.toNat false = true := by rw [HMI.out, Int.toNat_natCast, ← HS0'.out]; exact hwt
      unfold Hid wantedR wantedL
      rw [if_pos (Or.inr e), if_pos (Or.inr e)]
      exact ⟨rfl, rfl⟩
    rw [hwt] at hcell
    go_upto_region 2 with fail
    go_quiet (fail)
    go_wp2_with fail
    refine bodyPost_ret (results_none rfl _ _ _) rfl ?_
    refine ⟨rfl, ?_, HB1.out.trans (Beside.of (below_drewN nq (below_drewN_refl HHB.out)))⟩
    rw [HR.out.1, HR.out.2, List.append_nil]
    exact turn_below HT1.out (below_drewN nq (Below.refl _ _))
  have hwt' : s0 = false := by simpa using hwt
  obtain ⟨R2, hR2⟩ : ∃ R2 : ReplM, R2 = ⟨R1.me, R1.kept, R1.hav, R1.wants.set mi true, R1.gives, R1.given⟩ := ⟨_, rfl⟩
  have HR : Hid (wantedR R1 M = (if R2.kept.view.tmod 3 = R2.me then beginR (withGive R2 R2.me.toNat (ownK R2)) else R2) ∧
      wantedL R1 M = (if R2.kept.view.tmod 3 = R2.me then beginL (withGive R2 R2.me.toNat (ownK R2)) else [⟨4, R2.me, R2.kept.view.tmod 3, R2.kept.view, R2.kept.normal, R2.kept.commit, 0, R2.kept.log⟩])) := by
    have e : ¬ (R1.kept.calm = true ∨ R1.wants.getD M.frm.toNat false = true) := by
      rw [HMI.out, Int.toNat_natCast, ← HS0'.out]
      exact fun q => q.elim hc hwt
    unfold Hid wantedR wantedL
    rw [if_neg e, if_neg e, HMI.out, Int.toNat_natCast, hR2]
    exact ⟨rfl, rfl⟩
  have HS2 : Hid (Sound R2) := by rw [hR2]; exact sound_setWant HS1.out mi
  rw [hwt'] at hcell
  go_upto_region 2 with fail
  go_quiet (fail)
  generalize nq = n1
  go_upto_region 3 with fail
  refine wp_region_two [0, 0, 0, 0, 0, 0, 0, 0, 1] (by kernel_rfl) (by kernel_rfl) ?_
  simp only [sel, ↓reduceIte, Nat.reduceEqDiff]
  repeat (go_big_quiet_step (fail))
  refine wpQuiet_nil ?_
  intro w9 hw9
  obtain ⟨n2, rfl⟩ := hw9
  go_upto_region 4 with fail
  have HT3 : Hid (TurnAt ((w1.drewN (n1 + n2)).setCell ⟨g, mi, none⟩ (.bool true)) b B R2 L1 ∧ Beside B b w ((w1.drewN (n1 + n2)).setCell ⟨g, mi, none⟩ (.bool true))) := by
    have := HPUT.out (n1 + n2)
    rw [hR2]
    exact ⟨this.1, HB1.out.trans (this.2 HHB.out)⟩
  generalize hw3 : World.setCell (w1.drewN (n1 + n2)) _ _ = w3 at HT3 ⊢
  have hs2 := HS2.out
  have HKC : Hid (R2.kept.calm = false) := by rw [hR2]; exact hc'
  clear hw3 hR2 hcell hfz hwt hwt' hc hc' HPUT HX1 x0 x1 x2 x3 x4 x5 x6 x7 x8 x9 x10 y0 y1 y2 y3 y4 y5 y6 y7
  obtain ⟨vl3, vh3, vw3, vg3, vn3, vs3, ps3, hx3, ho3, hm3⟩ := HT3.out.1
  obtain ⟨al3, cl3, hvl3⟩ := own_form ho3.2.1
  subst hvl3
  have HLO : Hid (w3.ownsRow B 9 1 (.slice al3 R2.kept.log.length cl3) R2.kept.log.length (R2.kept.log.map enc)) := ho3.2.1
  have HFL : Hid (TextsIn R2.kept.log) := hs2.fits.log
  obtain ⟨mj, hmj⟩ : ∃ mj : Nat, R2.me = (mj : Int) := ⟨R2.me.toNat, by have := hs2.me0; omega⟩
  have HMJ : Hid (R2.me = (mj : Int) ∧ mj < 3) := ⟨hmj, by have := hs2.me1; omega⟩
  have HX3 : Hid (Box w3 b _ _) := hx3
  have HOK : Hid (ownK R2 = R2.kept) := by
    have := HKC.out
    unfold Hid ownK
    generalize R2.kept = K at this ⊢
    obtain ⟨a1, a2, a3, a4, a5⟩ := K
    simp only at this
    rw [this]
  have x0 := hx3.cell 0 _ rfl
  have x1 := hx3.cell 1 _ rfl
  have x2 := hx3.cell 2 _ rfl
  have x3 := hx3.cell 3 _ rfl
  have x4 := hx3.cell 4 _ rfl
  have x5 := hx3.cell 5 _ rfl
  have x6 := hx3.cell 6 _ rfl
  have x7 := hx3.cell 7 _ rfl
  have x8 := hx3.cell 8 _ rfl
  have x9 := hx3.cell 9 _ rfl
  have x10 := hx3.cell 10 _ rfl
  have bk := Box.new w3 25 [.int .i64 R2.kept.view, .int .i64 R2.kept.normal, .bool R2.kept.calm, .slice al3 R2.kept.log.length cl3, .int .i64 R2.kept.commit]
  have hb4 : Below w3.heap.size w3 (w3.alloc (.cells #[.int .i64 R2.kept.view, .int .i64 R2.kept.normal, .bool R2.kept.calm, .slice al3 R2.kept.log.length cl3, .int .i64 R2.kept.commit] 25)) := below_alloc _ _
  obtain ⟨w4, hw4⟩ : ∃ w4, w4 = w3.alloc (.cells #[.int .i64 R2.kept.view, .int .i64 R2.kept.normal, .bool R2.kept.calm, .slice al3 R2.kept.log.length cl3, .int .i64 R2.kept.commit] 25) := ⟨_, rfl⟩
  go_upto_region 5 with fail
  rw [← hw4] at bk hb4 ⊢
  clear hw4 x0 x1 x2 x3 x4 x5 x6 x7 x8 x9 x10
  have bx4 := hx3.below hb4 hx3.lt
  have HT4 : Hid (TurnAt w4 b B R2 L1) := turn_below HT3.out.1 hb4
  have HB4 : Hid (Beside B b w w4) := HT3.out.2.trans (Beside.of (hb4.mono (HT3.out.2.up hB)))
  have HLO4 : Hid (w4.ownsRow B 9 1 (.slice al3 R2.kept.log.length cl3) R2.kept.log.length (R2.kept.log.map enc)) := own_below HLO.out hb4 (own_lt HLO.out)
  have HBK : Hid (Box w4 w3.heap.size _ _) := bk
  have HX4 : Hid (Box w4 b _ _) := bx4
  have y0 := bk.cell 0 _ rfl
  have y1 := bk.cell 1 _ rfl
  have y2 := bk.cell 2 _ rfl
  have y3 := bk.cell 3 _ rfl
  have y4 := bk.cell 4 _ rfl
  have x0 := bx4.cell 0 _ rfl
  have x1 := bx4.cell 1 _ rfl
  have x2 := bx4.cell 2 _ rfl
  have x3 := bx4.cell 3 _ rfl
  have x4 := bx4.cell 4 _ rfl
  have x5 := bx4.cell 5 _ rfl
  have x6 := bx4.cell 6 _ rfl
  have x7 := bx4.cell 7 _ rfl
  have x8 := bx4.cell 8 _ rfl
  have x9 := bx4.cell 9 _ rfl
  have x10 := bx4.cell 10 _ rfl
  clear hx3 ho3 hm3 bk bx4 hb4
  go_wp2_with fail
  refine (leader_any R2.kept.view w4).mono ?_
  rintro e w4' ⟨rfl, rfl⟩
  by_cases hld : R2.kept.view.tmod 3 = R2.me
  · have q : (R2.kept.view.tmod 3 != R2.me) = false := by simpa using hld
    have HRR : Hid (wantedR R1 M = beginR (withGive R2 mj R2.kept) ∧ wantedL R1 M = beginL (withGive R2 mj R2.kept)) := by
      unfold Hid
      rw [HR.out.1, HR.out.2, if_pos hld, if_pos hld, HOK.out, hmj, Int.toNat_natCast]
      exact ⟨rfl, rfl⟩
    clear hld hs2
    go_upto_region 8 with fail
    rw [hmj] at x0
    refine wp_region_two [0, 0, 0, 0, 0, 0, 0, 1] (by kernel_rfl) (by kernel_rfl) ?_
    simp only [sel, ↓reduceIte, Nat.reduceEqDiff]
    repeat (go_big_quiet_step (fail))
    refine wpQuiet_nil ?_
    intro w9 hw9
    obtain ⟨n3, rfl⟩ := hw9
    go_wp2_with fail
    refine (keepGiven_any b B mj R2 L1 R2.kept _ (w4'.drewN n3) (turn_below HT4.out (below_drewN n3 (Below.refl _ _))) ⟨_, rfl, Strs.of_own (own_drewN n3 HLO4.out) (by have := HFL.out.1; omega) HFL.out.2⟩ HFL.out.1 HMJ.out.2 HS2.out.gl HS2.out.nl (HB4.out.up hB)).mono ?_
    rintro e w5 ⟨rfl, ht5, hb5, _⟩
    have HT5 : Hid (TurnAt w5 b B _ L1) := ht5
    have HB5 : Hid (Beside B b w w5) := (HB4.out.trans (Beside.of (below_drewN n3 (below_drewN_refl (HB4.out.up hB))))).trans hb5
    have HS5 : Hid (Sound (withGive R2 mj R2.kept)) := sound_give HS2.out mj R2.kept HFL.out
    clear ht5 hb5 x0 x1 x2 x3 x4 x5 x6 x7 x8 x9 x10 y0 y1 y2 y3 y4
    go_wp2_with fail
    refine (enough_any b B (withGive R2 mj R2.kept) L1 w5 HT5.out HS5.out.gl HS5.out.nl (by
      show (R2.given.set mj true).getD R2.me.toNat false = true
      rw [HMJ.out.1, Int.toNat_natCast]
      have hh : mj < R2.given.length := by have := HS2.out.nl; have := HMJ.out.2; omega
      simp [List.getD, List.getElem?_set, hh]) HS5.out.fits.each (by have := HL1.out; omega) (HB5.out.up hB)).mono ?_
    rintro e w6 ⟨rfl, ht6, hb6⟩
    have HE : Hid (TurnAt w6 b B (wantedR R1 M) (L1 ++ wantedL R1 M) ∧ Beside B b w w6) := by
      refine ⟨?_, HB5.out.trans hb6⟩
      rw [HRR.out.1, HRR.out.2]
      exact ht6
    clear ht6 hb6 HRR
    go_wp2_with fail
    go_end0
    exact ⟨rfl, HE.out⟩
  · have q : (R2.kept.view.tmod 3 != R2.me) = true := by simpa using hld
    have HRR : Hid (wantedR R1 M = R2 ∧ wantedL R1 M = [⟨4, R2.me, R2.kept.view.tmod 3, R2.kept.view, R2.kept.normal, R2.kept.commit, 0, R2.kept.log⟩]) := by
      unfold Hid
      rw [HR.out.1, HR.out.2, if_neg hld, if_neg hld]
      exact ⟨rfl, rfl⟩
    clear hld hs2
    go_wp2_with fail
    refine (sendTurn_any b B R2 L1 (R2.kept.view.tmod 3) ⟨4, 0, 0, 0, R2.kept.normal, R2.kept.commit, 0, R2.kept.log⟩ (.slice al3 R2.kept.log.length cl3) w4' HT4.out (rowAt_own HLO4.out (by simp)) HFL.out.1 (by have := HL1.out; omega) (HB4.out.up hB)).mono ?_
    rintro e w5 ⟨rfl, ht5, hb5⟩
    have HE : Hid (TurnAt w5 b B (wantedR R1 M) (L1 ++ wantedL R1 M) ∧ Beside B b w w5) := by
      refine ⟨?_, HB4.out.trans hb5⟩
      rw [HRR.out.1, HRR.out.2]
      exact ht5
    clear ht5 hb5 HRR x0 x1 x2 x3 x4 x5 x6 x7 x8 x9 x10 y0 y1 y2 y3 y4
    go_wp2_with fail
    refine bodyPost_ret (results_none rfl _ _ _) rfl ?_
    exact ⟨rfl, HE.out⟩

end Go.Proofs.YtmdgkjbiicaljagDoor
