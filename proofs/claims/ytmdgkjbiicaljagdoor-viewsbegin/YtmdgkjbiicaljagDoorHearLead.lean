/- The program's own: what a turn makes of a Lead. -/
import Derived.Test.YtmdgkjbiicaljagDoorHearChk
import Derived.Test.YtmdgkjbiicaljagDoorRegFree
namespace Go.Proofs.YtmdgkjbiicaljagDoor
open Go.RowKit
set_option linter.unusedVariables false
set_option linter.unusedSimpArgs false

theorem below_drewN {B : Nat} {w V : World} (n : Nat) (h : Below B w V) : Below B w (V.drewN n) := ⟨h.os, h.tape, h.output, h.size, h.block⟩
theorem own_drewN {w : World} {base : Nat} {e : TypeId} {size : Nat} {v : Value} {n : Nat} {xs : List Value} (m : Nat) (h : w.ownsRow base e size v n xs) : (w.drewN m).ownsRow base e size v n xs := h
theorem asunder_new {w W : World} {B C : Nat} {e : TypeId} {s n : Nat} {u v : Value} {xs : List Value} (ho : w.ownsRow B e s v n xs) (hu : ∀ k, u.ownBlock = some k → w.heap.size ≤ k) : Asunder u v := fun k h1 h2 => by
  have := own_lt ho k h2
  have := hu k h1
  omega
/-- The log is another one, in new memory. -/
theorem ReplOwn.newLog {w W : World} {B : Nat} {R : ReplM} {vl vh vw vg vn vl' : Value} {ps : List (KeptM × Value)} (h : ReplOwn w B R vl vh vw vg vn ps) (hb : Below w.heap.size w W) (hB : B ≤ w.heap.size) (K : KeptM)
    (hn : W.ownsRow w.heap.size 9 1 vl' K.log.length (K.log.map enc)) : ReplOwn W B ⟨R.me, K, R.hav, R.wants, R.gives, R.given⟩ vl' vh vw vg vn ps := by
  obtain ⟨h0, h1, h2, h3, h4, h5, h6, h7⟩ := h.below hb
  exact ⟨h0, own_base hn hB, h2, h3, h4, h5, h6, fun p hp => asunder_new (W := W) (C := 0) (h.2.2.2.2.1.2 p hp) (fun k hk => own_ge hn k hk)⟩
/-- What is kept is stored anew. -/
theorem turn_kept {w W : World} {b B : Nat} {R : ReplM} {L : List MsgM} {vl vh vw vg vn vs : Value} {ps : List (KeptM × Value)} (hx : Box w b 68 [.int .i64 R.me, .int .i64 R.kept.view, .int .i64 R.kept.normal, .bool R.kept.calm, vl, .int .i64 R.kept.commit, vh, vw, vg, vn, vs]) (ho : ReplOwn w B R vl vh vw vg vn ps) (hm : MsgsNew w B vs L)
    (hb : Below w.heap.size w W) (hB : B ≤ w.heap.size) (K : KeptM) (vl' : Value) (hn : W.ownsRow w.heap.size 9 1 vl' K.log.length (K.log.map enc)) (W' : World) (hW : W' = setAll W b 1 [.int .i64 K.view, .int .i64 K.normal, .bool K.calm, vl', .int .i64 K.commit]) :
    TurnAt W' b B ⟨R.me, K, R.hav, R.wants, R.gives, R.given⟩ L ∧ Beside w.heap.size b w W' := by
  have hx' := hx.below hb hx.lt
  obtain ⟨qs, hL, hq⟩ := hm
  subst hW
  exact ⟨⟨vl', vh, vw, vg, vn, vs, ps, setAll_put _ _ _ 1 hx', (ho.newLog hb hB K hn).setAll hx' (by decide) (by decide) (by decide) (by decide) 1 _, qs, hL, (hq.below hb).setAll hx' (by decide) (by decide) 1 _⟩, setAll_beside _ _ _ _ (Beside.of hb)⟩

set_option maxRecDepth 4000 in
set_option maxHeartbeats 4000000 in
theorem follow_any (b B : Nat) (R : ReplM) (L : List MsgM) (M : MsgM) (u : Value) (w : World) (h : TurnAt w b B R L) (hm : MsgAt w u M) (hz : M.log.length * 16 ≤ 140737488355328) (hB : B ≤ w.heap.size) :
    Calls Tryd.prog 43 #[.pointer (some ⟨b, 0, none⟩), u] w fun e w' => e = .returned (.tuple #[]) ∧ TurnAt w' b B (forgot ⟨R.me, ⟨M.view, M.view, true, M.log, min R.kept.commit M.log.length⟩, [], [], [], []⟩) L ∧ Beside w.heap.size b w w' := by
  obtain ⟨vm, rfl, hs⟩ := hm
  have HST : Hid (∀ W, Below w.heap.size w W → Strs W vm M.log) := fun W hW => hs.below hW
  obtain ⟨am, cm, rfl, _, _⟩ := hs
  have bm := Box.new w 43 [.int .i64 M.kind, .int .i64 M.frm, .int .i64 M.dst, .int .i64 M.view, .int .i64 M.normal, .int .i64 M.commit, .int .i64 M.n, .slice am M.log.length cm]
  obtain ⟨w0, hw0⟩ : ∃ w0, w0 = w.alloc (.cells #[.int .i64 M.kind, .int .i64 M.frm, .int .i64 M.dst, .int .i64 M.view, .int .i64 M.normal, .int .i64 M.commit, .int .i64 M.n, .slice am M.log.length cm] 43) := ⟨_, rfl⟩
  have hb0 : Below w.heap.size w w0 := by rw [hw0]; exact below_alloc _ _
  have hs0 : w0.heap.size = w.heap.size + 1 := by rw [hw0]; simp
  have h0 := turn_below h hb0
  simp only [msgCells]
  rw [← hw0] at bm
  have HB0 : Hid (Below w.heap.size w w0) := hb0
  have HS0 : Hid (w0.heap.size = w.heap.size + 1) := hs0
  obtain ⟨vl, vh, vw, vg, vn, vs, ps, hx, ho, hmn⟩ := h0
  obtain ⟨al, cl, hvl⟩ := own_form ho.2.1
  subst hvl
  have HX : Hid (Box w0 b _ _) := hx
  have HBM : Hid (Box w0 w.heap.size _ _) := bm
  have HO : Hid (ReplOwn w0 B R _ _ _ _ _ _) := ho
  have HM : Hid (MsgsNew w0 B vs L) := hmn
  have x0 := hx.cell 0 _ rfl
  have x1 := hx.cell 1 _ rfl
  have x2 := hx.cell 2 _ rfl
  have x3 := hx.cell 3 _ rfl
  have x4 := hx.cell 4 _ rfl
  have x5 := hx.cell 5 _ rfl
  have x6 := hx.cell 6 _ rfl
  have x7 := hx.cell 7 _ rfl
  have x8 := hx.cell 8 _ rfl
  have x9 := hx.cell 9 _ rfl
  have x10 := hx.cell 10 _ rfl
  have y0 := bm.cell 0 _ rfl
  have y1 := bm.cell 1 _ rfl
  have y2 := bm.cell 2 _ rfl
  have y3 := bm.cell 3 _ rfl
  have y4 := bm.cell 4 _ rfl
  have y5 := bm.cell 5 _ rfl
  have y6 := bm.cell 6 _ rfl
  have y7 := bm.cell 7 _ rfl
  clear hx ho hmn bm h hb0 hs0
  go_enter Tryd.func43, Tryd.ntmps43
  go_upto_region 1 with fail
  rw [← hw0]
  clear hw0
  go_quiet (fail)
  have hcm : ∃ cm', cm' = min R.kept.commit M.log.length := ⟨_, rfl⟩
  obtain ⟨CM, hcm⟩ := hcm
  have ecm : (if (M.log.length : Int) < R.kept.commit then (M.log.length : Int) else R.kept.commit) = CM := by rw [hcm]; split <;> omega
  rw [ecm]
  have HCM : Hid (CM = min R.kept.commit M.log.length) := hcm
  clear ecm hcm
  clear x0 x1 x2 x3 x4 x5 x6 x7 x8 x9 x10 y0 y1 y2 y3 y4 y5 y6 y7
  go_upto_region 2 with fail
  refine wp_region_free [0, 0, 0, 0, 0, 0, 0, 1, 0, 1, 2, 2, 2, 2] (by kernel_rfl) (by kernel_rfl) (fun h => h) (Below w0.heap.size w0) (below_drewN nq (Below.refl _ _)) (fun V n hV => below_drewN n hV) ?_
  apply Exists.intro
  refine ⟨?_, ?_⟩
  · intro V hV
    have bx := HX.out.below hV HX.out.lt
    have by' := HBM.out.below hV HBM.out.lt
    have x0 := bx.cell 0 _ rfl
    have x1 := bx.cell 1 _ rfl
    have x2 := bx.cell 2 _ rfl
    have x3 := bx.cell 3 _ rfl
    have x4 := bx.cell 4 _ rfl
    have x5 := bx.cell 5 _ rfl
    have x6 := bx.cell 6 _ rfl
    have x7 := bx.cell 7 _ rfl
    have x8 := bx.cell 8 _ rfl
    have x9 := bx.cell 9 _ rfl
    have x10 := bx.cell 10 _ rfl
    have y0 := by'.cell 0 _ rfl
    have y1 := by'.cell 1 _ rfl
    have y2 := by'.cell 2 _ rfl
    have y3 := by'.cell 3 _ rfl
    have y4 := by'.cell 4 _ rfl
    have y5 := by'.cell 5 _ rfl
    have y6 := by'.cell 6 _ rfl
    have y7 := by'.cell 7 _ rfl
    simp only [sel, ↓reduceIte, Nat.reduceEqDiff]
    repeat (go_big_quiet_step (fail))
    refine wpQuiet_nil ?_
    rfl
  · intro n
    simp only [sel, ↓reduceIte, Nat.reduceEqDiff]
    refine wpEarly_cons ?_
    go_wp2_with fail
    refine (copiedStrs_any M.log _ (w0.drewN (nq + n)) (Strs.row (HST.out _ (below_drewN (nq + n) HB0.out))) hz).mono ?_
    rintro e w2 ⟨v2, rfl, ho2, hb2⟩
    obtain ⟨a2, c2, rfl⟩ := own_form ho2
    have hbw : Below w0.heap.size w0 w2 := ⟨hb2.os, hb2.tape, hb2.output, hb2.size, hb2.block⟩
    have HB2 : Hid (Below w0.heap.size w0 w2) := hbw
    have HO2 : Hid (w2.ownsRow w0.heap.size _ _ _ _ _) := ho2
    clear ho2 hb2
    go_wp2_with fail
    refine wpEarly_next hbw fun m => ?_
    refine wpEarly_cons ?_
    go_wp2_with fail
    refine wpEarly_next (below_drewN m hbw) fun m2 => ?_
    refine wpEarly_nil ?_
    clear hbw
    have bx := HX.out.below HB2.out HX.out.lt
    have x0 := bx.cell 0 _ rfl
    have x1 := bx.cell 1 _ rfl
    have x2 := bx.cell 2 _ rfl
    have x3 := bx.cell 3 _ rfl
    have x4 := bx.cell 4 _ rfl
    have x5 := bx.cell 5 _ rfl
    have x6 := bx.cell 6 _ rfl
    have x7 := bx.cell 7 _ rfl
    have x8 := bx.cell 8 _ rfl
    have x9 := bx.cell 9 _ rfl
    have x10 := bx.cell 10 _ rfl
    have f0 := bx.frozen 0
    have f1 := bx.frozen 1
    have f2 := bx.frozen 2
    have f3 := bx.frozen 3
    have f4 := bx.frozen 4
    have f5 := bx.frozen 5
    have f6 := bx.frozen 6
    have f7 := bx.frozen 7
    have f8 := bx.frozen 8
    have f9 := bx.frozen 9
    have f10 := bx.frozen 10
    clear bx
    go_wp2_with fail
    have HT : Hid (TurnAt _ b B ⟨R.me, ⟨M.view, M.view, true, M.log, CM⟩, R.hav, R.wants, R.gives, R.given⟩ L ∧ Beside w0.heap.size b w0 _) := turn_kept HX.out HO.out HM.out (below_drewN (m + m2) HB2.out) (by have := HS0.out; omega) ⟨M.view, M.view, true, M.log, CM⟩ (.slice a2 M.log.length c2) (own_drewN _ HO2.out) _ rfl
    simp only [setAll] at HT
    clear x0 x1 x2 x3 x4 x5 x6 x7 x8 x9 x10 f0 f1 f2 f3 f4 f5 f6 f7 f8 f9 f10
    refine (forget_any b B _ L _ HT.out.1 (Nat.le_trans (by have := HS0.out; omega) HT.out.2.size)).mono ?_
    rintro e w3 ⟨rfl, ht3, hb3, _⟩
    have HE : Hid (TurnAt w3 b B (forgot ⟨R.me, ⟨M.view, M.view, true, M.log, min R.kept.commit M.log.length⟩, [], [], [], []⟩) L ∧ Beside w.heap.size b w w3) := by
      refine ⟨?_, ((Beside.of HB0.out).trans (HT.out.2.mono (by have := HS0.out; omega))).trans (hb3.mono (Nat.le_trans (by have := HS0.out; omega) HT.out.2.size))⟩
      rw [← HCM.out]
      exact ht3
    clear ht3 hb3 HT
    go_wp2_with fail
    go_end0
    exact ⟨rfl, HE.out⟩

end Go.Proofs.YtmdgkjbiicaljagDoor
