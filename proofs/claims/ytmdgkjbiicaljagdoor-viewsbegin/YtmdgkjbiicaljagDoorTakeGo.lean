/- The program's own replica.Take. -/
import Derived.Test.YtmdgkjbiicaljagDoorHearGo
namespace Go.Proofs.YtmdgkjbiicaljagDoor
open Go.RowKit
set_option linter.unusedVariables false
set_option linter.unusedSimpArgs false

theorem own_grown {w w' : World} {base : Nat} {e : TypeId} {size : Nat} {v : Value} {n : Nat} {xs : List Value} {row : Option Nat} (h : w.ownsRow base e size v n xs) (hg : w.grownBy w' row) (hne : ∀ k, v.ownBlock = some k → some k ≠ row) : w'.ownsRow base e size v n xs := by
  have hl := own_lt h
  refine ⟨h.1, ?_⟩
  rcases h.2 with h2 | ⟨g, cap, cur, rfl, h3, hh, r⟩
  · exact Or.inl h2
  · exact Or.inr ⟨g, cap, cur, rfl, h3, by rw [hg.block g (hl g rfl) (Ne.symm (hne g rfl) |> Ne.symm)]; exact hh, r⟩
/-- An entry more. -/
theorem grown_log {w w' : World} {B : Nat} {R : ReplM} {vl vh vw vg vn vl' : Value} {ps : List (KeptM × Value)} (h : ReplOwn w B R vl vh vw vg vn ps) (hg : w.grownBy w' vl.ownBlock) (K : KeptM)
    (hn : w'.ownsRow B 9 1 vl' K.log.length (K.log.map enc)) (hat : vl'.ownBlock = vl.ownBlock ∨ vl'.ownBlock = some w.heap.size) : ReplOwn w' B ⟨R.me, K, R.hav, R.wants, R.gives, R.given⟩ vl' vh vw vg vn ps := by
  obtain ⟨h0, h1, h2, h3, h4, h5, h6, h7⟩ := h
  have ot : ∀ (e : TypeId) (s : Nat) (v : Value) (n : Nat) (xs : List Value), 9 ≠ e → w.ownsRow B e s v n xs → w'.ownsRow B e s v n xs := fun e s v n xs he r => own_grown r hg fun k hk q => own_types r h1 (Ne.symm he) q.symm hk
  refine ⟨h0, hn, ot _ _ _ _ _ (by decide) h2, ot _ _ _ _ _ (by decide) h3, ⟨ot _ _ _ _ _ (by decide) h4.1, fun p hp => own_grown (h4.2 p hp) hg fun k hk q => h7 p hp k q.symm hk⟩, ot _ _ _ _ _ (by decide) h5, h6, fun p hp k k1 k2 => ?_⟩
  rcases hat with e | e
  · exact h7 p hp k (e ▸ k1) k2
  · rw [e] at k1
    injection k1 with k1
    have := own_lt (h4.2 p hp) k k2
    omega
theorem take_fault (R : ReplM) (s : List UInt8) (h : ReplMay R) (hl : R.kept.log.length < 60) : keptFault ⟨R.kept.view, R.kept.normal, R.kept.calm, R.kept.log ++ [s], R.kept.commit⟩ = decE s := by
  have m := keptMay_of _ h.kept
  have hk := h.kept
  unfold keptFault at hk ⊢
  split at hk
  · rename_i hi
    have hi' : keptIn ⟨R.kept.view, R.kept.normal, R.kept.calm, R.kept.log ++ [s], R.kept.commit⟩ = true := hi
    rw [if_pos hi', if_neg (by simp only [List.length_append, List.length_singleton]; omega), if_pos ⟨m.c0, by have := m.c1; simp only [List.length_append, List.length_singleton]; omega⟩]
    rw [logE_snoc, if_pos (logE_zero _ m.log)]
  · omega

set_option maxRecDepth 4000 in
set_option maxHeartbeats 8000000 in
theorem takeGo_any (R : ReplM) (s : List UInt8) (v : Value) (w : World) (h : ReplAt w v R) (hf : ReplFits R) (hsl : s.length ≤ 140737488355328) :
    Calls Tryd.prog 9 #[v, .string ⟨s.toArray⟩] w fun e w' => Answers w e w' (takeR R s) (takeL R s) (takeE R s) := by
  have HC : Hid (∀ W, Below w.heap.size w W → Calls _ _ _ W _) := fun W hW => replCheck_any R _ W (h.below hW)
  have HLD : Hid (∀ W, Below w.heap.size w W → Calls _ _ _ W _) := fun W hW => leads_any R _ W (h.below hW)
  have HD : Hid (∀ W, Below w.heap.size w W → Calls _ _ _ W _) := fun W hW => replCopy_any R _ W (h.below hW) hf
  have NZ : Hid (¬ takeE R s = 0 → takeR R s = zeroRepl ∧ takeL R s = []) := fun hE => ⟨by unfold takeR; rw [if_neg hE], by unfold takeL; rw [if_neg hE]⟩
  have NY : Hid (takeE R s = 0 → takeR R s = takeR' R s ∧ takeL R s = ledBy (takeR' R s)) := fun hE => ⟨by unfold takeR; rw [if_pos hE], by unfold takeL; rw [if_pos hE]⟩
  have NE : Hid (takeE R s = if replFault R ≠ 0 then replFault R else if leads R = false then 14 else if 60 ≤ R.kept.log.length then 7 else decE s) := rfl
  have NM : Hid (replFault R = 0 → ReplMay R) := replMay_of R
  have HST : Hid (s.length ≤ 140737488355328) := hsl
  generalize takeE R s = EE at *
  generalize takeR R s = RR at *
  generalize takeL R s = LL at *
  obtain ⟨vl, vh, vw, vg, vn, rfl, hl, hh, hw, hg, hn⟩ := h
  obtain ⟨al, cl, rfl, _, _⟩ := hl
  obtain ⟨ah, ch, rfl, _, _⟩ := hh
  obtain ⟨aw, cw, rfl, _, _⟩ := hw
  obtain ⟨ag, cg, rfl, _, _⟩ := hg
  obtain ⟨an, cn, rfl, _, _⟩ := hn
  simp only [replCells] at *
  obtain ⟨b0, b1, hb⟩ := boxes2 w 30 30 [.int .i64 R.me, .int .i64 R.kept.view, .int .i64 R.kept.normal, .bool R.kept.calm, .slice al R.kept.log.length cl, .int .i64 R.kept.commit, .slice ah R.hav.length ch, .slice aw R.wants.length cw, .slice ag R.gives.length cg, .slice an R.given.length cn] [.int .i64 0, .int .i64 0, .int .i64 0, .bool false, .slice none 0 0, .int .i64 0, .slice none 0 0, .slice none 0 0, .slice none 0 0, .slice none 0 0]
  obtain ⟨w0, hw0⟩ : ∃ w0, w0 = (w.alloc (.cells #[.int .i64 R.me, .int .i64 R.kept.view, .int .i64 R.kept.normal, .bool R.kept.calm, .slice al R.kept.log.length cl, .int .i64 R.kept.commit, .slice ah R.hav.length ch, .slice aw R.wants.length cw, .slice ag R.gives.length cg, .slice an R.given.length cn] 30)).alloc (.cells #[.int .i64 0, .int .i64 0, .int .i64 0, .bool false, .slice none 0 0, .int .i64 0, .slice none 0 0, .slice none 0 0, .slice none 0 0, .slice none 0 0] 30) := ⟨_, rfl⟩
  have hsz : w0.heap.size = w.heap.size + 1 + 1 := by rw [hw0]; simp
  go_enter Tryd.func9, Tryd.ntmps9
  go_upto_region 1 with fail
  rw [← hw0] at b0 b1 hb ⊢
  clear hw0
  have HB0 : Hid (Box w0 w.heap.size _ _) := b0
  have HB1 : Hid (Box w0 (w.heap.size + 1) _ _) := b1
  have HBW : Hid (Below w.heap.size w w0) := hb
  have HSZ : Hid (w0.heap.size = w.heap.size + 1 + 1) := hsz
  have x0 := b0.cell 0 _ rfl
  have x1 := b0.cell 1 _ rfl
  have x2 := b0.cell 2 _ rfl
  have x3 := b0.cell 3 _ rfl
  have x4 := b0.cell 4 _ rfl
  have x5 := b0.cell 5 _ rfl
  have x6 := b0.cell 6 _ rfl
  have x7 := b0.cell 7 _ rfl
  have x8 := b0.cell 8 _ rfl
  have x9 := b0.cell 9 _ rfl
  clear b0 b1 hb hsz
  go_wp2_with fail
  refine (HC.out _ HBW.out).mono ?_
  rintro e w1 ⟨rfl, hb1⟩
  have HB2 : Hid (Below w0.heap.size w0 w1) := hb1
  have r0 := HB0.out.below hb1 HB0.out.lt
  have r1 := HB1.out.below hb1 HB1.out.lt
  clear hb1 x0 x1 x2 x3 x4 x5 x6 x7 x8 x9 HC
  have x0 := r0.cell 0 _ rfl
  have x1 := r0.cell 1 _ rfl
  have x2 := r0.cell 2 _ rfl
  have x3 := r0.cell 3 _ rfl
  have x4 := r0.cell 4 _ rfl
  have x5 := r0.cell 5 _ rfl
  have x6 := r0.cell 6 _ rfl
  have x7 := r0.cell 7 _ rfl
  have x8 := r0.cell 8 _ rfl
  have x9 := r0.cell 9 _ rfl
  have y0 := r1.cell 0 _ rfl
  have y1 := r1.cell 1 _ rfl
  have y2 := r1.cell 2 _ rfl
  have y3 := r1.cell 3 _ rfl
  have y4 := r1.cell 4 _ rfl
  have y5 := r1.cell 5 _ rfl
  have y6 := r1.cell 6 _ rfl
  have y7 := r1.cell 7 _ rfl
  have y8 := r1.cell 8 _ rfl
  have y9 := r1.cell 9 _ rfl
  have f0 := r1.frozen 0
  have f1 := r1.frozen 1
  have f2 := r1.frozen 2
  have f3 := r1.frozen 3
  have f4 := r1.frozen 4
  have f5 := r1.frozen 5
  have f6 := r1.frozen 6
  have f7 := r1.frozen 7
  have f8 := r1.frozen 8
  have f9 := r1.frozen 9
  have HR1 : Hid (Box w1 (w.heap.size + 1) _ _) := r1
  have HR0 : Hid (Box w1 w.heap.size _ _) := r0
  have HBE : Hid (Below w.heap.size w w1) := Below.far HBW.out HB2.out
  clear r0 r1
  have HFT : Hid (ReplFits R) := hf
  clear hf hsl
  by_cases hE : replFault R = 0
  case neg =>
    have HEE : Hid (EE = replFault R) := by unfold Hid; rw [NE.out, if_pos hE]
    obtain ⟨e2, e3⟩ := NZ.out (by rw [HEE.out]; exact hE)
    subst e2 e3
    have hEE : ¬ EE = 0 := by rw [HEE.out]; exact hE
    rw [← HEE.out]
    clear NZ NY NE NM HD HLD hE HEE
    go_wp2_with fail
    have key : ∀ w4, w4 = setAll w1 (w.heap.size + 1) 0 [.int .i64 0, .int .i64 0, .int .i64 0, .bool false, .slice none 0 0, .int .i64 0, .slice none 0 0, .slice none 0 0, .slice none 0 0, .slice none 0 0] → Hid (Box w4 (w.heap.size + 1) 30 [.int .i64 0, .int .i64 0, .int .i64 0, .bool false, .slice none 0 0, .int .i64 0, .slice none 0 0, .slice none 0 0, .slice none 0 0, .slice none 0 0] ∧ Below w.heap.size w w4) := by
      intro w4 e4
      subst e4
      exact ⟨setAll_box HR1.out _ rfl, (setAll_beside _ _ _ _ (Beside.of HBE.out)).below (Nat.le_refl _) (by omega)⟩
    have key := key _ rfl
    simp only [setAll] at key
    generalize ((((((((((w1.setCell ⟨w.heap.size + 1, 0, none⟩ (.int .i64 0)).setCell ⟨w.heap.size + 1, 1, none⟩ (.int .i64 0)).setCell ⟨w.heap.size + 1, 2, none⟩ (.int .i64 0)).setCell ⟨w.heap.size + 1, 3, none⟩ (.bool false)).setCell ⟨w.heap.size + 1, 4, none⟩ (.slice none 0 0)).setCell ⟨w.heap.size + 1, 5, none⟩ (.int .i64 0)).setCell ⟨w.heap.size + 1, 6, none⟩ (.slice none 0 0)).setCell ⟨w.heap.size + 1, 7, none⟩ (.slice none 0 0)).setCell ⟨w.heap.size + 1, 8, none⟩ (.slice none 0 0)).setCell ⟨w.heap.size + 1, 9, none⟩ (.slice none 0 0)) = w4 at key ⊢
    clear y0 y1 y2 y3 y4 y5 y6 y7 y8 y9 f0 f1 f2 f3 f4 f5 f6 f7 f8 f9
    have hR := key.out.1
    have y0 := hR.cell 0 _ rfl
    have y1 := hR.cell 1 _ rfl
    have y2 := hR.cell 2 _ rfl
    have y3 := hR.cell 3 _ rfl
    have y4 := hR.cell 4 _ rfl
    have y5 := hR.cell 5 _ rfl
    have y6 := hR.cell 6 _ rfl
    have y7 := hR.cell 7 _ rfl
    have y8 := hR.cell 8 _ rfl
    have y9 := hR.cell 9 _ rfl
    clear hR
    exact bodyPost_ret (v := .tuple #[.agg #[.int .i64 0, .int .i64 0, .int .i64 0, .bool false, .slice none 0 0, .int .i64 0, .slice none 0 0, .slice none 0 0, .slice none 0 0, .slice none 0 0], .slice none 0 0, .int .i64 EE]) (by clear key HR1 HBE; simp [results, Tryd.results9, go_sem, *]) rfl ⟨_, _, rfl, replNil _ _, msgsNil _ _, key.out.2⟩
  have hmay := NM.out hE
  have HMY : Hid (ReplMay R) := hmay
  rw [hE]
  clear y0 y1 y2 y3 y4 y5 y6 y7 y8 y9 f0 f1 f2 f3 f4 f5 f6 f7 f8 f9 hmay NM
  go_wp2_with fail
  refine (HLD.out _ HBE.out).mono ?_
  rintro e w1b ⟨rfl, hb1⟩
  have r0 := HR0.out.below hb1 HR0.out.lt
  have r1 := HR1.out.below hb1 HR1.out.lt
  have HB2b : Hid (Below w1.heap.size w1 w1b) := hb1
  have HR1b : Hid (Box w1b (w.heap.size + 1) _ _) := r1
  have HR0b : Hid (Box w1b w.heap.size _ _) := r0
  have HBEb : Hid (Below w.heap.size w w1b) := Below.far HBE.out hb1
  clear hb1 x0 x1 x2 x3 x4 x5 x6 x7 x8 x9 HLD
  have x0 := r0.cell 0 _ rfl
  have x1 := r0.cell 1 _ rfl
  have x2 := r0.cell 2 _ rfl
  have x3 := r0.cell 3 _ rfl
  have x4 := r0.cell 4 _ rfl
  have x5 := r0.cell 5 _ rfl
  have x6 := r0.cell 6 _ rfl
  have x7 := r0.cell 7 _ rfl
  have x8 := r0.cell 8 _ rfl
  have x9 := r0.cell 9 _ rfl
  have y0 := r1.cell 0 _ rfl
  have y1 := r1.cell 1 _ rfl
  have y2 := r1.cell 2 _ rfl
  have y3 := r1.cell 3 _ rfl
  have y4 := r1.cell 4 _ rfl
  have y5 := r1.cell 5 _ rfl
  have y6 := r1.cell 6 _ rfl
  have y7 := r1.cell 7 _ rfl
  have y8 := r1.cell 8 _ rfl
  have y9 := r1.cell 9 _ rfl
  have f0 := r1.frozen 0
  have f1 := r1.frozen 1
  have f2 := r1.frozen 2
  have f3 := r1.frozen 3
  have f4 := r1.frozen 4
  have f5 := r1.frozen 5
  have f6 := r1.frozen 6
  have f7 := r1.frozen 7
  have f8 := r1.frozen 8
  have f9 := r1.frozen 9
  clear r0 r1
  by_cases hl : leads R = true
  case neg =>
    have hl' : leads R = false := by simpa using hl
    have HEE : Hid (EE = 14) := by unfold Hid; rw [NE.out, if_neg (by simpa using hE), if_pos hl']
    obtain ⟨e2, e3⟩ := NZ.out (by rw [HEE.out]; decide)
    subst e2 e3
    rw [hl']
    obtain rfl : EE = 14 := HEE.out
    clear NZ NY NE HD hE HEE hl hl' HR1 HR0
    go_wp2_with fail
    have key : ∀ w4, w4 = setAll w1b (w.heap.size + 1) 0 [.int .i64 0, .int .i64 0, .int .i64 0, .bool false, .slice none 0 0, .int .i64 0, .slice none 0 0, .slice none 0 0, .slice none 0 0, .slice none 0 0] → Hid (Box w4 (w.heap.size + 1) 30 [.int .i64 0, .int .i64 0, .int .i64 0, .bool false, .slice none 0 0, .int .i64 0, .slice none 0 0, .slice none 0 0, .slice none 0 0, .slice none 0 0] ∧ Below w.heap.size w w4) := by
      intro w4 e4
      subst e4
      exact ⟨setAll_box HR1b.out _ rfl, (setAll_beside _ _ _ _ (Beside.of HBEb.out)).below (Nat.le_refl _) (by omega)⟩
    have key := key _ rfl
    simp only [setAll] at key
    generalize ((((((((((w1b.setCell ⟨w.heap.size + 1, 0, none⟩ (.int .i64 0)).setCell ⟨w.heap.size + 1, 1, none⟩ (.int .i64 0)).setCell ⟨w.heap.size + 1, 2, none⟩ (.int .i64 0)).setCell ⟨w.heap.size + 1, 3, none⟩ (.bool false)).setCell ⟨w.heap.size + 1, 4, none⟩ (.slice none 0 0)).setCell ⟨w.heap.size + 1, 5, none⟩ (.int .i64 0)).setCell ⟨w.heap.size + 1, 6, none⟩ (.slice none 0 0)).setCell ⟨w.heap.size + 1, 7, none⟩ (.slice none 0 0)).setCell ⟨w.heap.size + 1, 8, none⟩ (.slice none 0 0)).setCell ⟨w.heap.size + 1, 9, none⟩ (.slice none 0 0)) = w4 at key ⊢
    clear y0 y1 y2 y3 y4 y5 y6 y7 y8 y9 f0 f1 f2 f3 f4 f5 f6 f7 f8 f9
    have hR := key.out.1
    have y0 := hR.cell 0 _ rfl
    have y1 := hR.cell 1 _ rfl
    have y2 := hR.cell 2 _ rfl
    have y3 := hR.cell 3 _ rfl
    have y4 := hR.cell 4 _ rfl
    have y5 := hR.cell 5 _ rfl
    have y6 := hR.cell 6 _ rfl
    have y7 := hR.cell 7 _ rfl
    have y8 := hR.cell 8 _ rfl
    have y9 := hR.cell 9 _ rfl
    clear hR
    exact bodyPost_ret (v := .tuple #[.agg #[.int .i64 0, .int .i64 0, .int .i64 0, .bool false, .slice none 0 0, .int .i64 0, .slice none 0 0, .slice none 0 0, .slice none 0 0, .slice none 0 0], .slice none 0 0, .int .i64 14]) (by clear key HR1b HBEb; simp [results, Tryd.results9, go_sem, *]) rfl ⟨_, _, rfl, replNil _ _, msgsNil _ _, key.out.2⟩
  by_cases hlen : R.kept.log.length < 60
  case neg =>
    have HEE : Hid (EE = 7) := by unfold Hid; rw [NE.out, if_neg (by simpa using hE), if_neg (by simp [hl]), if_pos (by omega)]
    have hq : R.kept.log.length = 60 := by have := (keptMay_of _ HMY.out.kept).len; omega
    have q : ((R.kept.log.length : Int) == 60) = true := by rw [hq]; rfl
    obtain ⟨e2, e3⟩ := NZ.out (by rw [HEE.out]; decide)
    subst e2 e3
    rw [hl]
    obtain rfl : EE = 7 := HEE.out
    clear NZ NY NE HD hE HEE hl HR1 HR0 hq hlen
    go_wp2_with fail
    have key : ∀ w4, w4 = setAll w1b (w.heap.size + 1) 0 [.int .i64 0, .int .i64 0, .int .i64 0, .bool false, .slice none 0 0, .int .i64 0, .slice none 0 0, .slice none 0 0, .slice none 0 0, .slice none 0 0] → Hid (Box w4 (w.heap.size + 1) 30 [.int .i64 0, .int .i64 0, .int .i64 0, .bool false, .slice none 0 0, .int .i64 0, .slice none 0 0, .slice none 0 0, .slice none 0 0, .slice none 0 0] ∧ Below w.heap.size w w4) := by
      intro w4 e4
      subst e4
      exact ⟨setAll_box HR1b.out _ rfl, (setAll_beside _ _ _ _ (Beside.of HBEb.out)).below (Nat.le_refl _) (by omega)⟩
    have key := key _ rfl
    simp only [setAll] at key
    generalize ((((((((((w1b.setCell ⟨w.heap.size + 1, 0, none⟩ (.int .i64 0)).setCell ⟨w.heap.size + 1, 1, none⟩ (.int .i64 0)).setCell ⟨w.heap.size + 1, 2, none⟩ (.int .i64 0)).setCell ⟨w.heap.size + 1, 3, none⟩ (.bool false)).setCell ⟨w.heap.size + 1, 4, none⟩ (.slice none 0 0)).setCell ⟨w.heap.size + 1, 5, none⟩ (.int .i64 0)).setCell ⟨w.heap.size + 1, 6, none⟩ (.slice none 0 0)).setCell ⟨w.heap.size + 1, 7, none⟩ (.slice none 0 0)).setCell ⟨w.heap.size + 1, 8, none⟩ (.slice none 0 0)).setCell ⟨w.heap.size + 1, 9, none⟩ (.slice none 0 0)) = w4 at key ⊢
    clear y0 y1 y2 y3 y4 y5 y6 y7 y8 y9 f0 f1 f2 f3 f4 f5 f6 f7 f8 f9
    have hR := key.out.1
    have y0 := hR.cell 0 _ rfl
    have y1 := hR.cell 1 _ rfl
    have y2 := hR.cell 2 _ rfl
    have y3 := hR.cell 3 _ rfl
    have y4 := hR.cell 4 _ rfl
    have y5 := hR.cell 5 _ rfl
    have y6 := hR.cell 6 _ rfl
    have y7 := hR.cell 7 _ rfl
    have y8 := hR.cell 8 _ rfl
    have y9 := hR.cell 9 _ rfl
    clear hR
    exact bodyPost_ret (v := .tuple #[.agg #[.int .i64 0, .int .i64 0, .int .i64 0, .bool false, .slice none 0 0, .int .i64 0, .slice none 0 0, .slice none 0 0, .slice none 0 0, .slice none 0 0], .slice none 0 0, .int .i64 7]) (by clear key HR1b HBEb; simp [results, Tryd.results9, go_sem, *]) rfl ⟨_, _, rfl, replNil _ _, msgsNil _ _, key.out.2⟩
  have HEE : Hid (EE = decE s) := by unfold Hid; rw [NE.out, if_neg (by simpa using hE), if_neg (by simp [hl]), if_neg (by omega)]
  have q : ((R.kept.log.length : Int) == 60) = false := by
    have : ¬ (R.kept.log.length : Int) = 60 := by omega
    simpa using this
  have HTF : Hid (keptFault ⟨R.kept.view, R.kept.normal, R.kept.calm, R.kept.log ++ [s], R.kept.commit⟩ = EE) := by
    unfold Hid; rw [HEE.out]; exact take_fault R s HMY.out hlen
  rw [hl]
  have HLN : Hid (R.kept.log.length < 60) := hlen
  clear NE HEE hE hl hlen HR1 HR0 y0 y1 y2 y3 y4 y5 y6 y7 y8 y9 f0 f1 f2 f3 f4 f5 f6 f7 f8 f9
  go_wp2_with fail
  refine (HD.out _ HBEb.out).mono ?_
  rintro e w2 ⟨v2, rfl, ⟨vl2, vh2, vw2, vg2, vn2, ps2, rfl, ho2⟩, hb2⟩
  obtain ⟨al2, cl2, ah2, ch2, aw2, cw2, ag2, cg2, an2, cn2, rfl, rfl, rfl, rfl, rfl⟩ := ho2.forms
  simp only [replCells]
  have r1 := HR1b.out.below hb2 HR1b.out.lt
  obtain ⟨w3, hw3⟩ : ∃ w3, w3 = w2.alloc (.cells #[.int .i64 R.me, .int .i64 R.kept.view, .int .i64 R.kept.normal, .bool R.kept.calm, .slice al2 R.kept.log.length cl2, .int .i64 R.kept.commit, .slice ah2 R.hav.length ch2, .slice aw2 R.wants.length cw2, .slice ag2 R.gives.length cg2, .slice an2 R.given.length cn2, .slice none 0 0] 68) := ⟨_, rfl⟩
  have hs0 := HSZ.out
  have hs1 := HB2.out.size
  have hs1b := HB2b.out.size
  have hs2 := hb2.size
  obtain ⟨ht3, hx3, ho3, hb3, hs3⟩ := turn_new ho2 (B' := w.heap.size + 2) (by omega) w3 hw3
  have HO3 : Hid (ReplOwn w3 (w.heap.size + 2) R _ _ _ _ _ _) := ho3
  have HX3 : Hid (Box w3 w2.heap.size _ _) := hx3
  have HBB : Hid (Below w.heap.size w w3) := Below.far (Below.far HBEb.out hb2) hb3
  have HQ1 : Hid (Box w3 (w.heap.size + 1) _ _) := r1.below hb3 (by omega)
  have HS3 : Hid (w.heap.size + 2 ≤ w2.heap.size ∧ w3.heap.size = w2.heap.size + 1) := ⟨by omega, hs3⟩
  have z0 := hx3.cell 0 _ rfl
  have z1 := hx3.cell 1 _ rfl
  have z2 := hx3.cell 2 _ rfl
  have z3 := hx3.cell 3 _ rfl
  have z4 := hx3.cell 4 _ rfl
  have z5 := hx3.cell 5 _ rfl
  have z6 := hx3.cell 6 _ rfl
  have z7 := hx3.cell 7 _ rfl
  have z8 := hx3.cell 8 _ rfl
  have z9 := hx3.cell 9 _ rfl
  have z10 := hx3.cell 10 _ rfl
  clear ht3 hx3 ho3 hb3 hs3 r1 ho2 hb2 x0 x1 x2 x3 x4 x5 x6 x7 x8 x9 HD hs0 hs1 hs1b hs2 HR1b HR0b
  go_upto_region 9 with fail
  rw [← hw3]
  clear hw3
  go_wp2_with (at_builtin; refine wpList_append_row _ rfl _ _ 23 rfl (w.heap.size + 2) 9 Tryd.t9 _ 1 16 Tryd.underlying23 infoStr zeroStr sizeStr bytesStr rfl (by decide) _ R.kept.log.length (R.kept.log.map enc) rfl (own_below HO3.out.2.1 (below_alloc w3 _) (own_lt HO3.out.2.1)) _ 1 [.string ⟨s.toArray⟩] rfl (RowAt.one _ _ _) (by simp [Value.oneCell']) (by have := HLN.out; unfold maxLen; omega) (by have := HLN.out; omega) ?_ ?_)
  · have := HS3.out
    simp <;> omega
  intro v7 u4 hown4 hg4 hat4
  obtain ⟨a4, c4, hv7⟩ := own_form hown4
  subst hv7
  have e3 : (w3.alloc (.cells #[.string ⟨s.toArray⟩] 9)).heap.size = w3.heap.size + 1 := by simp
  have b3 : Below w3.heap.size w3 (w3.alloc (.cells #[.string ⟨s.toArray⟩] 9)) := below_alloc _ _
  have hx4 : Box u4 w2.heap.size _ _ := (HX3.out.below b3 HX3.out.lt).grown hg4 (own_type HO3.out.2.1 HX3.out (by decide))
  have hown4' : u4.ownsRow (w.heap.size + 2) 9 1 (.slice a4 (R.kept.log.length + 1) c4) (takeR' R s).kept.log.length ((takeR' R s).kept.log.map enc) := by
    show u4.ownsRow _ _ _ _ (R.kept.log ++ [s]).length ((R.kept.log ++ [s]).map enc)
    rw [List.length_append, List.map_append]
    exact hown4
  have ho4 := grown_log (HO3.out.below b3) hg4 (takeR' R s).kept hown4' (by rw [e3]; exact hat4)
  have bu : Below w.heap.size w u4 := by
    refine (Below.far HBB.out b3).trans ⟨hg4.os, hg4.tape, hg4.output, hg4.size, fun k hk => hg4.block k (by have := HBB.out.size; rw [e3]; omega) (fun e => by have := own_ge HO3.out.2.1 k e.symm; omega)⟩
  have hq1 : Box u4 (w.heap.size + 1) _ _ := (HQ1.out.below b3 HQ1.out.lt).grown hg4 (fun e => by have := own_ge HO3.out.2.1 _ e; omega)
  have hsu : w3.heap.size + 1 ≤ u4.heap.size := by have := hg4.size; rw [e3] at this; exact this
  have hs3 := HS3.out
  have x4 := hx4.cell 4 _ rfl
  have g4 := hx4.frozen 4
  have HT5 : Hid (TurnAt (u4.setCell ⟨w2.heap.size, 4, none⟩ (.slice a4 (R.kept.log.length + 1) c4)) w2.heap.size (w.heap.size + 2) (takeR' R s) []) := by
    refine ⟨_, _, _, _, _, _, _, ?_, ho4.type hx4 (by decide) (by decide) (by decide) (by decide) 4 (.slice a4 (R.kept.log.length + 1) c4), msgsNil _ _⟩
    exact hx4.set 4 (.slice a4 (R.kept.log.length + 1) c4)
  have HX5 : Hid (Box (u4.setCell ⟨w2.heap.size, 4, none⟩ (.slice a4 (R.kept.log.length + 1) c4)) w2.heap.size 68 [.int .i64 R.me, .int .i64 R.kept.view, .int .i64 R.kept.normal, .bool R.kept.calm, .slice a4 (R.kept.log.length + 1) c4, .int .i64 R.kept.commit, .slice ah2 R.hav.length ch2, .slice aw2 R.wants.length cw2, .slice ag2 R.gives.length cg2, .slice an2 R.given.length cn2, .slice none 0 0]) := hx4.set 4 (.slice a4 (R.kept.log.length + 1) c4)
  have HK5 : Hid (KeptAt (u4.setCell ⟨w2.heap.size, 4, none⟩ (.slice a4 (R.kept.log.length + 1) c4)) (.agg #[.int .i64 R.kept.view, .int .i64 R.kept.normal, .bool R.kept.calm, .slice a4 (R.kept.log.length + 1) c4, .int .i64 R.kept.commit]) (takeR' R s).kept) := by
    have r := own_other (a := ⟨w2.heap.size, 4, none⟩) hown4' (own_type hown4' hx4 (by decide)) (.slice a4 (R.kept.log.length + 1) c4)
    refine ⟨_, rfl, Strs.of_own r ?_ ?_⟩
    · have := HLN.out
      simp only [takeR', List.length_append, List.length_singleton]
      omega
    · intro t ht
      rcases List.mem_append.1 ht with e | e
      · exact HFT.out.log.2 t e
      · rw [List.mem_singleton.1 e]; exact HST.out
  have HB5 : Hid (Below w.heap.size w (u4.setCell ⟨w2.heap.size, 4, none⟩ (.slice a4 (R.kept.log.length + 1) c4))) := bu.setCell (p := ⟨w2.heap.size, 4, none⟩) (by simp only; omega) _
  have HQ5 : Hid (Box (u4.setCell ⟨w2.heap.size, 4, none⟩ (.slice a4 (R.kept.log.length + 1) c4)) (w.heap.size + 1) _ _) := hq1.other (a := ⟨w2.heap.size, 4, none⟩) _ (by simp only; omega)
  have HS5 : Hid (w.heap.size + 2 ≤ w2.heap.size ∧ w2.heap.size + 1 ≤ (u4.setCell ⟨w2.heap.size, 4, none⟩ (.slice a4 (R.kept.log.length + 1) c4)).heap.size) := ⟨by omega, by simp; omega⟩
  clear hown4 hg4 hat4 e3 b3 hx4 hown4' ho4 bu hq1 hsu hs3 z0 z1 z2 z3 z4 z5 z6 z7 z8 z9 z10
  go_upto_region 10 with fail
  generalize hu5 : World.setCell u4 _ _ = u5 at HT5 HX5 HK5 HB5 HQ5 HS5 ⊢
  clear hu5 x4 g4 HX3 HO3 HBB HQ1 HS3
  have hx5 := HX5.out
  have z0 := hx5.cell 0 _ rfl
  have z1 := hx5.cell 1 _ rfl
  have z2 := hx5.cell 2 _ rfl
  have z3 := hx5.cell 3 _ rfl
  have z4 := hx5.cell 4 _ rfl
  have z5 := hx5.cell 5 _ rfl
  have z6 := hx5.cell 6 _ rfl
  have z7 := hx5.cell 7 _ rfl
  have z8 := hx5.cell 8 _ rfl
  have z9 := hx5.cell 9 _ rfl
  have z10 := hx5.cell 10 _ rfl
  clear hx5
  have HCK : Hid (Calls _ _ _ u5 _) := stageCheck_any (takeR' R s).kept _ u5 HK5.out
  have hEE2 : keptFault (takeR' R s).kept = EE := HTF.out
  rw [hEE2] at HCK
  clear hEE2 HTF
  go_wp2_with fail
  refine HCK.out.mono ?_
  rintro e w6 ⟨rfl, hb6⟩
  have HT6 : Hid (TurnAt w6 w2.heap.size (w.heap.size + 2) (takeR' R s) []) := turn_below HT5.out hb6
  have HBB : Hid (Below w.heap.size w w6) := Below.far HB5.out hb6
  have HQ1 : Hid (Box w6 (w.heap.size + 1) _ _) := HQ5.out.below hb6 HQ5.out.lt
  have HS3 : Hid (w.heap.size + 2 ≤ w2.heap.size ∧ w2.heap.size + 1 ≤ w6.heap.size) := ⟨HS5.out.1, Nat.le_trans HS5.out.2 hb6.size⟩
  clear hb6 HT5 HX5 HK5 HB5 HQ5 HS5 HCK z0 z1 z2 z3 z4 z5 z6 z7 z8 z9 z10
  by_cases hE : EE = 0
  · obtain ⟨e1, e2⟩ := NY.out hE
    have HRL : Hid (RR = takeR' R s ∧ LL = ledBy (takeR' R s)) := ⟨e1, e2⟩
    subst hE
    clear NY NZ e1 e2
    go_wp2_with fail
    refine (leadOn_any _ _ (takeR' R s) [] w6 HT6.out (by have := HLN.out; simp only [takeR', List.length_append, List.length_singleton]; omega) (by simp) (by have := HS3.out; omega)).mono ?_
    rintro e w4 ⟨rfl, ht4, hb4⟩
    have ht4 : TurnAt w4 w2.heap.size (w.heap.size + 2) RR LL := by rw [HRL.out.1, HRL.out.2]; exact ht4
    obtain ⟨vl4, vh4, vw4, vg4, vn4, vs4, ps4, hx4, ho4, hm4⟩ := ht4
    obtain ⟨al4, cl4, ah4, ch4, aw4, cw4, ag4, cg4, an4, cn4, rfl, rfl, rfl, rfl, rfl⟩ := ho4.forms
    obtain ⟨as4, cs4, rfl⟩ := hm4.form
    have r1 := HQ1.out.beside hb4 (by omega) (by have := HS3.out; omega)
    have HK5 : Hid _ := turn_out (w := w) ho4 hm4 r1 rfl (by omega) (by omega) (HBB.out.trans (hb4.below (by omega) (by have := HS3.out; omega))) _ rfl
    simp only [setAll] at HK5
    have ne4 : ¬ w2.heap.size = w.heap.size + 1 := by have := HS3.out; omega
    have ne5 : ¬ w.heap.size + 1 = w2.heap.size := by have := HS3.out; omega
    have x0 := hx4.cell 0 _ rfl
    have x1 := hx4.cell 1 _ rfl
    have x2 := hx4.cell 2 _ rfl
    have x3 := hx4.cell 3 _ rfl
    have x4 := hx4.cell 4 _ rfl
    have x5 := hx4.cell 5 _ rfl
    have x6 := hx4.cell 6 _ rfl
    have x7 := hx4.cell 7 _ rfl
    have x8 := hx4.cell 8 _ rfl
    have x9 := hx4.cell 9 _ rfl
    have x10 := hx4.cell 10 _ rfl
    have y0 := r1.cell 0 _ rfl
    have y1 := r1.cell 1 _ rfl
    have y2 := r1.cell 2 _ rfl
    have y3 := r1.cell 3 _ rfl
    have y4 := r1.cell 4 _ rfl
    have y5 := r1.cell 5 _ rfl
    have y6 := r1.cell 6 _ rfl
    have y7 := r1.cell 7 _ rfl
    have y8 := r1.cell 8 _ rfl
    have y9 := r1.cell 9 _ rfl
    have f0 := r1.frozen 0
    have f1 := r1.frozen 1
    have f2 := r1.frozen 2
    have f3 := r1.frozen 3
    have f4 := r1.frozen 4
    have f5 := r1.frozen 5
    have f6 := r1.frozen 6
    have f7 := r1.frozen 7
    have f8 := r1.frozen 8
    have f9 := r1.frozen 9
    clear hx4 ho4 hm4 r1 hb4
    go_upto_region 14 with fail
    go_region
    generalize (((((((((((w4.setCell ⟨w.heap.size + 1, 0, none⟩ (.int .i64 (RR).me)).setCell ⟨w.heap.size + 1, 1, none⟩ (.int .i64 (RR).kept.view)).setCell ⟨w.heap.size + 1, 2, none⟩ (.int .i64 (RR).kept.normal)).setCell ⟨w.heap.size + 1, 3, none⟩ (.bool (RR).kept.calm)).setCell ⟨w.heap.size + 1, 4, none⟩ (.slice al4 (RR).kept.log.length cl4)).setCell ⟨w.heap.size + 1, 5, none⟩ (.int .i64 (RR).kept.commit)).setCell ⟨w.heap.size + 1, 6, none⟩ (.slice ah4 (RR).hav.length ch4)).setCell ⟨w.heap.size + 1, 7, none⟩ (.slice aw4 (RR).wants.length cw4)).setCell ⟨w.heap.size + 1, 8, none⟩ (.slice ag4 (RR).gives.length cg4)).setCell ⟨w.heap.size + 1, 9, none⟩ (.slice an4 (RR).given.length cn4))).drew = w5 at HK5 ⊢
    have hR := HK5.out.1
    clear x0 x1 x2 x3 x4 x5 x6 x7 x8 x9 x10 y0 f0 y1 f1 y2 f2 y3 f3 y4 f4 y5 f5 y6 f6 y7 f7 y8 f8 y9 f9
    have y0 := hR.cell 0 _ rfl
    have y1 := hR.cell 1 _ rfl
    have y2 := hR.cell 2 _ rfl
    have y3 := hR.cell 3 _ rfl
    have y4 := hR.cell 4 _ rfl
    have y5 := hR.cell 5 _ rfl
    have y6 := hR.cell 6 _ rfl
    have y7 := hR.cell 7 _ rfl
    have y8 := hR.cell 8 _ rfl
    have y9 := hR.cell 9 _ rfl
    clear hR
    go_wp2_with fail
    exact bodyPost_ret (v := .tuple #[.agg #[.int .i64 (RR).me, .int .i64 (RR).kept.view, .int .i64 (RR).kept.normal, .bool (RR).kept.calm, .slice al4 (RR).kept.log.length cl4, .int .i64 (RR).kept.commit, .slice ah4 (RR).hav.length ch4, .slice aw4 (RR).wants.length cw4, .slice ag4 (RR).gives.length cg4, .slice an4 (RR).given.length cn4], .slice as4 LL.length cs4, .int .i64 0]) (by clear HK5; simp [results, Tryd.results9, go_sem, *]) rfl ⟨_, _, rfl, HK5.out.2⟩
  · obtain ⟨e2, e3⟩ := NZ.out hE
    subst e2 e3
    have hEE : ¬ EE = 0 := hE
    have r1 := HQ1.out
    have y0 := r1.cell 0 _ rfl
    have y1 := r1.cell 1 _ rfl
    have y2 := r1.cell 2 _ rfl
    have y3 := r1.cell 3 _ rfl
    have y4 := r1.cell 4 _ rfl
    have y5 := r1.cell 5 _ rfl
    have y6 := r1.cell 6 _ rfl
    have y7 := r1.cell 7 _ rfl
    have y8 := r1.cell 8 _ rfl
    have y9 := r1.cell 9 _ rfl
    have f0 := r1.frozen 0
    have f1 := r1.frozen 1
    have f2 := r1.frozen 2
    have f3 := r1.frozen 3
    have f4 := r1.frozen 4
    have f5 := r1.frozen 5
    have f6 := r1.frozen 6
    have f7 := r1.frozen 7
    have f8 := r1.frozen 8
    have f9 := r1.frozen 9
    clear NZ NY r1 hE HT6
    go_wp2_with fail
    have key : ∀ w4, w4 = setAll w6 (w.heap.size + 1) 0 [.int .i64 0, .int .i64 0, .int .i64 0, .bool false, .slice none 0 0, .int .i64 0, .slice none 0 0, .slice none 0 0, .slice none 0 0, .slice none 0 0] → Hid (Box w4 (w.heap.size + 1) 30 [.int .i64 0, .int .i64 0, .int .i64 0, .bool false, .slice none 0 0, .int .i64 0, .slice none 0 0, .slice none 0 0, .slice none 0 0, .slice none 0 0] ∧ Below w.heap.size w w4) := by
      intro w4 e4
      subst e4
      exact ⟨setAll_box HQ1.out _ rfl, (setAll_beside _ _ _ _ (Beside.of HBB.out)).below (Nat.le_refl _) (by omega)⟩
    have key := key _ rfl
    simp only [setAll] at key
    generalize ((((((((((w6.setCell ⟨w.heap.size + 1, 0, none⟩ (.int .i64 0)).setCell ⟨w.heap.size + 1, 1, none⟩ (.int .i64 0)).setCell ⟨w.heap.size + 1, 2, none⟩ (.int .i64 0)).setCell ⟨w.heap.size + 1, 3, none⟩ (.bool false)).setCell ⟨w.heap.size + 1, 4, none⟩ (.slice none 0 0)).setCell ⟨w.heap.size + 1, 5, none⟩ (.int .i64 0)).setCell ⟨w.heap.size + 1, 6, none⟩ (.slice none 0 0)).setCell ⟨w.heap.size + 1, 7, none⟩ (.slice none 0 0)).setCell ⟨w.heap.size + 1, 8, none⟩ (.slice none 0 0)).setCell ⟨w.heap.size + 1, 9, none⟩ (.slice none 0 0)) = w4 at key ⊢
    clear y0 y1 y2 y3 y4 y5 y6 y7 y8 y9 f0 f1 f2 f3 f4 f5 f6 f7 f8 f9
    have hR := key.out.1
    have y0 := hR.cell 0 _ rfl
    have y1 := hR.cell 1 _ rfl
    have y2 := hR.cell 2 _ rfl
    have y3 := hR.cell 3 _ rfl
    have y4 := hR.cell 4 _ rfl
    have y5 := hR.cell 5 _ rfl
    have y6 := hR.cell 6 _ rfl
    have y7 := hR.cell 7 _ rfl
    have y8 := hR.cell 8 _ rfl
    have y9 := hR.cell 9 _ rfl
    clear hR
    exact bodyPost_ret (v := .tuple #[.agg #[.int .i64 0, .int .i64 0, .int .i64 0, .bool false, .slice none 0 0, .int .i64 0, .slice none 0 0, .slice none 0 0, .slice none 0 0, .slice none 0 0], .slice none 0 0, .int .i64 EE]) (by clear key HQ1 HBB; simp [results, Tryd.results9, go_sem, *]) rfl ⟨_, _, rfl, replNil _ _, msgsNil _ _, key.out.2⟩

end Go.Proofs.YtmdgkjbiicaljagDoor
