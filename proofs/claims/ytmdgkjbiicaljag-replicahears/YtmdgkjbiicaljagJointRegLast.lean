/- The document's answer ReplicaFault. -/
import Derived.Test.YtmdgkjbiicaljagJointReplMem
import Derived.Test.YtmdgkjbiicaljagJointKeptRef
import Derived.Test.YtmdgkjbiicaljagJointCheckMath
import Derived.Deep.RegionHeld3
import Derived.BigQuiet
import Derived.Deep.QuietTactic
import Derived.Deep.DeepCutAuto
import Derived.Test.YtmdgkjbiicaljagRegPhase
namespace Go.Proofs.Ytmdgkjbiicaljag
open Go.RowKit
set_option linter.unusedVariables false
set_option linter.unusedSimpArgs false
attribute [local go_sem] app_list ext_list get_list byteAt_zero

theorem enter_inR : ∀ (us : Array Value) (w : World), (callFunc 54 us).run Try.prog w = .ok (.enter 54 us) w := fun us w => by kernel_rfl
theorem keep_cell {W w' : World} {b o : Nat} {v : Value} (hb : Below W.heap.size W w') (h : W.cell? ⟨b, o, none⟩ = some v) : w'.cell? ⟨b, o, none⟩ = some v := (hb.cell (p := ⟨b, o, none⟩) (lt_of_cell h)).trans h

set_option maxRecDepth 4000 in
set_option maxHeartbeats 4000000 in
theorem replFaultOf_any (R : ReplM) (v : Value) (w : World) (h : ReplAt w v R) :
    Calls Try.prog 25 #[v] w fun e w' => e = .returned (.int .i64 (replFault R)) ∧ Below w.heap.size w w' := by
  obtain ⟨vl, vh, vw, vg, vn, rfl, hl, hh, hw, hg, hn⟩ := h
  have HST : Hid (∀ W, Below w.heap.size w W → Calls _ _ _ W _) := fun W hW => keptFaultOf_any R.kept _ W ⟨vl, rfl, hl.below hW⟩
  have HRF : Hid (replFault R = if 0 ≤ R.me ∧ R.me ≤ 2 then (if (fours R && knowsIn R) = true then keptFault R.kept else 8) else 2) := rfl
  have HKN : Hid (knowsIn R = (R.hav.all (fun x => decide (0 ≤ x) && decide (x ≤ R.kept.log.length)) && R.gives.all (fun k => decide (keptFault k = 0)))) := rfl
  have HFO : Hid (fours R = ((R.hav.length == 3 && R.wants.length == 3) && (R.gives.length == 3 && R.given.length == 3))) := rfl
  generalize replFault R = X at *
  generalize fours R = Y at *
  generalize knowsIn R = KN at *
  obtain ⟨me, K, hav, wants, gives, given⟩ := R
  simp only [replCells] at *
  generalize keptFault K = Z at *
  obtain ⟨vi, nm, cm, l, ct⟩ := K
  obtain ⟨al, cl, rfl, hl1, _⟩ := hl
  obtain ⟨ah, ch, rfl, hh1, hh2⟩ := hh
  obtain ⟨aw, cw, rfl, hw1, _⟩ := hw
  obtain ⟨ag, cg, rfl, hg1, hg2⟩ := hg
  obtain ⟨an, cn, rfl, hn1, _⟩ := hn
  simp only at *
  have HIP : Hid (∀ w, Calls _ _ _ w _) := fun w => in_any me 0 2 w
  have b0 := Box.new w 29 [.int .i64 me, .int .i64 vi, .int .i64 nm, .bool cm, .slice al l.length cl, .int .i64 ct, .slice ah hav.length ch, .slice aw wants.length cw, .slice ag gives.length cg, .slice an given.length cn]
  have HB : Hid (Below w.heap.size w _) := below_alloc w (.cells #[.int .i64 me, .int .i64 vi, .int .i64 nm, .bool cm, .slice al l.length cl, .int .i64 ct, .slice ah hav.length ch, .slice aw wants.length cw, .slice ag gives.length cg, .slice an given.length cn] 29)
  obtain ⟨w0, hw0⟩ : ∃ w0, w0 = w.alloc (.cells #[.int .i64 me, .int .i64 vi, .int .i64 nm, .bool cm, .slice al l.length cl, .int .i64 ct, .slice ah hav.length ch, .slice aw wants.length cw, .slice ag gives.length cg, .slice an given.length cn] 29) := ⟨_, rfl⟩
  by_cases hm : 0 ≤ me ∧ me ≤ 2
  case neg =>
    have em : (decide (0 ≤ me) && decide (me ≤ 2)) = false := by simp; omega
    rw [em] at HIP
    have HX : Hid (X = 2) := by unfold Hid; rw [HRF.out, if_neg hm]
    clear HRF hm em hh2 hg2
    go_enter Try.func25, Try.ntmps25
    go_upto_region 1 with fail
    rw [← hw0] at b0 HB ⊢
    clear hw0
    have x0 := b0.cell 0 _ rfl
    have x1 := b0.cell 1 _ rfl
    have x2 := b0.cell 2 _ rfl
    have x3 := b0.cell 3 _ rfl
    have x4 := b0.cell 4 _ rfl
    have x5 := b0.cell 5 _ rfl
    have x6 := b0.cell 6 _ rfl
    have x7 := b0.cell 7 _ rfl
    have x8 := b0.cell 8 _ rfl
    have x9 := b0.cell 9 _ rfl
    clear b0
    go_wp2_with fail
    refine (HIP.out _).mono ?_
    rintro e w1 ⟨rfl, rfl⟩
    go_wp2_with fail
    go_ret
    exact ⟨by rw [HX.out]; rfl, HB.out⟩
  have em : (decide (0 ≤ me) && decide (me ≤ 2)) = true := by simpa using hm
  rw [em] at HIP
  have HX : Hid (X = if (Y && KN) = true then Z else 8) := by unfold Hid; rw [HRF.out, if_pos hm]
  clear HRF hm em
  by_cases hf : hav.length = 3 ∧ wants.length = 3 ∧ gives.length = 3 ∧ given.length = 3
  case neg =>
    have HY : Hid (Y = false) := by unfold Hid; rw [HFO.out]; simp; omega
    have HE : Hid (X = 8) := by unfold Hid; rw [HX.out, HY.out]; rfl
    clear hh2 hg2 HFO HKN HX HY HST
    by_cases f1 : hav.length = 3
    · have p1 : ((hav.length : Int) == 3) = true := by simp; omega
      have p1' : ((hav.length : Int) != 3) = false := by simp; omega
      by_cases f2 : wants.length = 3
      · have p2 : ((wants.length : Int) == 3) = true := by simp; omega
        have p2' : ((wants.length : Int) != 3) = false := by simp; omega
        by_cases f3 : gives.length = 3
        · have p3 : ((gives.length : Int) == 3) = true := by simp; omega
          have p3' : ((gives.length : Int) != 3) = false := by simp; omega
          have p4 : ((given.length : Int) == 3) = false := by simp; omega
          have p4' : ((given.length : Int) != 3) = true := by simp; omega
          clear f1 f2 f3 hf
          go_enter Try.func25, Try.ntmps25
          go_upto_region 1 with fail
          rw [← hw0] at b0 HB ⊢
          clear hw0
          have x0 := b0.cell 0 _ rfl
          have x1 := b0.cell 1 _ rfl
          have x2 := b0.cell 2 _ rfl
          have x3 := b0.cell 3 _ rfl
          have x4 := b0.cell 4 _ rfl
          have x5 := b0.cell 5 _ rfl
          have x6 := b0.cell 6 _ rfl
          have x7 := b0.cell 7 _ rfl
          have x8 := b0.cell 8 _ rfl
          have x9 := b0.cell 9 _ rfl
          clear b0
          go_wp2_with fail
          refine (HIP.out _).mono ?_
          rintro e w1 ⟨rfl, rfl⟩
          go_wp2_with fail
          go_ret
          exact ⟨by rw [HE.out]; rfl, HB.out⟩
        · have p3 : ((gives.length : Int) == 3) = false := by simp; omega
          have p3' : ((gives.length : Int) != 3) = true := by simp; omega
          clear f1 f2 f3 hf
          go_enter Try.func25, Try.ntmps25
          go_upto_region 1 with fail
          rw [← hw0] at b0 HB ⊢
          clear hw0
          have x0 := b0.cell 0 _ rfl
          have x1 := b0.cell 1 _ rfl
          have x2 := b0.cell 2 _ rfl
          have x3 := b0.cell 3 _ rfl
          have x4 := b0.cell 4 _ rfl
          have x5 := b0.cell 5 _ rfl
          have x6 := b0.cell 6 _ rfl
          have x7 := b0.cell 7 _ rfl
          have x8 := b0.cell 8 _ rfl
          have x9 := b0.cell 9 _ rfl
          clear b0
          go_wp2_with fail
          refine (HIP.out _).mono ?_
          rintro e w1 ⟨rfl, rfl⟩
          go_wp2_with fail
          go_ret
          exact ⟨by rw [HE.out]; rfl, HB.out⟩
      · have p2 : ((wants.length : Int) == 3) = false := by simp; omega
        have p2' : ((wants.length : Int) != 3) = true := by simp; omega
        clear f1 f2 hf
        go_enter Try.func25, Try.ntmps25
        go_upto_region 1 with fail
        rw [← hw0] at b0 HB ⊢
        clear hw0
        have x0 := b0.cell 0 _ rfl
        have x1 := b0.cell 1 _ rfl
        have x2 := b0.cell 2 _ rfl
        have x3 := b0.cell 3 _ rfl
        have x4 := b0.cell 4 _ rfl
        have x5 := b0.cell 5 _ rfl
        have x6 := b0.cell 6 _ rfl
        have x7 := b0.cell 7 _ rfl
        have x8 := b0.cell 8 _ rfl
        have x9 := b0.cell 9 _ rfl
        clear b0
        go_wp2_with fail
        refine (HIP.out _).mono ?_
        rintro e w1 ⟨rfl, rfl⟩
        go_wp2_with fail
        go_ret
        exact ⟨by rw [HE.out]; rfl, HB.out⟩
    · have p1 : ((hav.length : Int) == 3) = false := by simp; omega
      have p1' : ((hav.length : Int) != 3) = true := by simp; omega
      clear f1 hf
      go_enter Try.func25, Try.ntmps25
      go_upto_region 1 with fail
      rw [← hw0] at b0 HB ⊢
      clear hw0
      have x0 := b0.cell 0 _ rfl
      have x1 := b0.cell 1 _ rfl
      have x2 := b0.cell 2 _ rfl
      have x3 := b0.cell 3 _ rfl
      have x4 := b0.cell 4 _ rfl
      have x5 := b0.cell 5 _ rfl
      have x6 := b0.cell 6 _ rfl
      have x7 := b0.cell 7 _ rfl
      have x8 := b0.cell 8 _ rfl
      have x9 := b0.cell 9 _ rfl
      clear b0
      go_wp2_with fail
      refine (HIP.out _).mono ?_
      rintro e w1 ⟨rfl, rfl⟩
      go_wp2_with fail
      go_ret
      exact ⟨by rw [HE.out]; rfl, HB.out⟩
  obtain ⟨f1, f2, f3, f4⟩ := hf
  have HY : Hid (Y = true) := by unfold Hid; rw [HFO.out]; simp; omega
  have HX2 : Hid (X = if KN = true then Z else 8) := by unfold Hid; rw [HX.out, HY.out]; rfl
  have E1 : Hid (hav.length = 3) := f1
  have E3 : Hid (gives.length = 3) := f3
  rw [f1] at b0 HB hw0
  rw [f2] at b0 HB hw0
  rw [f3] at b0 HB hw0
  rw [f4] at b0 HB hw0
  rw [f1, f2, f3, f4]
  clear HX HFO HY f1 f2 f3 f4
  go_enter Try.func25, Try.ntmps25
  go_upto_region 1 with fail
  rw [← hw0] at b0 HB ⊢
  clear hw0
  have x0 := b0.cell 0 _ rfl
  have x1 := b0.cell 1 _ rfl
  have x2 := b0.cell 2 _ rfl
  have x3 := b0.cell 3 _ rfl
  have x4 := b0.cell 4 _ rfl
  have x5 := b0.cell 5 _ rfl
  have x6 := b0.cell 6 _ rfl
  have x7 := b0.cell 7 _ rfl
  have x8 := b0.cell 8 _ rfl
  have x9 := b0.cell 9 _ rfl
  have HB0 : Hid (Box _ _ _ _) := b0
  clear b0
  go_wp2_with fail
  refine (HIP.out _).mono ?_
  rintro e w1 ⟨rfl, rfl⟩
  go_wp2_with fail
  go_loopw [3] (fun i wr => ∃ k : Nat, k ≤ 3 ∧ i = .int .i64 k ∧ (hav.take k).all (fun x => decide (0 ≤ x) && decide (x ≤ l.length)) = true ∧ (gives.take k).all (fun k => decide (keptFault k = 0)) = true ∧ Below w1.heap.size w1 wr) (fun i wr => 3 - (intOf i).toNat)
  case atStart => exact ⟨0, by omega, rfl, rfl, rfl, Below.refl _ _⟩
  case round =>
    clear x0 x1 x2 x3 x4 x5 x6 x7 x8 x9
    obtain ⟨k, hk, rfl, hg, hg', hbr⟩ := hrel
    have b0 := HB0.out.below hbr HB0.out.lt
    by_cases hlt : k < 3
    · obtain ⟨bh, oh, rfl, h1⟩ := hh2 k (by rw [E1.out]; exact hlt)
      obtain ⟨bg, og, vl, rfl, hc, hs⟩ := hg2 k (by rw [E3.out]; exact hlt)
      have HBR : Hid (Below w.heap.size w wr) := Below.far HB.out hbr
      have t0 := (HBR.out.cell (p := ⟨bh, _, none⟩) (lt_of_cell h1)).trans h1
      have hc' : ∀ j u, (keptCells (gives.getD k zeroKept) vl)[j]? = some u → wr.cell? ⟨bg, og + k * 5 + j, none⟩ = some u := fun j u h => by
        have := hc j u h
        rw [HBR.out.cell (p := ⟨bg, og + k * 5 + j, none⟩) (lt_of_cell this)]
        exact this
      have HKF : Hid (∀ W, Below w.heap.size w W → Calls _ _ _ W _) := fun W hW => keptFaultOf_any (gives.getD k zeroKept) _ W ⟨vl, rfl, hs.below hW⟩
      have HIN : Hid (∀ w, Calls _ _ _ w _) := fun w => in_any (hav.getD k 0) 0 l.length w
      have HN1 : Hid ((decide (0 ≤ hav.getD k 0) && decide (hav.getD k 0 ≤ l.length)) = true → (hav.take (k + 1)).all (fun x => decide (0 ≤ x) && decide (x ≤ l.length)) = true) := fun h => all_take_next _ hav k 0 hg (by rw [E1.out]; exact hlt) h
      have HX1 : Hid ((decide (0 ≤ hav.getD k 0) && decide (hav.getD k 0 ≤ l.length)) = false → X = 8) := fun h => by rw [HX2.out, HKN.out, all_bad _ hav k 0 (by rw [E1.out]; exact hlt) h]; rfl
      have HN2 : Hid (keptFault (gives.getD k zeroKept) = 0 → (gives.take (k + 1)).all (fun k => decide (keptFault k = 0)) = true) := fun h => all_take_next _ gives k zeroKept hg' (by rw [E3.out]; exact hlt) (by simpa using h)
      have HX3 : Hid (keptFault (gives.getD k zeroKept) ≠ 0 → X = 8) := fun h => by rw [HX2.out, HKN.out, all_bad _ gives k zeroKept (by rw [E3.out]; exact hlt) (by simpa using h)]; simp
      have HR1 : Hid (Below w1.heap.size w1 wr) := hbr
      have k0 : (0 : Int) ≤ (k : Int) := by omega
      have k1 : (k : Int) < 3 := by omega
      obtain ⟨av, cv, rfl, _, _⟩ := hs
      have y4 := b0.cell 4 _ rfl
      have y6 := b0.cell 6 _ rfl
      have y8 := b0.cell 8 _ rfl
      clear hc hg hg' hg2 hh2 hbr h1 b0 HX2 HKN HST HIP
      generalize (decide (0 ≤ hav.getD k 0) && decide (hav.getD k 0 ≤ l.length)) = c at *
      generalize hav.getD k 0 = q at *
      generalize gives.getD k zeroKept = g at *
      generalize keptFault g = D at *
      obtain ⟨v', n', c', l', t'⟩ := g
      simp only [keptCells] at hc' HKF
      have c0 := hc' 0 _ rfl
      have c1 := hc' 1 _ rfl
      have c2 := hc' 2 _ rfl
      have c3 := hc' 3 _ rfl
      have c4 := hc' 4 _ rfl
      rw [Nat.add_zero] at c0
      clear hc'
      go_upto_region 8 with fail
      cases c
      · have HE : Hid (X = 8) := HX1.out rfl
        go_quiet (first | (go_at_call 54; refine (HIN.out _).mono ?_; rintro e w' ⟨rfl, rfl⟩; exact ⟨rfl, _, rfl⟩))
        go_wp2_with fail
        go_ret
        exact ⟨by rw [HE.out]; rfl, Below.far HBR.out (below_drew_n _ _)⟩
      · have HN3 : Hid ((hav.take (k + 1)).all (fun x => decide (0 ≤ x) && decide (x ≤ l.length)) = true) := HN1.out rfl
        have HK2 : Hid (∀ W, Below wr.heap.size wr W → Calls _ _ _ W _) := fun W hW => HKF.out W (Below.far HBR.out hW)
        clear HN1 HX1 HKF
        first | go_region_held3 (fun w' => Below wr.heap.size wr w' ∧ w'.cell? ⟨w.heap.size, 4, none⟩ = some (.slice al l.length cl) ∧ w'.cell? ⟨w.heap.size, 6, none⟩ = some (.slice (some ⟨bh, oh, none⟩) 3 ch) ∧ w'.cell? ⟨bh, oh + k, none⟩ = some (.int .i64 q) ∧
            w'.cell? ⟨w.heap.size, 8, none⟩ = some (.slice (some ⟨bg, og, none⟩) 3 cg) ∧ w'.cell? ⟨bg, og + k * 5, none⟩ = some (.int .i64 v') ∧ w'.cell? ⟨bg, og + k * 5 + 1, none⟩ = some (.int .i64 n') ∧ w'.cell? ⟨bg, og + k * 5 + 2, none⟩ = some (.bool c') ∧ w'.cell? ⟨bg, og + k * 5 + 3, none⟩ = some (.slice av l'.length cv) ∧ w'.cell? ⟨bg, og + k * 5 + 4, none⟩ = some (.int .i64 t'))
          (first
            | exact ⟨(Below.refl _ _).drew, y4, y6, t0, y8, c0, c1, c2, c3, c4⟩
            | exact ⟨Below.far (Below.refl _ _).drew hb9, keep_cell hb9 y4, keep_cell hb9 y6, keep_cell hb9 t0, keep_cell hb9 y8, keep_cell hb9 c0, keep_cell hb9 c1, keep_cell hb9 c2, keep_cell hb9 c3, keep_cell hb9 c4⟩
            | go_keep)
          (first
            | (go_at_call 54; refine (HIN.out _).mono ?_; rintro e w' ⟨rfl, rfl⟩)
            | (go_at_call 55; refine (HK2.out _ (Below.refl _ _).drew).mono ?_; rintro e w' ⟨rfl, hb9⟩))
        have HBB : Hid (Below w1.heap.size w1 _) := Below.far (Below.far HR1.out (Below.refl _ _).drew) hb9
        clear hb9 HK2 HIN
        by_cases hd : D = 0
        · subst hd
          have HN4 := HN2.out rfl
          go_wp2_with fail
          go_roundw
          case rel => exact ⟨k + 1, by omega, by go_num, HN3.out, HN4, HBB.out⟩
          case measure => simp [intOf]; omega
        · have d1 : (D == 0) = false := by simpa using hd
          have d2 : (D != 0) = true := by simpa using hd
          have HE : Hid (X = 8) := HX3.out hd
          go_wp2_with fail
          go_ret
          exact ⟨by rw [HE.out]; rfl, Below.far HB.out HBB.out⟩
    · obtain rfl : k = 3 := by omega
      have HZ : Hid (X = Z) := by
        have e1 : hav.take 3 = hav := by rw [← E1.out, List.take_length]
        have e2 : gives.take 3 = gives := by rw [← E3.out, List.take_length]
        rw [e1] at hg
        rw [e2] at hg'
        unfold Hid
        rw [HX2.out, HKN.out, hg, hg']
        rfl
      have HBR : Hid (Below w.heap.size w wr) := Below.far HB.out hbr
      have x0 := b0.cell 0 _ rfl
      have x1 := b0.cell 1 _ rfl
      have x2 := b0.cell 2 _ rfl
      have x3 := b0.cell 3 _ rfl
      have x4 := b0.cell 4 _ rfl
      have x5 := b0.cell 5 _ rfl
      have x6 := b0.cell 6 _ rfl
      have x7 := b0.cell 7 _ rfl
      have x8 := b0.cell 8 _ rfl
      have x9 := b0.cell 9 _ rfl
      clear b0 hg hg' hbr hh2 hg2 HX2 HKN
      go_wp2_with fail
      refine (HST.out _ HBR.out).mono ?_
      rintro e w2 ⟨rfl, hb2⟩
      have HB2 : Hid (Below w.heap.size w w2) := Below.far HBR.out hb2
      clear hb2 x0 x1 x2 x3 x4 x5 x6 x7 x8 x9
      go_wp2_with fail
      go_ret
      exact ⟨by rw [HZ.out]; rfl, HB2.out⟩

end Go.Proofs.Ytmdgkjbiicaljag

/- A region that draws its order, operation by operation, whose last operation waits for all others. -/
namespace Go.Proofs.Ytmdgkjbiicaljag
open Go.RowKit
set_option linter.unusedVariables false
set_option linter.unusedSimpArgs false

section
variable {P : Program} {ops : Array Oper} {Q : Exit → Act → World → Prop}
/-- G: what holds of the world till the last operation; Pr i: what holds of the result of operation i, from then on. -/
theorem wp_region_last {id : Nat} {a0 : Act} {w0 : World} (m : Nat) (hsz : ops.size = m + 1) (hm : P.follows .mixedOrders = true) (hap : apartGo ops.toList = true) (hin : dstsIn a0.tmps.size ops.toList = true) (hgd : (ops.toList.all fun o => o.guard.isNone) = true)
    (hev : aftersGo ops.toList 0 = true) (hlast : ((List.range m).all fun j => (depsOf ops m).contains j) = true)
    (G : World → Prop) (Pr : Nat → Value → World → Prop) (A : Nat → Nat → Value → Value → Prop) (h0 : G w0.drew)
    (step : ∀ (i : Nat) (hi : i < m) (a : Act) (w : World) (vs : Nat → Value), G w →
      (∀ t, (ops.toList.all fun x => match x.dst with | some e => !(t == e) | none => true) = true → a.tmps.getD t undef = a0.tmps.getD t undef) →
      (∀ j, ((ops[i]'(by omega)).after.any fun e => Region.binds .any e && e.on == j) = true → Pr j (vs j) w ∧ ∀ d, (ops[j]?).bind (·.dst) = some d → a.tmps.getD d undef = vs j) →
      (∀ j k, j ≠ k → ((ops[i]'(by omega)).after.any fun e => Region.binds .any e && e.on == j) = true → ((ops[i]'(by omega)).after.any fun e => Region.binds .any e && e.on == k) = true → A j k (vs j) (vs k) ∨ A k j (vs k) (vs j)) →
      (ops[i]'(by omega)).wp P a w (fun a' w' => ∃ v, a' = a.put (ops[i]'(by omega)).dst v ∧ G w' ∧ Pr i v w' ∧ ∀ j u, j ≠ i → Pr j u w → Pr j u w' ∧ A j i u v) Q)
    (done : ∀ (vs : Nat → Value) (w : World), G w → (∀ i, i < m → Pr i (vs i) w) → (∀ i j, i < m → j < m → i ≠ j → A i j (vs i) (vs j) ∨ A j i (vs j) (vs i)) → (ops[m]'(by omega)).wp P (fillGo ops.toList 0 (fun i => decide (i < m)) vs a0) w (fun a' w' => Q .normal a' w') Q) :
    (Code.region id ops true).wp P Q a0 w0 := by
  refine wp_region_any hm ?_
  change wpAny P .any ops Q ops.size (Array.replicate ops.size false) a0 w0.drew
  let J : Array Bool → Act → World → Prop := fun listed a w => listed.size = ops.size ∧ ((listed.getD m true = false ∧ G w ∧ ∃ vs : Nat → Value, a = fillGo ops.toList 0 (fun i => listed.getD i true) vs a0 ∧ (∀ i, i < m → listed.getD i true = true → Pr i (vs i) w) ∧ ∀ i j, i < m → j < m → i ≠ j → listed.getD i true = true → listed.getD j true = true → A i j (vs i) (vs j) ∨ A j i (vs j) (vs i)) ∨ ((∀ i, listed.getD i true = true) ∧ Q .normal a w))
  refine wpAny_inv J ?_ ?_ ops.size _ a0 w0.drew ?_ ?_
  · rintro listed a w i ⟨hdef, hJ⟩ hr
    obtain ⟨hun, o, ho, haft⟩ := mem_ready.1 hr
    have hi : i < ops.size := (Array.getElem?_eq_some_iff.1 ho).1
    have hoi : ops[i] = o := (Array.getElem?_eq_some_iff.1 ho).2
    rcases hJ with ⟨hm1, hG, vs, rfl, hP, hA⟩ | ⟨hall, _⟩
    · have hol : ops.toList[i - 0]? = some o := by rw [Nat.sub_zero]; simpa using ho
      have hmem : o ∈ ops.toList := by rw [← hoi]; simp
      have hgn : o.guard = none := by
        have := List.all_eq_true.1 hgd o hmem
        simpa using this
      refine wpOp_step ho fun K' hK => ?_
      rw [if_pos (by simp [Region.wanted, hgn])]
      by_cases him : i = m
      · subst him
        have hl : ∀ j, j < i → listed.getD j true = true := fun j hj => by
          have h1 := List.all_eq_true.1 hlast j (List.mem_range.2 hj)
          have h2 : j ∈ depsOf ops i := by simpa using h1
          obtain ⟨o', ho', e, he, hb, rfl⟩ := mem_deps h2
          rw [ho] at ho'
          injection ho' with ho'
          subst ho'
          rw [getD_dflt (by omega)]
          exact haft e he hb
        have hs := done vs w hG (fun j hj => hP j hj (hl j hj)) (fun j k hj hk hjk => hA j k hj hk hjk (hl j hj) (hl k hk))
        have e : fillGo ops.toList 0 (fun k => listed.getD k true) vs a0 = fillGo ops.toList 0 (fun k => decide (k < i)) vs a0 := by
          refine fillOn_congr _ _ _ _ _ _ fun k _ hk => ?_
          have hk' : k < i + 1 := by rw [← hsz]; simpa using hk
          by_cases hki : k < i
          · rw [hl k hki]; simp [hki]
          · have : k = i := by omega
            subst this
            rw [hm1]; simp
        rw [e]
        rw [hoi] at hs
        refine Oper.wp_mono ?_ hs
        intro a' w' hq
        refine hK _ _ ⟨by simpa using hdef, Or.inr ⟨fun j => ?_, hq⟩⟩
        rw [getD_set j hun]
        by_cases hj : j = i
        · rw [if_pos hj]
        · rw [if_neg hj]
          by_cases hj' : j < i
          · exact hl j hj'
          · rw [Array.getD_eq_getD_getElem?, Array.getElem?_eq_none (by omega)]; rfl
      · have him' : i < m := by omega
        have hlst : ∀ j, (ops[i].after.any fun e => Region.binds .any e && e.on == j) = true → j < m ∧ listed.getD j true = true := fun j hj => by
          rw [hoi] at hj
          obtain ⟨e, he, hb⟩ := Array.any_eq_true'.1 hj
          rw [Bool.and_eq_true] at hb
          obtain ⟨hb1, hb2⟩ := hb
          have hej : e.on = j := by simpa using hb2
          subst hej
          have hlt : e.on < i := by
            have := afters_lt _ 0 i o hev (by simpa using ho) e he hb1
            omega
          exact ⟨by omega, by rw [getD_dflt (by omega)]; exact haft e he hb1⟩
        have hs := step i him' (fillGo ops.toList 0 (fun i => listed.getD i true) vs a0) w vs hG (fun t ht => fill_out t _ _ _ _ _ ht) (fun j hj => by
          obtain ⟨hlt, hl⟩ := hlst j hj
          refine ⟨hP _ hlt hl, fun d hd => ?_⟩
          obtain ⟨oj, hoj, hdj⟩ := Option.bind_eq_some_iff.1 hd
          have hm2 : oj ∈ ops.toList := by
            have := Array.mem_of_getElem? hoj
            simpa using this
          have hdlt : d < a0.tmps.size := by
            have := List.all_eq_true.1 hin oj hm2
            rw [hdj] at this
            simpa using this
          exact fill_in d _ 0 j oj _ vs a0 hap (by omega) (by rw [Nat.sub_zero]; simpa using hoj) hl hdj hdlt) (fun j k hjk hj hk => hA j k (hlst j hj).1 (hlst k hk).1 hjk (hlst j hj).2 (hlst k hk).2)
        rw [hoi] at hs
        refine Oper.wp_mono ?_ hs
        rintro a' w' ⟨v, rfl, hG', hPi, hPo⟩
        refine hK _ _ ⟨by simpa using hdef, Or.inl ⟨by rw [getD_set m hun, if_neg (fun e => him e.symm)]; exact hm1, hG', fun j => if j = i then v else vs j, ?_, fun j hj hl => ?_, fun j k hj hk hjk hl hl' => ?_⟩⟩
        · rw [fill_put v ops.toList 0 i o _ vs a0 hap (by omega) hol hun]
          refine fill_congr _ _ _ _ _ _ _ fun j _ => ⟨?_, rfl⟩
          rw [getD_set j hun]
          by_cases hj : j = i
          · subst hj; simp
          · have : (j == i) = false := by simpa using hj
            rw [if_neg hj, this, Bool.or_false]
        · by_cases hji : j = i
          · subst hji; simp only [if_pos rfl]; exact hPi
          · simp only [if_neg hji]
            rw [getD_set j hun, if_neg hji] at hl
            exact (hPo j _ hji (hP j hj hl)).1
        · by_cases hji : j = i
          · subst hji
            have hkj : ¬ k = j := fun e => hjk e.symm
            simp only [if_pos rfl, if_neg hkj]
            rw [getD_set k hun, if_neg hkj] at hl'
            exact Or.inr (hPo k _ hkj (hP k hk hl')).2
          · rw [getD_set j hun, if_neg hji] at hl
            simp only [if_neg hji]
            by_cases hki : k = i
            · subst hki
              simp only [if_pos rfl]
              exact Or.inl (hPo j _ hji (hP j hj hl)).2
            · simp only [if_neg hki]
              rw [getD_set k hun, if_neg hki] at hl'
              exact hA j k hj hk hjk hl hl'
    · rw [hall i] at hun; cases hun
  · rintro listed a w ⟨hdef, hJ⟩ hr
    rcases hJ with ⟨hm1, _⟩ | ⟨_, hq⟩
    · have := all_listed hev hdef hr (m + 1) m (by omega) (by omega)
      rw [hm1] at this; cases this
    · exact hq
  · refine Nat.le_trans List.countP_le_length ?_
    simp
  · refine ⟨by simp, Or.inl ⟨by simp [Array.getD, hsz], h0, fun _ => undef, ?_, fun i hi hl => ?_, fun i j hi hj hij hl hl' => ?_⟩⟩
    · rw [fillOn_congr ops.toList 0 _ (fun _ => false) _ a0 (fun i _ hi => by simp at hi; simp [Array.getD, hi])]
      exact (fill_none ops.toList 0 _ a0).symm
    · have : i < ops.size := by omega
      simp [Array.getD, this] at hl
    · have : i < ops.size := by omega
      simp [Array.getD, this] at hl

/-- The same, the region's operations written out as a list, the last one apart. -/
theorem wp_region_last' {id : Nat} {a0 : Act} {w0 : World} {l : List Oper} (m : Nat) (oL : Oper) (hoL : l[m]? = some oL) (hm : P.follows .mixedOrders = true)
    (hB : ((((decide (l.length = m + 1) && apartGo l) && dstsIn a0.tmps.size l) && (l.all fun o => o.guard.isNone)) && (aftersGo l 0 && ((List.range m).all fun j => (depsOf l.toArray m).contains j))) = true)
    (G : World → Prop) (Pr : Nat → Value → World → Prop) (A : Nat → Nat → Value → Value → Prop) (h0 : G w0.drew)
    (step : ∀ (i : Nat) (o : Oper) (hi : i < m) (ho : l[i]? = some o) (a : Act) (w : World) (vs : Nat → Value), G w →
      (∀ t, (l.all fun x => match x.dst with | some e => !(t == e) | none => true) = true → a.tmps.getD t undef = a0.tmps.getD t undef) →
      (∀ j, (o.after.any fun e => Region.binds .any e && e.on == j) = true → Pr j (vs j) w ∧ ∀ d, (l[j]?).bind (·.dst) = some d → a.tmps.getD d undef = vs j) →
      (∀ j k, j ≠ k → (o.after.any fun e => Region.binds .any e && e.on == j) = true → (o.after.any fun e => Region.binds .any e && e.on == k) = true → A j k (vs j) (vs k) ∨ A k j (vs k) (vs j)) →
      o.wp P a w (fun a' w' => ∃ v, a' = a.put o.dst v ∧ G w' ∧ Pr i v w' ∧ ∀ j u, j ≠ i → Pr j u w → Pr j u w' ∧ A j i u v) Q)
    (done : ∀ (vs : Nat → Value) (w : World) (a : Act), a = fillGo l 0 (fun i => decide (i < m)) vs a0 → (∀ j d, j < m → (l[j]?).bind (·.dst) = some d → a.tmps.getD d undef = vs j) → G w → (∀ i, i < m → Pr i (vs i) w) → (∀ i j, i < m → j < m → i ≠ j → A i j (vs i) (vs j) ∨ A j i (vs j) (vs i)) → oL.wp P a w (fun a' w' => Q .normal a' w') Q) :
    (Code.region id l.toArray true).wp P Q a0 w0 := by
  simp only [Bool.and_eq_true, decide_eq_true_eq] at hB
  obtain ⟨⟨⟨⟨hsz, hap⟩, hin⟩, hgd⟩, hev, hlast⟩ := hB
  have hsz' : l.toArray.size = m + 1 := by simpa using hsz
  refine wp_region_last (ops := l.toArray) m hsz' hm hap hin hgd hev hlast G Pr A h0 (fun i hi a w vs hG hout hdep hdA => ?_) (fun vs w hG hP hA => ?_)
  · have hi' : i < l.length := by omega
    exact step i (l.toArray[i]'(by omega)) hi (by simp [hi']) a w vs hG hout (fun j hj => by
      obtain ⟨h1, h2⟩ := hdep j hj
      exact ⟨h1, fun d hd => h2 d (by simpa using hd)⟩) hdA
  · have e : l.toArray[m]'(by omega) = oL := by
      have h1 : l[m]? = some (l[m]'(by omega)) := List.getElem?_eq_getElem (by omega)
      rw [hoL] at h1
      injection h1 with h1
      simpa using h1.symm
    rw [e]
    refine done vs w _ rfl (fun j d hj hd => ?_) hG hP hA
    obtain ⟨oj, hoj, hdj⟩ := Option.bind_eq_some_iff.1 hd
    have hm2 : oj ∈ l := List.mem_of_getElem? hoj
    have hdlt : d < a0.tmps.size := by
      have := List.all_eq_true.1 hin oj hm2
      rw [hdj] at this
      simpa using this
    exact fill_in d _ 0 j oj _ vs a0 hap (by omega) (by rw [Nat.sub_zero]; exact hoj) (by simpa using hj) hdj hdlt
end
end Go.Proofs.Ytmdgkjbiicaljag
