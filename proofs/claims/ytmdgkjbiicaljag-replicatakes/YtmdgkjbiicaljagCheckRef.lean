/- The document's answer ReplicaFault. -/
import Derived.Test.YtmdgkjbiicaljagReplMem
import Derived.Test.YtmdgkjbiicaljagJointKeptRef
import Derived.Test.YtmdgkjbiicaljagJointCheckMath
import Derived.Deep.RegionHeld3
import Derived.BigQuiet
import Derived.Deep.QuietTactic
import Derived.Deep.DeepCutAuto
namespace Go.Proofs.Ytmdgkjbiicaljag
open Go.RowKit
set_option linter.unusedVariables false
set_option linter.unusedSimpArgs false
attribute [local go_sem] app_list ext_list get_list byteAt_zero

theorem enter_inR : ∀ (us : Array Value) (w : World), (callFunc 54 us).run Try.prog w = .ok (.enter 54 us) w := fun us w => by kernel_rfl
theorem keep_cell {W w' : World} {b o : Nat} {v : Value} (hb : Below W.heap.size W w') (h : W.cell? ⟨b, o, none⟩ = some v) : w'.cell? ⟨b, o, none⟩ = some v := (hb.cell (p := ⟨b, o, none⟩) (lt_of_cell h)).trans h

set_option maxRecDepth 4000 in
set_option maxHeartbeats 4000000 in
theorem replFaultOf_any (R : ReplM) (v : Value) (w : World) (h : ReplAt w v R) :
    Calls Try.prog 25 #[v] w fun e w' => e = .returned (.int .i64 (replFault R)) ∧ Below w.heap.size w w' := by
  obtain ⟨vl, vh, vw, vg, vn, rfl, hl, hh, hw, hg, hn⟩ := h
  have HST : Hid (∀ W, Below w.heap.size w W → Calls _ _ _ W _) := fun W hW => keptFaultOf_any R.kept _ W ⟨vl, rfl, hl.below hW⟩
  have HRF : Hid (replFault R = if 0 ≤ R.me ∧ R.me ≤ 2 then (if (fours R && knowsIn R) = true then keptFault R.kept else 8) else 2) := rfl
  have HKN : Hid (knowsIn R = (R.hav.all (fun x => decide (0 ≤ x) && decide (x ≤ R.kept.log.length)) && R.gives.all (fun k => decide (keptFault k = 0)))) := rfl
  have HFO : Hid (fours R = ((R.hav.length == 3 && R.wants.length == 3) && (R.gives.length == 3 && R.given.length == 3))) := rfl
  generalize replFault R = X at *
  generalize fours R = Y at *
  generalize knowsIn R = KN at *
  obtain ⟨me, K, hav, wants, gives, given⟩ := R
  simp only [replCells] at *
  generalize keptFault K = Z at *
  obtain ⟨vi, nm, cm, l, ct⟩ := K
  obtain ⟨al, cl, rfl, hl1, _⟩ := hl
  obtain ⟨ah, ch, rfl, hh1, hh2⟩ := hh
  obtain ⟨aw, cw, rfl, hw1, _⟩ := hw
  obtain ⟨ag, cg, rfl, hg1, hg2⟩ := hg
  obtain ⟨an, cn, rfl, hn1, _⟩ := hn
  simp only at *
  have HIP : Hid (∀ w, Calls _ _ _ w _) := fun w => in_any me 0 2 w
  have b0 := Box.new w 29 [.int .i64 me, .int .i64 vi, .int .i64 nm, .bool cm, .slice al l.length cl, .int .i64 ct, .slice ah hav.length ch, .slice aw wants.length cw, .slice ag gives.length cg, .slice an given.length cn]
  have HB : Hid (Below w.heap.size w _) := below_alloc w (.cells #[.int .i64 me, .int .i64 vi, .int .i64 nm, .bool cm, .slice al l.length cl, .int .i64 ct, .slice ah hav.length ch, .slice aw wants.length cw, .slice ag gives.length cg, .slice an given.length cn] 29)
  obtain ⟨w0, hw0⟩ : ∃ w0, w0 = w.alloc (.cells #[.int .i64 me, .int .i64 vi, .int .i64 nm, .bool cm, .slice al l.length cl, .int .i64 ct, .slice ah hav.length ch, .slice aw wants.length cw, .slice ag gives.length cg, .slice an given.length cn] 29) := ⟨_, rfl⟩
  by_cases hm : 0 ≤ me ∧ me ≤ 2
  case neg =>
    have em : (decide (0 ≤ me) && decide (me ≤ 2)) = false := by simp; omega
    rw [em] at HIP
    have HX : Hid (X = 2) := by unfold Hid; rw [HRF.out, if_neg hm]
    clear HRF hm em hh2 hg2
    go_enter Try.func25, Try.ntmps25
    go_upto_region 1 with fail
    rw [← hw0] at b0 HB ⊢
    clear hw0
    have x0 := b0.cell 0 _ rfl
    have x1 := b0.cell 1 _ rfl
    have x2 := b0.cell 2 _ rfl
    have x3 := b0.cell 3 _ rfl
    have x4 := b0.cell 4 _ rfl
    have x5 := b0.cell 5 _ rfl
    have x6 := b0.cell 6 _ rfl
    have x7 := b0.cell 7 _ rfl
    have x8 := b0.cell 8 _ rfl
    have x9 := b0.cell 9 _ rfl
    clear b0
    go_wp2_with fail
    refine (HIP.out _).mono ?_
    rintro e w1 ⟨rfl, rfl⟩
    go_wp2_with fail
    go_ret
    exact ⟨by rw [HX.out]; rfl, HB.out⟩
  have em : (decide (0 ≤ me) && decide (me ≤ 2)) = true := by simpa using hm
  rw [em] at HIP
  have HX : Hid (X = if (Y && KN) = true then Z else 8) := by unfold Hid; rw [HRF.out, if_pos hm]
  clear HRF hm em
  by_cases hf : hav.length = 3 ∧ wants.length = 3 ∧ gives.length = 3 ∧ given.length = 3
  case neg =>
    have HY : Hid (Y = false) := by unfold Hid; rw [HFO.out]; simp; omega
    have HE : Hid (X = 8) := by unfold Hid; rw [HX.out, HY.out]; rfl
    clear hh2 hg2 HFO HKN HX HY HST
    by_cases f1 : hav.length = 3
    · have p1 : ((hav.length : Int) == 3) = true := by simp; omega
      have p1' : ((hav.length : Int) != 3) = false := by simp; omega
      by_cases f2 : wants.length = 3
      · have p2 : ((wants.length : Int) == 3) = true := by simp; omega
        have p2' : ((wants.length : Int) != 3) = false := by simp; omega
        by_cases f3 : gives.length = 3
        · have p3 : ((gives.length : Int) == 3) = true := by simp; omega
          have p3' : ((gives.length : Int) != 3) = false := by simp; omega
          have p4 : ((given.length : Int) == 3) = false := by simp; omega
          have p4' : ((given.length : Int) != 3) = true := by simp; omega
          clear f1 f2 f3 hf
          go_enter Try.func25, Try.ntmps25
          go_upto_region 1 with fail
          rw [← hw0] at b0 HB ⊢
          clear hw0
          have x0 := b0.cell 0 _ rfl
          have x1 := b0.cell 1 _ rfl
          have x2 := b0.cell 2 _ rfl
          have x3 := b0.cell 3 _ rfl
          have x4 := b0.cell 4 _ rfl
          have x5 := b0.cell 5 _ rfl
          have x6 := b0.cell 6 _ rfl
          have x7 := b0.cell 7 _ rfl
          have x8 := b0.cell 8 _ rfl
          have x9 := b0.cell 9 _ rfl
          clear b0
          go_wp2_with fail
          refine (HIP.out _).mono ?_
          rintro e w1 ⟨rfl, rfl⟩
          go_wp2_with fail
          go_ret
          exact ⟨by rw [HE.out]; rfl, HB.out⟩
        · have p3 : ((gives.length : Int) == 3) = false := by simp; omega
          have p3' : ((gives.length : Int) != 3) = true := by simp; omega
          clear f1 f2 f3 hf
          go_enter Try.func25, Try.ntmps25
          go_upto_region 1 with fail
          rw [← hw0] at b0 HB ⊢
          clear hw0
          have x0 := b0.cell 0 _ rfl
          have x1 := b0.cell 1 _ rfl
          have x2 := b0.cell 2 _ rfl
          have x3 := b0.cell 3 _ rfl
          have x4 := b0.cell 4 _ rfl
          have x5 := b0.cell 5 _ rfl
          have x6 := b0.cell 6 _ rfl
          have x7 := b0.cell 7 _ rfl
          have x8 := b0.cell 8 _ rfl
          have x9 := b0.cell 9 _ rfl
          clear b0
          go_wp2_with fail
          refine (HIP.out _).mono ?_
          rintro e w1 ⟨rfl, rfl⟩
          go_wp2_with fail
          go_ret
          exact ⟨by rw [HE.out]; rfl, HB.out⟩
      · have p2 : ((wants.length : Int) == 3) = false := by simp; omega
        have p2' : ((wants.length : Int) != 3) = true := by simp; omega
        clear f1 f2 hf
        go_enter Try.func25, Try.ntmps25
        go_upto_region 1 with fail
        rw [← hw0] at b0 HB ⊢
        clear hw0
        have x0 := b0.cell 0 _ rfl
        have x1 := b0.cell 1 _ rfl
        have x2 := b0.cell 2 _ rfl
        have x3 := b0.cell 3 _ rfl
        have x4 := b0.cell 4 _ rfl
        have x5 := b0.cell 5 _ rfl
        have x6 := b0.cell 6 _ rfl
        have x7 := b0.cell 7 _ rfl
        have x8 := b0.cell 8 _ rfl
        have x9 := b0.cell 9 _ rfl
        clear b0
        go_wp2_with fail
        refine (HIP.out _).mono ?_
        rintro e w1 ⟨rfl, rfl⟩
        go_wp2_with fail
        go_ret
        exact ⟨by rw [HE.out]; rfl, HB.out⟩
    · have p1 : ((hav.length : Int) == 3) = false := by simp; omega
      have p1' : ((hav.length : Int) != 3) = true := by simp; omega
      clear f1 hf
      go_enter Try.func25, Try.ntmps25
      go_upto_region 1 with fail
      rw [← hw0] at b0 HB ⊢
      clear hw0
      have x0 := b0.cell 0 _ rfl
      have x1 := b0.cell 1 _ rfl
      have x2 := b0.cell 2 _ rfl
      have x3 := b0.cell 3 _ rfl
      have x4 := b0.cell 4 _ rfl
      have x5 := b0.cell 5 _ rfl
      have x6 := b0.cell 6 _ rfl
      have x7 := b0.cell 7 _ rfl
      have x8 := b0.cell 8 _ rfl
      have x9 := b0.cell 9 _ rfl
      clear b0
      go_wp2_with fail
      refine (HIP.out _).mono ?_
      rintro e w1 ⟨rfl, rfl⟩
      go_wp2_with fail
      go_ret
      exact ⟨by rw [HE.out]; rfl, HB.out⟩
  obtain ⟨f1, f2, f3, f4⟩ := hf
  have HY : Hid (Y = true) := by unfold Hid; rw [HFO.out]; simp; omega
  have HX2 : Hid (X = if KN = true then Z else 8) := by unfold Hid; rw [HX.out, HY.out]; rfl
  have E1 : Hid (hav.length = 3) := f1
  have E3 : Hid (gives.length = 3) := f3
  rw [f1] at b0 HB hw0
  rw [f2] at b0 HB hw0
  rw [f3] at b0 HB hw0
  rw [f4] at b0 HB hw0
  rw [f1, f2, f3, f4]
  clear HX HFO HY f1 f2 f3 f4
  go_enter Try.func25, Try.ntmps25
  go_upto_region 1 with fail
  rw [← hw0] at b0 HB ⊢
  clear hw0
  have x0 := b0.cell 0 _ rfl
  have x1 := b0.cell 1 _ rfl
  have x2 := b0.cell 2 _ rfl
  have x3 := b0.cell 3 _ rfl
  have x4 := b0.cell 4 _ rfl
  have x5 := b0.cell 5 _ rfl
  have x6 := b0.cell 6 _ rfl
  have x7 := b0.cell 7 _ rfl
  have x8 := b0.cell 8 _ rfl
  have x9 := b0.cell 9 _ rfl
  have HB0 : Hid (Box _ _ _ _) := b0
  clear b0
  go_wp2_with fail
  refine (HIP.out _).mono ?_
  rintro e w1 ⟨rfl, rfl⟩
  go_wp2_with fail
  go_loopw [3] (fun i wr => ∃ k : Nat, k ≤ 3 ∧ i = .int .i64 k ∧ (hav.take k).all (fun x => decide (0 ≤ x) && decide (x ≤ l.length)) = true ∧ (gives.take k).all (fun k => decide (keptFault k = 0)) = true ∧ Below w1.heap.size w1 wr) (fun i wr => 3 - (intOf i).toNat)
  case atStart => exact ⟨0, by omega, rfl, rfl, rfl, Below.refl _ _⟩
  case round =>
    clear x0 x1 x2 x3 x4 x5 x6 x7 x8 x9
    obtain ⟨k, hk, rfl, hg, hg', hbr⟩ := hrel
    have b0 := HB0.out.below hbr HB0.out.lt
    by_cases hlt : k < 3
    · obtain ⟨bh, oh, rfl, h1⟩ := hh2 k (by rw [E1.out]; exact hlt)
      obtain ⟨bg, og, vl, rfl, hc, hs⟩ := hg2 k (by rw [E3.out]; exact hlt)
      have HBR : Hid (Below w.heap.size w wr) := Below.far HB.out hbr
      have t0 := (HBR.out.cell (p := ⟨bh, _, none⟩) (lt_of_cell h1)).trans h1
      have hc' : ∀ j u, (keptCells (gives.getD k zeroKept) vl)[j]? = some u → wr.cell? ⟨bg, og + k * 5 + j, none⟩ = some u := fun j u h => by
        have := hc j u h
        rw [HBR.out.cell (p := ⟨bg, og + k * 5 + j, none⟩) (lt_of_cell this)]
        exact this
      have HKF : Hid (∀ W, Below w.heap.size w W → Calls _ _ _ W _) := fun W hW => keptFaultOf_any (gives.getD k zeroKept) _ W ⟨vl, rfl, hs.below hW⟩
      have HIN : Hid (∀ w, Calls _ _ _ w _) := fun w => in_any (hav.getD k 0) 0 l.length w
      have HN1 : Hid ((decide (0 ≤ hav.getD k 0) && decide (hav.getD k 0 ≤ l.length)) = true → (hav.take (k + 1)).all (fun x => decide (0 ≤ x) && decide (x ≤ l.length)) = true) := fun h => all_take_next _ hav k 0 hg (by rw [E1.out]; exact hlt) h
      have HX1 : Hid ((decide (0 ≤ hav.getD k 0) && decide (hav.getD k 0 ≤ l.length)) = false → X = 8) := fun h => by rw [HX2.out, HKN.out, all_bad _ hav k 0 (by rw [E1.out]; exact hlt) h]; rfl
      have HN2 : Hid (keptFault (gives.getD k zeroKept) = 0 → (gives.take (k + 1)).all (fun k => decide (keptFault k = 0)) = true) := fun h => all_take_next _ gives k zeroKept hg' (by rw [E3.out]; exact hlt) (by simpa using h)
      have HX3 : Hid (keptFault (gives.getD k zeroKept) ≠ 0 → X = 8) := fun h => by rw [HX2.out, HKN.out, all_bad _ gives k zeroKept (by rw [E3.out]; exact hlt) (by simpa using h)]; simp
      have HR1 : Hid (Below w1.heap.size w1 wr) := hbr
      have k0 : (0 : Int) ≤ (k : Int) := by omega
      have k1 : (k : Int) < 3 := by omega
      obtain ⟨av, cv, rfl, _, _⟩ := hs
      have y4 := b0.cell 4 _ rfl
      have y6 := b0.cell 6 _ rfl
      have y8 := b0.cell 8 _ rfl
      clear hc hg hg' hg2 hh2 hbr h1 b0 HX2 HKN HST HIP
      generalize (decide (0 ≤ hav.getD k 0) && decide (hav.getD k 0 ≤ l.length)) = c at *
      generalize hav.getD k 0 = q at *
      generalize gives.getD k zeroKept = g at *
      generalize keptFault g = D at *
      obtain ⟨v', n', c', l', t'⟩ := g
      simp only [keptCells] at hc' HKF
      have c0 := hc' 0 _ rfl
      have c1 := hc' 1 _ rfl
      have c2 := hc' 2 _ rfl
      have c3 := hc' 3 _ rfl
      have c4 := hc' 4 _ rfl
      rw [Nat.add_zero] at c0
      clear hc'
      go_upto_region 8 with fail
      cases c
      · have HE : Hid (X = 8) := HX1.out rfl
        go_quiet (first | (go_at_call 54; refine (HIN.out _).mono ?_; rintro e w' ⟨rfl, rfl⟩; exact ⟨rfl, _, rfl⟩))
        go_wp2_with fail
        go_ret
        exact ⟨by rw [HE.out]; rfl, Below.far HBR.out (below_drew_n _ _)⟩
      · have HN3 : Hid ((hav.take (k + 1)).all (fun x => decide (0 ≤ x) && decide (x ≤ l.length)) = true) := HN1.out rfl
        have HK2 : Hid (∀ W, Below wr.heap.size wr W → Calls _ _ _ W _) := fun W hW => HKF.out W (Below.far HBR.out hW)
        clear HN1 HX1 HKF
        first | go_region_held3 (fun w' => Below wr.heap.size wr w' ∧ w'.cell? ⟨w.heap.size, 4, none⟩ = some (.slice al l.length cl) ∧ w'.cell? ⟨w.heap.size, 6, none⟩ = some (.slice (some ⟨bh, oh, none⟩) 3 ch) ∧ w'.cell? ⟨bh, oh + k, none⟩ = some (.int .i64 q) ∧
            w'.cell? ⟨w.heap.size, 8, none⟩ = some (.slice (some ⟨bg, og, none⟩) 3 cg) ∧ w'.cell? ⟨bg, og + k * 5, none⟩ = some (.int .i64 v') ∧ w'.cell? ⟨bg, og + k * 5 + 1, none⟩ = some (.int .i64 n') ∧ w'.cell? ⟨bg, og + k * 5 + 2, none⟩ = some (.bool c') ∧ w'.cell? ⟨bg, og + k * 5 + 3, none⟩ = some (.slice av l'.length cv) ∧ w'.cell? ⟨bg, og + k * 5 + 4, none⟩ = some (.int .i64 t'))
          (first
            | exact ⟨(Below.refl _ _).drew, y4, y6, t0, y8, c0, c1, c2, c3, c4⟩
            | exact ⟨Below.far (Below.refl _ _).drew hb9, keep_cell hb9 y4, keep_cell hb9 y6, keep_cell hb9 t0, keep_cell hb9 y8, keep_cell hb9 c0, keep_cell hb9 c1, keep_cell hb9 c2, keep_cell hb9 c3, keep_cell hb9 c4⟩
            | go_keep)
          (first
            | (go_at_call 54; refine (HIN.out _).mono ?_; rintro e w' ⟨rfl, rfl⟩)
            | (go_at_call 55; refine (HK2.out _ (Below.refl _ _).drew).mono ?_; rintro e w' ⟨rfl, hb9⟩))
        have HBB : Hid (Below w1.heap.size w1 _) := Below.far (Below.far HR1.out (Below.refl _ _).drew) hb9
        clear hb9 HK2 HIN
        by_cases hd : D = 0
        · subst hd
          have HN4 := HN2.out rfl
          go_wp2_with fail
          go_roundw
          case rel => exact ⟨k + 1, by omega, by go_num, HN3.out, HN4, HBB.out⟩
          case measure => simp [intOf]; omega
        · have d1 : (D == 0) = false := by simpa using hd
          have d2 : (D != 0) = true := by simpa using hd
          have HE : Hid (X = 8) := HX3.out hd
          go_wp2_with fail
          go_ret
          exact ⟨by rw [HE.out]; rfl, Below.far HB.out HBB.out⟩
    · obtain rfl : k = 3 := by omega
      have HZ : Hid (X = Z) := by
        have e1 : hav.take 3 = hav := by rw [← E1.out, List.take_length]
        have e2 : gives.take 3 = gives := by rw [← E3.out, List.take_length]
        rw [e1] at hg
        rw [e2] at hg'
        unfold Hid
        rw [HX2.out, HKN.out, hg, hg']
        rfl
      have HBR : Hid (Below w.heap.size w wr) := Below.far HB.out hbr
      have x0 := b0.cell 0 _ rfl
      have x1 := b0.cell 1 _ rfl
      have x2 := b0.cell 2 _ rfl
      have x3 := b0.cell 3 _ rfl
      have x4 := b0.cell 4 _ rfl
      have x5 := b0.cell 5 _ rfl
      have x6 := b0.cell 6 _ rfl
      have x7 := b0.cell 7 _ rfl
      have x8 := b0.cell 8 _ rfl
      have x9 := b0.cell 9 _ rfl
      clear b0 hg hg' hbr hh2 hg2 HX2 HKN
      go_wp2_with fail
      refine (HST.out _ HBR.out).mono ?_
      rintro e w2 ⟨rfl, hb2⟩
      have HB2 : Hid (Below w.heap.size w w2) := Below.far HBR.out hb2
      clear hb2 x0 x1 x2 x3 x4 x5 x6 x7 x8 x9
      go_wp2_with fail
      go_ret
      exact ⟨by rw [HZ.out]; rfl, HB2.out⟩

end Go.Proofs.Ytmdgkjbiicaljag
