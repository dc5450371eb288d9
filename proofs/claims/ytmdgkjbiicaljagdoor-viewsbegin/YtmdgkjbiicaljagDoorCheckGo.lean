/- The program's own replica.Check. -/
import Derived.Test.YtmdgkjbiicaljagDoorReplMem
import Derived.Test.YtmdgkjbiicaljagDoorJointCheckMath
import Derived.Deep.DeepCutAuto
namespace Go.Proofs.YtmdgkjbiicaljagDoor
open Go.RowKit
set_option linter.unusedVariables false
set_option linter.unusedSimpArgs false
attribute [local go_sem] app_list ext_list get_list byteAt_zero

theorem isPlace_any (n : Int) (w : World) : Calls Tryd.prog 18 #[.int .i64 n] w fun e w' => e = .returned (.bool (decide (0 ≤ n) && decide (n ≤ 2))) ∧ w' = w := by
  by_cases h1 : 0 ≤ n
  · have q1 : decide (0 ≤ n) = true := by simpa using h1
    go_enter Tryd.func18, Tryd.ntmps18
    go_wp2
    go_ret
    refine ⟨?_, rfl⟩
    have : (n < 3) = (n ≤ 2) := by apply propext; omega
    simp [this]
    exact fun _ => h1
  · have q1 : decide (0 ≤ n) = false := by simpa using h1
    rw [q1]
    go_enter Tryd.func18, Tryd.ntmps18
    go_wp2
    go_ret
    exact ⟨by simp, rfl⟩

set_option maxHeartbeats 4000000 in
theorem knows_any (R : ReplM) (v : Value) (w : World) (h : ReplAt w v R) :
    Calls Tryd.prog 38 #[v] w fun e w' => e = .returned (.bool (fours R && knowsIn R)) ∧ Below w.heap.size w w' := by
  obtain ⟨vl, vh, vw, vg, vn, rfl, hl, hh, hw, hg, hn⟩ := h
  obtain ⟨X, HX⟩ : ∃ X, Hid ((fours R && knowsIn R) = X) := ⟨_, rfl⟩
  rw [HX.out]
  have HBD : Hid (∀ k, k < 4 → (lens4 R).getD k 0 ≠ 3 → X = false) := fun k h1 h2 => by rw [← HX.out, fours_bad R k h1 h2]; rfl
  have HGD : Hid ((∀ j, j < 4 → (lens4 R).getD j 0 = 3) → R.hav.length = 3 ∧ R.wants.length = 3 ∧ R.gives.length = 3 ∧ R.given.length = 3 ∧ knowsIn R = X) := fun h => by
    obtain ⟨a, b, c, d, e⟩ := fours_good R h
    refine ⟨a, b, c, d, ?_⟩
    rw [← HX.out, e]
    rfl
  have HKN : Hid (knowsIn R = (R.hav.all (fun x => decide (0 ≤ x) && decide (x ≤ R.kept.log.length)) && R.gives.all (fun k => decide (keptFault k = 0)))) := rfl
  have HL4 : Hid (lens4 R = [(R.hav.length : Int), R.wants.length, R.gives.length, R.given.length]) := rfl
  clear HX
  obtain ⟨me, ⟨vi, nm, cm, l, ct⟩, hav, wants, gives, given⟩ := R
  generalize lens4 _ = L4 at *
  generalize knowsIn _ = KN at *
  simp only [replCells] at *
  obtain ⟨al, cl, rfl, hl1, hl2⟩ := hl
  obtain ⟨ah, ch, rfl, hh1, hh2⟩ := hh
  obtain ⟨aw, cw, rfl, hw1, hw2⟩ := hw
  obtain ⟨ag, cg, rfl, hg1, hg2⟩ := hg
  obtain ⟨an, cn, rfl, hn1, hn2⟩ := hn
  clear hl2 hw2 hn2
  obtain ⟨b0, b1, hb⟩ := boxes2 w 30 3 [.int .i64 me, .int .i64 vi, .int .i64 nm, .bool cm, .slice al l.length cl, .int .i64 ct, .slice ah hav.length ch, .slice aw wants.length cw, .slice ag gives.length cg, .slice an given.length cn] [.int .i64 hav.length, .int .i64 wants.length, .int .i64 gives.length, .int .i64 given.length]
  obtain ⟨w1, hw1⟩ : ∃ w1, w1 = (w.alloc (.cells #[.int .i64 me, .int .i64 vi, .int .i64 nm, .bool cm, .slice al l.length cl, .int .i64 ct, .slice ah hav.length ch, .slice aw wants.length cw, .slice ag gives.length cg, .slice an given.length cn] 30)).alloc (.cells #[.int .i64 hav.length, .int .i64 wants.length, .int .i64 gives.length, .int .i64 given.length] 3) := ⟨_, rfl⟩
  go_enter Tryd.func38, Tryd.ntmps38
  go_upto_region 2 with fail
  rw [← hw1] at b0 b1 hb ⊢
  have HB0 : Hid (Box w1 w.heap.size _ _) := b0
  have HB1 : Hid (Box w1 (w.heap.size + 1) _ _) := b1
  have HBW : Hid (Below w.heap.size w w1) := hb
  have HC : Hid (∀ k, k < 4 → w1.cell? ⟨w.heap.size + 1, k, none⟩ = some (.int .i64 (L4.getD k 0))) := fun k hk => by
    rw [HL4.out]
    match k, hk with
    | 0, _ => exact b1.cell 0 _ rfl
    | 1, _ => exact b1.cell 1 _ rfl
    | 2, _ => exact b1.cell 2 _ rfl
    | 3, _ => exact b1.cell 3 _ rfl
  clear hw1 b0 b1 hb HL4
  go_loopw [23] (fun i wr => ∃ k : Nat, k ≤ 4 ∧ i = .int .i64 k ∧ (∀ j, j < k → L4.getD j 0 = 3) ∧ w1 = wr) (fun i wr => 4 - (intOf i).toNat)
  case atStart => exact ⟨0, by omega, rfl, fun j hj => by omega, rfl⟩
  case round =>
    obtain ⟨k, hk, rfl, hj, rfl⟩ := hrel
    by_cases hlt : k < 4
    · have t0 := HC.out k hlt
      have k0 : (0 : Int) ≤ (k : Int) := by omega
      have k1 : (k : Int) < 4 := by omega
      have HJ : Hid (∀ j, j < k → L4.getD j 0 = 3) := hj
      have HX : Hid (L4.getD k 0 ≠ 3 → X = false) := HBD.out k hlt
      clear hj HBD HGD
      have HT : Hid (L4.getD k 0 = 3 → L4.getD k 0 = 3) := fun h => h
      generalize hq : L4.getD k 0 = q at t0 HX
      have HQ : Hid (L4.getD k 0 = q) := hq
      clear hq HT
      by_cases h3 : q = 3
      · subst h3
        go_wp2_with fail
        go_roundw
        case rel => exact ⟨k + 1, by omega, by go_num, fun j hj => by rcases Nat.lt_succ_iff_lt_or_eq.1 hj with h | rfl; exact HJ.out j h; exact HQ.out, by trivial⟩
        case measure => simp [intOf]; omega
      · have t1 : (q == 3) = false := by simpa using h3
        have t2 : (q != 3) = true := by simpa using h3
        have HF : Hid (X = false) := HX.out h3
        go_wp2_with fail
        go_ret
        exact ⟨by rw [HF.out]; rfl, HBW.out⟩
    · obtain rfl : k = 4 := by omega
      obtain ⟨e1, e2, e3, e4, e5⟩ := HGD.out hj
      have E1 : Hid (hav.length = 3) := e1
      have E3 : Hid (gives.length = 3) := e3
      have E5 : Hid (KN = X) := e5
      have x6 := HB0.out.cell 6 _ rfl
      have x4 := HB0.out.cell 4 _ rfl
      rw [e1] at x6
      clear e1 e2 e3 e4 e5 HGD HBD hj HC hlt hk
      rw [show ((4 : Nat) : Int) = 4 from rfl]
      go_wp2_with fail
      go_loopw [33] (fun i wr => ∃ k : Nat, k ≤ 3 ∧ i = .int .i64 k ∧ (hav.take k).all (fun x => decide (0 ≤ x) && decide (x ≤ l.length)) = true ∧ w1 = wr) (fun i wr => 3 - (intOf i).toNat)
      case atStart => exact ⟨0, by omega, rfl, rfl, rfl⟩
      case round =>
        obtain ⟨k, hk, rfl, hg, rfl⟩ := hrel
        by_cases hlt : k < 3
        · obtain ⟨b, o, rfl, h1⟩ := hh2 k (by rw [E1.out]; exact hlt)
          have t0 := (HBW.out.cell (p := ⟨b, _, none⟩) (lt_of_cell h1)).trans h1
          have k0 : (0 : Int) ≤ (k : Int) := by omega
          have k1 : (k : Int) < 3 := by omega
          have HGK : Hid ((hav.take k).all (fun x => decide (0 ≤ x) && decide (x ≤ l.length)) = true) := hg
          have HNX : Hid ((fun x : Int => decide (0 ≤ x) && decide (x ≤ l.length)) (hav.getD k 0) = true → (hav.take (k + 1)).all (fun x => decide (0 ≤ x) && decide (x ≤ l.length)) = true) := fun h => all_take_next _ hav k 0 hg (by rw [E1.out]; exact hlt) h
          have HBX : Hid ((fun x : Int => decide (0 ≤ x) && decide (x ≤ l.length)) (hav.getD k 0) = false → X = false) := fun h => by rw [← E5.out, HKN.out, all_bad _ hav k 0 (by rw [E1.out]; exact hlt) h]; rfl
          clear hg h1 hh2
          generalize hav.getD k 0 = q at *
          by_cases c1 : q < 0
          · have HF : Hid (X = false) := HBX.out (by simp; omega)
            go_wp2_with fail
            go_ret
            exact ⟨by rw [HF.out]; rfl, HBW.out⟩
          by_cases c2 : (l.length : Int) < q
          · have HF : Hid (X = false) := HBX.out (by simp; omega)
            go_wp2_with fail
            go_ret
            exact ⟨by rw [HF.out]; rfl, HBW.out⟩
          have HN : Hid ((hav.take (k + 1)).all (fun x => decide (0 ≤ x) && decide (x ≤ l.length)) = true) := HNX.out (by simp; omega)
          clear HNX HBX
          go_wp2_with fail
          go_roundw
          case rel => exact ⟨k + 1, by omega, by go_num, HN.out, by trivial⟩
          case measure => simp [intOf]; omega
        · obtain rfl : k = 3 := by omega
          have HA : Hid (gives.all (fun k => decide (keptFault k = 0)) = X) := by
            have : hav.take 3 = hav := by rw [← E1.out, List.take_length]
            rw [this] at hg
            unfold Hid
            rw [← E5.out, HKN.out, hg]
            rfl
          have x8 := HB0.out.cell 8 _ rfl
          rw [E3.out] at x8
          clear hg hlt hk HKN E5 x6 x4 E1 hh2
          rw [show ((3 : Nat) : Int) = 3 from rfl]
          go_wp2_with fail
          go_loopw [51] (fun i wr => ∃ k : Nat, k ≤ 3 ∧ i = .int .i64 k ∧ (gives.take k).all (fun k => decide (keptFault k = 0)) = true ∧ Below w.heap.size w wr) (fun i wr => 3 - (intOf i).toNat)
          case atStart => exact ⟨0, by omega, rfl, rfl, HBW.out⟩
          case round =>
            clear x8
            obtain ⟨k, hk, rfl, hg, hbr⟩ := hrel
            by_cases hlt : k < 3
            · obtain ⟨b, o, vl, rfl, hc, hs⟩ := hg2 k (by rw [E3.out]; exact hlt)
              have hc' : ∀ j u, (keptCells (gives.getD k zeroKept) vl)[j]? = some u → wr.cell? ⟨b, o + k * 5 + j, none⟩ = some u := fun j u h => by
                have := hc j u h
                rw [hbr.cell (p := ⟨b, o + k * 5 + j, none⟩) (lt_of_cell this)]
                exact this
              have HST : Hid (∀ W, Below w.heap.size w W → Calls _ _ _ W _) := fun W hW => stageCheck_any (gives.getD k zeroKept) _ W ⟨vl, rfl, hs.below hW⟩
              have HNX : Hid (keptFault (gives.getD k zeroKept) = 0 → (gives.take (k + 1)).all (fun k => decide (keptFault k = 0)) = true) := fun h => all_take_next _ gives k zeroKept hg (by rw [E3.out]; exact hlt) (by simpa using h)
              have HBX : Hid (keptFault (gives.getD k zeroKept) ≠ 0 → X = false) := fun h => by rw [← HA.out, all_bad _ gives k zeroKept (by rw [E3.out]; exact hlt) (by simpa using h)]
              have HBR : Hid (Below w.heap.size w wr) := hbr
              have k0 : (0 : Int) ≤ (k : Int) := by omega
              have k1 : (k : Int) < 3 := by omega
              obtain ⟨av, cv, rfl, _, _⟩ := hs
              clear hc hg hg2 hbr
              generalize gives.getD k zeroKept = q at *
              generalize keptFault q = D at *
              obtain ⟨v', n', c', l', t'⟩ := q
              simp only [keptCells] at hc' HST
              have c0 := hc' 0 _ rfl
              have c1 := hc' 1 _ rfl
              have c2 := hc' 2 _ rfl
              have c3 := hc' 3 _ rfl
              have c4 := hc' 4 _ rfl
              rw [Nat.add_zero] at c0
              clear hc'
              by_cases hd : D = 0
              · subst hd
                have HN : Hid ((gives.take (k + 1)).all (fun k => decide (keptFault k = 0)) = true) := HNX.out rfl
                clear HNX HBX
                go_wp2_with fail
                refine (HST.out _ (by exact Below.up HBR.out _)).mono ?_
                rintro e w2 ⟨rfl, hb2⟩
                have HBB : Hid (Below w.heap.size w w2) := Below.far (Below.up HBR.out _) hb2
                clear hb2 HST
                go_wp2_with fail
                go_roundw
                case rel => exact ⟨k + 1, by omega, by go_num, HN.out, HBB.out⟩
                case measure => simp [intOf]; omega
              · have t1 : (D == 0) = false := by simpa using hd
                have t2 : (D != 0) = true := by simpa using hd
                have HF : Hid (X = false) := HBX.out hd
                clear HNX HBX hd
                go_wp2_with fail
                refine (HST.out _ (by exact Below.up HBR.out _)).mono ?_
                rintro e w2 ⟨rfl, hb2⟩
                have HBB : Hid (Below w.heap.size w w2) := Below.far (Below.up HBR.out _) hb2
                clear hb2 HST
                go_wp2_with fail
                go_ret
                exact ⟨by rw [HF.out]; rfl, HBB.out⟩
            · obtain rfl : k = 3 := by omega
              have HF : Hid (X = true) := by
                have : gives.take 3 = gives := by rw [← E3.out, List.take_length]
                rw [this] at hg
                unfold Hid
                rw [← HA.out, hg]
              have HBR : Hid (Below w.heap.size w wr) := hbr
              clear hg hbr hg2
              go_wp2_with fail
              go_ret
              exact ⟨by rw [HF.out]; rfl, HBR.out⟩

set_option maxHeartbeats 1000000 in
theorem replCheck_any (R : ReplM) (v : Value) (w : World) (h : ReplAt w v R) :
    Calls Tryd.prog 24 #[v] w fun e w' => e = .returned (.int .i64 (replFault R)) ∧ Below w.heap.size w w' := by
  have HKN : Hid (∀ W, Below w.heap.size w W → Calls _ _ _ W _) := fun W hW => knows_any R _ W (h.below hW)
  obtain ⟨vl, vh, vw, vg, vn, rfl, hl, hh, hw, hg, hn⟩ := h
  have HST : Hid (∀ W, Below w.heap.size w W → Calls _ _ _ W _) := fun W hW => stageCheck_any R.kept _ W ⟨vl, rfl, hl.below hW⟩
  have HRF : Hid (replFault R = if 0 ≤ R.me ∧ R.me ≤ 2 then (if (fours R && knowsIn R) = true then keptFault R.kept else 8) else 2) := rfl
  generalize replFault R = X at *
  generalize (fours R && knowsIn R) = Y at *
  obtain ⟨me, K, hav, wants, gives, given⟩ := R
  simp only [replCells] at *
  generalize keptFault K = Z at *
  obtain ⟨vi, nm, cm, l, ct⟩ := K
  obtain ⟨al, cl, rfl, _, _⟩ := hl
  obtain ⟨ah, ch, rfl, _, _⟩ := hh
  obtain ⟨aw, cw, rfl, _, _⟩ := hw
  obtain ⟨ag, cg, rfl, _, _⟩ := hg
  obtain ⟨an, cn, rfl, _, _⟩ := hn
  simp only at *
  have HIP : Hid (∀ w, Calls _ _ _ w _) := fun w => isPlace_any me w
  have b0 := Box.new w 30 [.int .i64 me, .int .i64 vi, .int .i64 nm, .bool cm, .slice al l.length cl, .int .i64 ct, .slice ah hav.length ch, .slice aw wants.length cw, .slice ag gives.length cg, .slice an given.length cn]
  have HB : Hid (Below w.heap.size w _) := below_alloc w (.cells #[.int .i64 me, .int .i64 vi, .int .i64 nm, .bool cm, .slice al l.length cl, .int .i64 ct, .slice ah hav.length ch, .slice aw wants.length cw, .slice ag gives.length cg, .slice an given.length cn] 30)
  obtain ⟨w0, hw0⟩ : ∃ w0, w0 = w.alloc (.cells #[.int .i64 me, .int .i64 vi, .int .i64 nm, .bool cm, .slice al l.length cl, .int .i64 ct, .slice ah hav.length ch, .slice aw wants.length cw, .slice ag gives.length cg, .slice an given.length cn] 30) := ⟨_, rfl⟩
  by_cases hm : 0 ≤ me ∧ me ≤ 2
  · have em : (decide (0 ≤ me) && decide (me ≤ 2)) = true := by simpa using hm
    rw [em] at HIP
    have HX : Hid (X = if Y = true then Z else 8) := by unfold Hid; rw [HRF.out, if_pos hm]
    clear HRF hm em
    go_enter Tryd.func24, Tryd.ntmps24
    go_upto_region 1 with fail
    rw [← hw0] at b0 HB ⊢
    clear hw0
    have x0 := b0.cell 0 _ rfl
    have x1 := b0.cell 1 _ rfl
    have x2 := b0.cell 2 _ rfl
    have x3 := b0.cell 3 _ rfl
    have x4 := b0.cell 4 _ rfl
    have x5 := b0.cell 5 _ rfl
    have x6 := b0.cell 6 _ rfl
    have x7 := b0.cell 7 _ rfl
    have x8 := b0.cell 8 _ rfl
    have x9 := b0.cell 9 _ rfl
    have lx := b0.lt
    have HB0 : Hid (Box _ _ _ _) := b0
    clear b0
    go_wp2_with fail
    refine (HIP.out _).mono ?_
    rintro e w1 ⟨rfl, rfl⟩
    go_wp2_with fail
    refine (HKN.out _ HB.out).mono ?_
    rintro e w2 ⟨rfl, hb2⟩
    have HB2 : Hid (Below w.heap.size w w2) := Below.far HB.out hb2
    have b2 := HB0.out.below hb2 HB0.out.lt
    clear x0 x1 x2 x3 x4 x5 x6 x7 x8 x9 lx hb2 HIP HKN
    have x0 := b2.cell 0 _ rfl
    have x1 := b2.cell 1 _ rfl
    have x2 := b2.cell 2 _ rfl
    have x3 := b2.cell 3 _ rfl
    have x4 := b2.cell 4 _ rfl
    have x5 := b2.cell 5 _ rfl
    have x6 := b2.cell 6 _ rfl
    have x7 := b2.cell 7 _ rfl
    have x8 := b2.cell 8 _ rfl
    have x9 := b2.cell 9 _ rfl
    have lx := b2.lt
    clear b2
    cases Y
    · go_wp2_with fail
      go_ret
      exact ⟨by rw [HX.out]; rfl, HB2.out⟩
    · go_wp2_with fail
      refine (HST.out _ HB2.out).mono ?_
      rintro e w3 ⟨rfl, hb3⟩
      have HB3 : Hid (Below w.heap.size w w3) := Below.far HB2.out hb3
      clear x0 x1 x2 x3 x4 x5 x6 x7 x8 x9 lx hb3
      go_wp2_with fail
      go_ret
      exact ⟨by rw [HX.out]; rfl, HB3.out⟩
  · have em : (decide (0 ≤ me) && decide (me ≤ 2)) = false := by simp; omega
    rw [em] at HIP
    have HX : Hid (X = 2) := by unfold Hid; rw [HRF.out, if_neg hm]
    clear HRF hm em
    go_enter Tryd.func24, Tryd.ntmps24
    go_upto_region 1 with fail
    rw [← hw0] at b0 HB ⊢
    clear hw0
    have x0 := b0.cell 0 _ rfl
    have x1 := b0.cell 1 _ rfl
    have x2 := b0.cell 2 _ rfl
    have x3 := b0.cell 3 _ rfl
    have x4 := b0.cell 4 _ rfl
    have x5 := b0.cell 5 _ rfl
    have x6 := b0.cell 6 _ rfl
    have x7 := b0.cell 7 _ rfl
    have x8 := b0.cell 8 _ rfl
    have x9 := b0.cell 9 _ rfl
    have lx := b0.lt
    clear b0
    go_wp2_with fail
    refine (HIP.out _).mono ?_
    rintro e w1 ⟨rfl, rfl⟩
    go_wp2_with fail
    go_ret
    exact ⟨by rw [HX.out]; rfl, HB.out⟩

end Go.Proofs.YtmdgkjbiicaljagDoor
