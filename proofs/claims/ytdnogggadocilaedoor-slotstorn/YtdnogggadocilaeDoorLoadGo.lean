/- The program's own stage.Load. -/
import Derived.Test.YtdnogggadocilaeDoorStageMath
import Derived.Test.YtdnogggadocilaeDoorLoadMem
import Derived.Test.YtdnogggadocilaeDoorKdecGo3
namespace Go.Proofs.YtdnogggadocilaeDoor
open Go.RowKit
set_option linter.unusedVariables false
set_option linter.unusedSimpArgs false
attribute [local go_sem] app_list ext_list get_list byteAt_zero

set_option maxHeartbeats 4000000 in
theorem stageLoad_any (l : List (List UInt8)) (v : Value) (w : World) (h : Strs w v l) :
    Calls Tryd.prog 10 #[v] w fun e w' => ∃ v', e = .returned (.tuple #[v', .int .i64 (loadG l), .int .i64 (loadA l), .int .i64 (loadE l)]) ∧ KeptNew w' w.heap.size v' (loadK l) ∧ Below w.heap.size w w' := by
  obtain ⟨a, c, rfl, hlx, hcx⟩ := h
  have b0 := Box.new w 25 [.int .i64 0, .int .i64 0, .bool false, .slice none 0 0, .int .i64 0]
  have hb := below_alloc w (.cells #[.int .i64 0, .int .i64 0, .bool false, .slice none 0 0, .int .i64 0] 25)
  by_cases h2 : l.length = 2
  · have HED : Hid ((ldG l 2 < 0 → loadE l = 13 ∧ loadG l = 0 ∧ loadA l = 0 ∧ loadK l = zeroKept) ∧ (¬ ldG l 2 < 0 → loadE l = 0 ∧ loadG l = ldG l 2 ∧ loadA l = ldA l 2 ∧ loadK l = ldK l 2)) := ld_end l h2
    have HI : Hid (LoadInv w (w.heap.size + 1) (ldK l 0) (.slice none 0 0) ((w.alloc (.cells #[.int .i64 0, .int .i64 0, .bool false, .slice none 0 0, .int .i64 0] 25)).alloc (.cells #[.int .i64 0, .int .i64 0, .bool false, .slice none 0 0, .int .i64 0] 25))) := by
      obtain ⟨c0, c1, hc⟩ := boxes2 w 25 25 [.int .i64 0, .int .i64 0, .bool false, .slice none 0 0, .int .i64 0] [.int .i64 0, .int .i64 0, .bool false, .slice none 0 0, .int .i64 0]
      exact ⟨hc, c0, c1, World.ownsRow_nil _ _ _ _, by omega⟩
    rw [h2] at hcx hlx ⊢
    have HL2 : Hid (l.length = 2) := h2
    clear b0 hb h2
    go_enter Tryd.func10, Tryd.ntmps10
    go_wp2_with fail
    go_loopw [7, 8, 20] (fun g p i wr => ∃ (k : Nat) (vl : Value), k ≤ 2 ∧ i = .int .i64 k ∧ g = .int .i64 (ldG l k) ∧ p = .int .i64 (ldA l k) ∧ LoadInv w (w.heap.size + 1) (ldK l k) vl wr) (fun _ _ i wr => 2 - (intOf i).toNat)
    case atStart => exact ⟨0, _, by omega, rfl, rfl, rfl, HI.out⟩
    case round =>
      clear HI
      obtain ⟨k, vl, hk, rfl, rfl, rfl, I⟩ := hrel
      obtain ⟨au, cu, rfl⟩ := own_formN I.row
      by_cases hlt : k < 2
      · obtain ⟨b, o, rfl, h1, h3⟩ := hcx k hlt
        have t0 := (I.below.cell (p := ⟨b, _, none⟩) (lt_of_cell h1)).trans h1
        have HD : Hid (∀ w, Calls _ _ _ w _) := fun w => stageDec_any (l.getD k []) w (by omega)
        have HS : Hid (ldG l (k + 1) = (if kdecE (l.getD k []) = 0 ∧ ldG l k < kdecG (l.getD k []) then kdecG (l.getD k []) else ldG l k) ∧ ldA l (k + 1) = (if kdecE (l.getD k []) = 0 ∧ ldG l k < kdecG (l.getD k []) then (k : Int) else ldA l k) ∧ ldK l (k + 1) = (if kdecE (l.getD k []) = 0 ∧ ldG l k < kdecG (l.getD k []) then kdecK (l.getD k []) else ldK l k)) := ⟨rfl, rfl, rfl⟩
        have HII : Hid (LoadInv _ _ _ _ wr) := I
        have k0 : (0 : Int) ≤ (k : Int) := by omega
        have k1 : (k : Int) < 2 := by omega
        clear I hcx h1
        obtain ⟨gk, hgk⟩ : ∃ gk, ldG l k = gk := ⟨_, rfl⟩
        obtain ⟨ak, hak⟩ : ∃ ak, ldA l k = ak := ⟨_, rfl⟩
        obtain ⟨Kk, hKk⟩ : ∃ Kk, ldK l k = Kk := ⟨_, rfl⟩
        rw [hgk] at HS ⊢
        rw [hak] at HS ⊢
        rw [hKk] at HS HII
        obtain ⟨s, hs⟩ : ∃ s, l.getD k [] = s := ⟨_, rfl⟩
        rw [hs] at HS HD t0
        obtain ⟨x, hx⟩ : ∃ x, kdecE s = x := ⟨_, rfl⟩
        obtain ⟨y, hy⟩ : ∃ y, kdecG s = y := ⟨_, rfl⟩
        obtain ⟨Kn, hKn⟩ : ∃ Kn, kdecK s = Kn := ⟨_, rfl⟩
        rw [hx, hy, hKn] at HS HD
        clear hgk hak hKk hs hx hy hKn h3
        go_wp2_with fail
        refine (HD.out _).mono ?_
        rintro e w4 ⟨v4, rfl, hn4, hb4⟩
        obtain ⟨vl4, rfl, ho4⟩ := hn4
        obtain ⟨a4, c4, rfl⟩ := own_formN ho4
        have J4 := HII.out.next (Below.up hb4 (.cells #[.int .i64 Kn.view, .int .i64 Kn.normal, .bool Kn.calm, .slice a4 Kn.log.length c4, .int .i64 Kn.commit] 25))
        have B10 := Box.new w4 25 [.int .i64 Kn.view, .int .i64 Kn.normal, .bool Kn.calm, .slice a4 Kn.log.length c4, .int .i64 Kn.commit]
        have O4 := own_base (base' := w.heap.size) (own_below ho4 (below_alloc w4 (.cells #[.int .i64 Kn.view, .int .i64 Kn.normal, .bool Kn.calm, .slice a4 Kn.log.length c4, .int .i64 Kn.commit] 25)) (own_lt ho4)) HII.out.below.size
        have n10 : w.heap.size + 1 < w4.heap.size := by have := HII.out.best.lt; have := hb4.size; omega
        obtain ⟨w5, hw5⟩ : ∃ w5, w5 = w4.alloc (.cells #[.int .i64 Kn.view, .int .i64 Kn.normal, .bool Kn.calm, .slice a4 Kn.log.length c4, .int .i64 Kn.commit] 25) := ⟨_, rfl⟩
        go_upto_region 9 with fail
        rw [← hw5] at J4 B10 O4 ⊢
        obtain ⟨b10, hb10⟩ : ∃ b10, w4.heap.size = b10 := ⟨_, rfl⟩
        rw [hb10] at B10 n10 ⊢
        clear hw5 hb10 HII HD hb4 ho4 t0
        have l10 := B10.lt
        by_cases hc : x = 0 ∧ gk < y
        · have HS1 : Hid (ldG l (k + 1) = y ∧ ldA l (k + 1) = k ∧ ldK l (k + 1) = Kn) := by
            have := HS.out
            rw [if_pos hc, if_pos hc, if_pos hc] at this
            exact this
          obtain ⟨rfl, hgy⟩ := hc
          have d1 : decide (gk < y) = true := by simp [hgy]
          have HN : Hid (LoadInv _ _ _ _ _) := J4.take O4
          have p0 := B10.cell 0 _ rfl
          have p1 := B10.cell 1 _ rfl
          have p2 := B10.cell 2 _ rfl
          have p3 := B10.cell 3 _ rfl
          have p4 := B10.cell 4 _ rfl
          have RB := J4.best
          have r0 := RB.cell 0 _ rfl
          have r1 := RB.cell 1 _ rfl
          have r2 := RB.cell 2 _ rfl
          have r3 := RB.cell 3 _ rfl
          have r4 := RB.cell 4 _ rfl
          have f0 := RB.frozen 0
          have f1 := RB.frozen 1
          have f2 := RB.frozen 2
          have f3 := RB.frozen 3
          have f4 := RB.frozen 4
          have ne1 : ¬ b10 = w.heap.size + 1 := by omega
          clear B10 J4 O4 RB HS
          go_wp2_with fail
          go_roundw
          case rel => exact ⟨k + 1, _, by omega, by go_num, by rw [HS1.out.1], by rw [HS1.out.2.1], by rw [HS1.out.2.2]; exact HN.out⟩
          case measure => simp [intOf]; omega
        · have HS1 : Hid (ldG l (k + 1) = gk ∧ ldA l (k + 1) = ak ∧ ldK l (k + 1) = Kk) := by
            have := HS.out
            rw [if_neg hc, if_neg hc, if_neg hc] at this
            exact this
          have HN : Hid (LoadInv _ _ _ _ _) := J4
          clear B10 J4 O4 HS
          by_cases hx0 : x = 0
          · subst hx0
            have d1 : decide (gk < y) = false := by simpa using hc
            clear hc
            go_wp2_with fail
            go_roundw
            case rel => exact ⟨k + 1, _, by omega, by go_num, by rw [HS1.out.1], by rw [HS1.out.2.1], by rw [HS1.out.2.2]; exact HN.out⟩
            case measure => simp [intOf]; omega
          · have d1 : (x == 0) = false := by simpa using hx0
            clear hc hx0
            go_wp2_with fail
            go_roundw
            case rel => exact ⟨k + 1, _, by omega, by go_num, by rw [HS1.out.1], by rw [HS1.out.2.1], by rw [HS1.out.2.2]; exact HN.out⟩
            case measure => simp [intOf]; omega
      · obtain rfl : k = 2 := by omega
        have HII : Hid (LoadInv _ _ _ _ wr) := I
        clear I hcx hlt hk
        rw [show ((2 : Nat) : Int) = 2 from rfl]
        obtain ⟨gk, hgk⟩ : ∃ gk, ldG l 2 = gk := ⟨_, rfl⟩
        obtain ⟨ak, hak⟩ : ∃ ak, ldA l 2 = ak := ⟨_, rfl⟩
        obtain ⟨Kk, hKk⟩ : ∃ Kk, ldK l 2 = Kk := ⟨_, rfl⟩
        rw [hgk] at HED ⊢
        rw [hak] at HED ⊢
        rw [hKk] at HED HII
        clear hgk hak hKk
        have RJ := HII.out.res
        have hbJ := HII.out.below
        by_cases hg : gk < 0
        · have HX : Hid (loadE l = 13 ∧ loadG l = 0 ∧ loadA l = 0 ∧ loadK l = zeroKept) := HED.out.1 hg
          have d1 : decide (gk < 0) = true := by simp [hg]
          have r0 := RJ.cell 0 _ rfl
          have r1 := RJ.cell 1 _ rfl
          have r2 := RJ.cell 2 _ rfl
          have r3 := RJ.cell 3 _ rfl
          have r4 := RJ.cell 4 _ rfl
          have f0 := RJ.frozen 0
          have f1 := RJ.frozen 1
          have f2 := RJ.frozen 2
          have f3 := RJ.frozen 3
          have f4 := RJ.frozen 4
          have HB : Hid (Below w.heap.size w _) := (((((hbJ.setCell (p := ⟨w.heap.size, 0, none⟩) (by simp) (.int .i64 0)).setCell (p := ⟨w.heap.size, 1, none⟩) (by simp) (.int .i64 0)).setCell (p := ⟨w.heap.size, 2, none⟩) (by simp) (.bool false)).setCell (p := ⟨w.heap.size, 3, none⟩) (by simp) (.slice none 0 0)).setCell (p := ⟨w.heap.size, 4, none⟩) (by simp) (.int .i64 0))
          clear RJ hbJ HII HED hg
          go_wp2_with fail
          rw [HX.out.1, HX.out.2.1, HX.out.2.2.1, HX.out.2.2.2]
          exact bodyPost_ret (v := .tuple #[.agg #[.int .i64 0, .int .i64 0, .bool false, .slice none 0 0, .int .i64 0], .int .i64 0, .int .i64 0, .int .i64 13]) (by clear HB; simp [results, Tryd.results10, go_sem, *]) rfl ⟨_, rfl, KeptNew.nil _ _, HB.out⟩
        · have HX : Hid (loadE l = 0 ∧ loadG l = gk ∧ loadA l = ak ∧ loadK l = Kk) := HED.out.2 (by omega)
          have d1 : decide (gk < 0) = false := by simpa using hg
          have HN : Hid (KeptNew _ _ _ _) := HII.out.kept
          have RB := HII.out.best
          have p0 := RB.cell 0 _ rfl
          have p1 := RB.cell 1 _ rfl
          have p2 := RB.cell 2 _ rfl
          have p3 := RB.cell 3 _ rfl
          have p4 := RB.cell 4 _ rfl
          have lb := RB.lt
          have r0 := RJ.cell 0 _ rfl
          have r1 := RJ.cell 1 _ rfl
          have r2 := RJ.cell 2 _ rfl
          have r3 := RJ.cell 3 _ rfl
          have r4 := RJ.cell 4 _ rfl
          have f0 := RJ.frozen 0
          have f1 := RJ.frozen 1
          have f2 := RJ.frozen 2
          have f3 := RJ.frozen 3
          have f4 := RJ.frozen 4
          have HB : Hid (Below w.heap.size w _) := (((((hbJ.setCell (p := ⟨w.heap.size, 0, none⟩) (by simp) (.int .i64 Kk.view)).setCell (p := ⟨w.heap.size, 1, none⟩) (by simp) (.int .i64 Kk.normal)).setCell (p := ⟨w.heap.size, 2, none⟩) (by simp) (.bool Kk.calm)).setCell (p := ⟨w.heap.size, 3, none⟩) (by simp) (.slice au Kk.log.length cu)).setCell (p := ⟨w.heap.size, 4, none⟩) (by simp) (.int .i64 Kk.commit))
          clear RJ hbJ RB HII HED hg
          go_wp2_with fail
          rw [HX.out.1, HX.out.2.1, HX.out.2.2.1, HX.out.2.2.2]
          exact bodyPost_ret (v := .tuple #[.agg #[.int .i64 Kk.view, .int .i64 Kk.normal, .bool Kk.calm, .slice au Kk.log.length cu, .int .i64 Kk.commit], .int .i64 gk, .int .i64 ak, .int .i64 0]) (by clear HB HN; simp [results, Tryd.results10, go_sem, *]) rfl ⟨_, rfl, HN.out, HB.out⟩
  · have HX : Hid (loadE l = 4 ∧ loadG l = 0 ∧ loadA l = 0 ∧ loadK l = zeroKept) := load_form l h2
    have q2 : ((l.length : Int) == 2) = false := by simp; omega
    have q3 : ((l.length : Int) != 2) = true := by simp; omega
    have HB : Hid (Below w.heap.size w _) := hb
    clear b0 hb h2 hcx
    go_enter Tryd.func10, Tryd.ntmps10
    go_wp2_with fail
    rw [HX.out.1, HX.out.2.1, HX.out.2.2.1, HX.out.2.2.2]
    exact bodyPost_ret (v := .tuple #[.agg #[.int .i64 0, .int .i64 0, .bool false, .slice none 0 0, .int .i64 0], .int .i64 0, .int .i64 0, .int .i64 4]) (by clear HB; simp [results, Tryd.results10, go_sem, *]) rfl ⟨_, rfl, KeptNew.nil _ _, HB.out⟩

end Go.Proofs.YtdnogggadocilaeDoor
