/- The program's own replica.CheckMessage. -/
import Derived.Test.YtmdgkjbiicaljagDoorReplMem
import Derived.Test.YtmdgkjbiicaljagDoorCheckGo
import Derived.Test.YtmdgkjbiicaljagDoorJointTurnGo
import Derived.Deep.DeepCutAuto
import Derived.BigQuiet
import Derived.Deep.QuietTactic
namespace Go.Proofs.YtmdgkjbiicaljagDoor
open Go.RowKit
set_option linter.unusedVariables false
set_option linter.unusedSimpArgs false

def tooMuch (m : MsgM) : Bool := ((decide (m.kind ≠ 4) && decide (m.normal ≠ 0)) || (decide (m.kind ≠ 2) && decide (m.n ≠ 0))) || (isHW m && (decide (m.commit ≠ 0) || decide (m.log.length ≠ 0)))
def astray (m : MsgM) : Bool := (decide (m.kind = 1) && decide (m.frm ≠ m.view.tmod 3)) || (isHG m && decide (m.dst ≠ m.view.tmod 3))
theorem form_is (m : MsgM) : msgForm m = (!(tooMuch m) && !(astray m)) := by
  unfold msgForm tooMuch astray
  generalize ((decide (m.kind ≠ 4) && decide (m.normal ≠ 0)) || (decide (m.kind ≠ 2) && decide (m.n ≠ 0))) = a
  generalize (isHW m && (decide (m.commit ≠ 0) || decide (m.log.length ≠ 0))) = b
  generalize ((decide (m.kind = 1) && decide (m.frm ≠ m.view.tmod 3)) || (isHG m && decide (m.dst ≠ m.view.tmod 3))) = c
  cases a <;> cases b <;> cases c <;> rfl
theorem kinds4 {k : Int} (h : 1 ≤ k ∧ k ≤ 4) : k = 1 ∨ k = 2 ∨ k = 3 ∨ k = 4 := by omega
theorem eq_facts (a b : Int) : (a = b ∧ (a == b) = true ∧ (a != b) = false) ∨ (a ≠ b ∧ (a == b) = false ∧ (a != b) = true) := by
  by_cases h : a = b
  · exact Or.inl ⟨h, by simp [h], by simp [h]⟩
  · exact Or.inr ⟨h, by simp [h], by simp [h]⟩

set_option maxHeartbeats 4000000 in
theorem tooMuch_any (M : MsgM) (v : Value) (w : World) (h : MsgAt w v M) (hk : 1 ≤ M.kind ∧ M.kind ≤ 4) :
    Calls Tryd.prog 58 #[v] w fun e w' => e = .returned (.bool (tooMuch M)) ∧ Below w.heap.size w w' := by
  obtain ⟨vl, rfl, hs⟩ := h
  obtain ⟨a, c, rfl, hl, _⟩ := hs
  obtain ⟨kd, fr, ds, vi, nm, ct, n, l⟩ := M
  simp only [msgCells] at *
  have HB : Hid (Below w.heap.size w _) := below_alloc w (.cells #[.int .i64 kd, .int .i64 fr, .int .i64 ds, .int .i64 vi, .int .i64 nm, .int .i64 ct, .int .i64 n, .slice a l.length c] 43)
  obtain ⟨X, HX⟩ : ∃ X, Hid (tooMuch ⟨kd, fr, ds, vi, nm, ct, n, l⟩ = X) := ⟨_, rfl⟩
  rw [HX.out]
  have HX' : Hid (X = (((decide (kd ≠ 4) && decide (nm ≠ 0)) || (decide (kd ≠ 2) && decide (n ≠ 0))) || ((decide (kd = 2) || decide (kd = 3)) && (decide (ct ≠ 0) || decide (l.length ≠ 0))))) := HX.out.symm
  clear HX
  rcases kinds4 hk with rfl | rfl | rfl | rfl
  all_goals clear hk
  all_goals rcases eq_facts nm 0 with ⟨rfl, p1, p2⟩ | ⟨q1, p1, p2⟩
  all_goals rcases eq_facts n 0 with ⟨rfl, p3, p4⟩ | ⟨q3, p3, p4⟩
  all_goals rcases eq_facts ct 0 with ⟨rfl, p5, p6⟩ | ⟨q5, p5, p6⟩
  all_goals
    go_enter Tryd.func58, Tryd.ntmps58
    go_wp2_with fail
    go_ret
    refine ⟨?_, HB.out⟩
    rw [HX'.out]
    clear HB HX'
    try simp [*]
    try (cases l <;> simp)

set_option maxHeartbeats 4000000 in
theorem astray_any (M : MsgM) (v : Value) (w : World) (h : MsgAt w v M) (hk : 1 ≤ M.kind ∧ M.kind ≤ 4) :
    Calls Tryd.prog 59 #[v] w fun e w' => e = .returned (.bool (astray M)) ∧ Below w.heap.size w w' := by
  obtain ⟨vl, rfl, hs⟩ := h
  obtain ⟨a, c, rfl, hl, _⟩ := hs
  obtain ⟨kd, fr, ds, vi, nm, ct, n, l⟩ := M
  simp only [msgCells] at *
  have HB : Hid (Below w.heap.size w _) := below_alloc w (.cells #[.int .i64 kd, .int .i64 fr, .int .i64 ds, .int .i64 vi, .int .i64 nm, .int .i64 ct, .int .i64 n, .slice a l.length c] 43)
  obtain ⟨X, HX⟩ : ∃ X, Hid (astray ⟨kd, fr, ds, vi, nm, ct, n, l⟩ = X) := ⟨_, rfl⟩
  rw [HX.out]
  have HX' : Hid (X = ((decide (kd = 1) && decide (fr ≠ vi.tmod 3)) || ((decide (kd = 2) || decide (kd = 4)) && decide (ds ≠ vi.tmod 3)))) := HX.out.symm
  clear HX
  have HLD : Hid (∀ W, Calls _ _ _ W _) := fun W => leader_any vi W
  rcases kinds4 hk with rfl | rfl | rfl | rfl
  all_goals clear hk
  case inr.inr.inl =>
    go_enter Tryd.func59, Tryd.ntmps59
    go_wp2_with fail
    go_ret
    exact ⟨by rw [HX'.out]; rfl, HB.out⟩
  all_goals
    go_enter Tryd.func59, Tryd.ntmps59
    go_wp2_with fail
    go_quiet (first | (go_at_call 17; refine (HLD.out _).mono ?_; rintro e w' ⟨rfl, rfl⟩; exact ⟨rfl, _, rfl⟩))
    go_wp2_with fail
    go_ret
    refine ⟨?_, Below.far HB.out (below_drew_n _ _)⟩
    rw [HX'.out]
    simp
    rfl

theorem mtold_any (M : MsgM) (v : Value) (w : World) (h : MsgAt w v M) :
    Calls Tryd.prog 50 #[v] w fun e w' => ∃ v', e = .returned v' ∧ KeptAt w' v' (msgKept M) ∧ Below w.heap.size w w' := by
  obtain ⟨vl, rfl, hs⟩ := h
  have HS : Hid (Strs w vl M.log) := hs
  obtain ⟨a, c, rfl, hl, _⟩ := hs
  obtain ⟨kd, fr, ds, vi, nm, ct, n, l⟩ := M
  simp only [msgCells, msgKept] at *
  obtain ⟨b0, b1, hb⟩ := boxes2 w 43 25 [.int .i64 kd, .int .i64 fr, .int .i64 ds, .int .i64 vi, .int .i64 nm, .int .i64 ct, .int .i64 n, .slice a l.length c] [.int .i64 0, .int .i64 0, .bool false, .slice none 0 0, .int .i64 0]
  obtain ⟨w0, hw0⟩ : ∃ w0, w0 = (w.alloc (.cells #[.int .i64 kd, .int .i64 fr, .int .i64 ds, .int .i64 vi, .int .i64 nm, .int .i64 ct, .int .i64 n, .slice a l.length c] 43)).alloc (.cells #[.int .i64 0, .int .i64 0, .bool false, .slice none 0 0, .int .i64 0] 25) := ⟨_, rfl⟩
  go_enter Tryd.func50, Tryd.ntmps50
  go_upto_region 1 with fail
  rw [← hw0] at b0 b1 hb ⊢
  clear hw0
  have x0 := b0.cell 0 _ rfl
  have x1 := b0.cell 1 _ rfl
  have x2 := b0.cell 2 _ rfl
  have x3 := b0.cell 3 _ rfl
  have x4 := b0.cell 4 _ rfl
  have x5 := b0.cell 5 _ rfl
  have x6 := b0.cell 6 _ rfl
  have x7 := b0.cell 7 _ rfl
  have r0 := b1.cell 0 _ rfl
  have r1 := b1.cell 1 _ rfl
  have r2 := b1.cell 2 _ rfl
  have r3 := b1.cell 3 _ rfl
  have r4 := b1.cell 4 _ rfl
  have f0 := b1.frozen 0
  have f1 := b1.frozen 1
  have f2 := b1.frozen 2
  have f3 := b1.frozen 3
  have f4 := b1.frozen 4
  have HB : Hid (Below w.heap.size w _) := (((((hb.setCell (p := ⟨w.heap.size + 1, 0, none⟩) (by simp) (.int .i64 vi)).setCell (p := ⟨w.heap.size + 1, 1, none⟩) (by simp) (.int .i64 nm)).setCell (p := ⟨w.heap.size + 1, 2, none⟩) (by simp) (.bool false)).setCell (p := ⟨w.heap.size + 1, 3, none⟩) (by simp) (.slice a l.length c)).setCell (p := ⟨w.heap.size + 1, 4, none⟩) (by simp) (.int .i64 ct))
  clear b0 b1 hb
  go_wp2_with fail
  refine bodyPost_ret (v := .agg #[.int .i64 vi, .int .i64 nm, .bool false, .slice a l.length c, .int .i64 ct]) ?_ rfl ⟨_, rfl, ⟨_, rfl, HS.out.below HB.out⟩, HB.out⟩
  clear HS HB
  simp [results, Tryd.results50, go_sem, *]

-- MSGCHECK
set_option maxHeartbeats 4000000 in
theorem msgCheck_any (M : MsgM) (v : Value) (w : World) (h : MsgAt w v M) :
    Calls Tryd.prog 42 #[v] w fun e w' => e = .returned (.int .i64 (msgFault M)) ∧ Below w.heap.size w w' := by
  have HTM : Hid (∀ W, Below w.heap.size w W → 1 ≤ M.kind ∧ M.kind ≤ 4 → Calls _ _ _ W _) := fun W hW hk => tooMuch_any M _ W (h.below hW) hk
  have HAS : Hid (∀ W, Below w.heap.size w W → 1 ≤ M.kind ∧ M.kind ≤ 4 → Calls _ _ _ W _) := fun W hW hk => astray_any M _ W (h.below hW) hk
  have HTO : Hid (∀ W, Below w.heap.size w W → Calls _ _ _ W _) := fun W hW => mtold_any M _ W (h.below hW)
  have HF : Hid (msgFault M = if 1 ≤ M.kind ∧ M.kind ≤ 4 then (if msgRange M = true then (if (!(tooMuch M) && !(astray M)) = true then keptFault (msgKept M) else 4) else 2) else 3) := by
    unfold Hid
    rw [← form_is]
    rfl
  have HRG : Hid (msgRange M = (((decide (0 ≤ M.frm) && decide (M.frm ≤ 2)) && (decide (0 ≤ M.dst) && decide (M.dst ≤ 2))) && (decide (M.frm ≠ M.dst) && ((decide (0 ≤ M.view) && decide (M.view ≤ 1048576)) && (decide (0 ≤ M.n) && decide (M.n ≤ 60)))))) := rfl
  have HST : Hid (∀ W v', KeptAt W v' (msgKept M) → Calls _ _ _ W _) := fun W v' hv => stageCheck_any (msgKept M) _ W hv
  obtain ⟨vl, rfl, hs⟩ := h
  obtain ⟨a, c, rfl, hl, _⟩ := hs
  generalize msgFault M = X at *
  generalize msgRange M = RG at *
  generalize tooMuch M = TM at *
  generalize astray M = AS at *
  generalize keptFault (msgKept M) = Z at *
  obtain ⟨kd, fr, ds, vi, nm, ct, n, l⟩ := M
  simp only [msgCells] at *
  have b0 := Box.new w 43 [.int .i64 kd, .int .i64 fr, .int .i64 ds, .int .i64 vi, .int .i64 nm, .int .i64 ct, .int .i64 n, .slice a l.length c]
  have HB : Hid (Below w.heap.size w _) := below_alloc w (.cells #[.int .i64 kd, .int .i64 fr, .int .i64 ds, .int .i64 vi, .int .i64 nm, .int .i64 ct, .int .i64 n, .slice a l.length c] 43)
  obtain ⟨w0, hw0⟩ : ∃ w0, w0 = w.alloc (.cells #[.int .i64 kd, .int .i64 fr, .int .i64 ds, .int .i64 vi, .int .i64 nm, .int .i64 ct, .int .i64 n, .slice a l.length c] 43) := ⟨_, rfl⟩
  have HI1 : Hid (∀ W, Calls _ _ _ W _) := fun W => isPlace_any fr W
  have HI2 : Hid (∀ W, Calls _ _ _ W _) := fun W => isPlace_any ds W
  by_cases hk : 1 ≤ kd ∧ kd ≤ 4
  case neg =>
    have HX : Hid (X = 3) := by unfold Hid; rw [HF.out, if_neg hk]
    clear HF HRG HTM HAS HTO HST HI1 HI2
    by_cases k1 : kd < 1
    · go_enter Tryd.func42, Tryd.ntmps42
      go_upto_region 1 with fail
      rw [← hw0] at b0 HB ⊢
      clear hw0
      have x0 := b0.cell 0 _ rfl
      have x1 := b0.cell 1 _ rfl
      have x2 := b0.cell 2 _ rfl
      have x3 := b0.cell 3 _ rfl
      have x4 := b0.cell 4 _ rfl
      have x5 := b0.cell 5 _ rfl
      have x6 := b0.cell 6 _ rfl
      have x7 := b0.cell 7 _ rfl
      have HB0 : Hid (Box _ _ _ _) := b0
      clear b0
      go_wp2_with fail
      go_ret
      exact ⟨by rw [HX.out]; rfl, HB.out⟩
    · have k2 : 4 < kd := by omega
      go_enter Tryd.func42, Tryd.ntmps42
      go_upto_region 1 with fail
      rw [← hw0] at b0 HB ⊢
      clear hw0
      have x0 := b0.cell 0 _ rfl
      have x1 := b0.cell 1 _ rfl
      have x2 := b0.cell 2 _ rfl
      have x3 := b0.cell 3 _ rfl
      have x4 := b0.cell 4 _ rfl
      have x5 := b0.cell 5 _ rfl
      have x6 := b0.cell 6 _ rfl
      have x7 := b0.cell 7 _ rfl
      have HB0 : Hid (Box _ _ _ _) := b0
      clear b0
      go_wp2_with fail
      go_ret
      exact ⟨by rw [HX.out]; rfl, HB.out⟩
  have HG : Hid (X = if RG = true then (if (!TM && !AS) = true then Z else 4) else 2) := by unfold Hid; rw [HF.out, if_pos hk]
  have HKD : Hid (1 ≤ kd ∧ kd ≤ 4) := hk
  obtain ⟨k1, k2⟩ := hk
  clear HF
  have bad : RG = false → Hid (X = 2) := fun e => by unfold Hid; rw [HG.out, e]; rfl
  by_cases c1 : 0 ≤ fr ∧ fr ≤ 2
  case neg =>
    have HX := bad (by rw [HRG.out]; simp; omega)
    have e1 : (decide (0 ≤ fr) && decide (fr ≤ 2)) = false := by simp; omega
    rw [e1] at HI1
    clear HG HRG bad HTM HAS HTO HST HI2 e1 c1
    go_enter Tryd.func42, Tryd.ntmps42
    go_upto_region 1 with fail
    rw [← hw0] at b0 HB ⊢
    clear hw0
    have x0 := b0.cell 0 _ rfl
    have x1 := b0.cell 1 _ rfl
    have x2 := b0.cell 2 _ rfl
    have x3 := b0.cell 3 _ rfl
    have x4 := b0.cell 4 _ rfl
    have x5 := b0.cell 5 _ rfl
    have x6 := b0.cell 6 _ rfl
    have x7 := b0.cell 7 _ rfl
    have HB0 : Hid (Box _ _ _ _) := b0
    clear b0
    go_wp2_with fail
    refine (HI1.out _).mono ?_
    rintro e w1 ⟨rfl, rfl⟩
    go_wp2_with fail
    go_ret
    exact ⟨by rw [HX.out]; rfl, HB.out⟩
  have e1 : (decide (0 ≤ fr) && decide (fr ≤ 2)) = true := by simp; omega
  rw [e1] at HI1
  by_cases c2 : 0 ≤ ds ∧ ds ≤ 2
  case neg =>
    have HX := bad (by rw [HRG.out]; simp; omega)
    have e2 : (decide (0 ≤ ds) && decide (ds ≤ 2)) = false := by simp; omega
    rw [e2] at HI2
    clear HG HRG bad HTM HAS HTO HST e1 c1 e2 c2
    go_enter Tryd.func42, Tryd.ntmps42
    go_upto_region 1 with fail
    rw [← hw0] at b0 HB ⊢
    clear hw0
    have x0 := b0.cell 0 _ rfl
    have x1 := b0.cell 1 _ rfl
    have x2 := b0.cell 2 _ rfl
    have x3 := b0.cell 3 _ rfl
    have x4 := b0.cell 4 _ rfl
    have x5 := b0.cell 5 _ rfl
    have x6 := b0.cell 6 _ rfl
    have x7 := b0.cell 7 _ rfl
    have HB0 : Hid (Box _ _ _ _) := b0
    clear b0
    go_wp2_with fail
    refine (HI1.out _).mono ?_
    rintro e w1 ⟨rfl, rfl⟩
    go_wp2_with fail
    refine (HI2.out _).mono ?_
    rintro e w1 ⟨rfl, rfl⟩
    go_wp2_with fail
    go_ret
    exact ⟨by rw [HX.out]; rfl, HB.out⟩
  have e2 : (decide (0 ≤ ds) && decide (ds ≤ 2)) = true := by simp; omega
  rw [e2] at HI2
  rcases eq_facts fr ds with ⟨c3, e3, e4⟩ | ⟨c3, e3, e4⟩
  · have HX := bad (by rw [HRG.out]; simp; omega)
    clear HG HRG bad HTM HAS HTO HST e1 c1 e2 c2 c3
    go_enter Tryd.func42, Tryd.ntmps42
    go_upto_region 1 with fail
    rw [← hw0] at b0 HB ⊢
    clear hw0
    have x0 := b0.cell 0 _ rfl
    have x1 := b0.cell 1 _ rfl
    have x2 := b0.cell 2 _ rfl
    have x3 := b0.cell 3 _ rfl
    have x4 := b0.cell 4 _ rfl
    have x5 := b0.cell 5 _ rfl
    have x6 := b0.cell 6 _ rfl
    have x7 := b0.cell 7 _ rfl
    have HB0 : Hid (Box _ _ _ _) := b0
    clear b0
    go_wp2_with fail
    refine (HI1.out _).mono ?_
    rintro e w1 ⟨rfl, rfl⟩
    go_wp2_with fail
    refine (HI2.out _).mono ?_
    rintro e w1 ⟨rfl, rfl⟩
    go_wp2_with fail
    go_ret
    exact ⟨by rw [HX.out]; rfl, HB.out⟩
  by_cases c4 : vi < 0
  · have HX := bad (by rw [HRG.out]; simp; omega)
    clear HG HRG bad HTM HAS HTO HST e1 c1 e2 c2 c3
    go_enter Tryd.func42, Tryd.ntmps42
    go_upto_region 1 with fail
    rw [← hw0] at b0 HB ⊢
    clear hw0
    have x0 := b0.cell 0 _ rfl
    have x1 := b0.cell 1 _ rfl
    have x2 := b0.cell 2 _ rfl
    have x3 := b0.cell 3 _ rfl
    have x4 := b0.cell 4 _ rfl
    have x5 := b0.cell 5 _ rfl
    have x6 := b0.cell 6 _ rfl
    have x7 := b0.cell 7 _ rfl
    have HB0 : Hid (Box _ _ _ _) := b0
    clear b0
    go_wp2_with fail
    refine (HI1.out _).mono ?_
    rintro e w1 ⟨rfl, rfl⟩
    go_wp2_with fail
    refine (HI2.out _).mono ?_
    rintro e w1 ⟨rfl, rfl⟩
    go_wp2_with fail
    go_ret
    exact ⟨by rw [HX.out]; rfl, HB.out⟩
  by_cases c5 : 1048576 < vi
  · have HX := bad (by rw [HRG.out]; simp; omega)
    clear HG HRG bad HTM HAS HTO HST e1 c1 e2 c2 c3
    go_enter Tryd.func42, Tryd.ntmps42
    go_upto_region 1 with fail
    rw [← hw0] at b0 HB ⊢
    clear hw0
    have x0 := b0.cell 0 _ rfl
    have x1 := b0.cell 1 _ rfl
    have x2 := b0.cell 2 _ rfl
    have x3 := b0.cell 3 _ rfl
    have x4 := b0.cell 4 _ rfl
    have x5 := b0.cell 5 _ rfl
    have x6 := b0.cell 6 _ rfl
    have x7 := b0.cell 7 _ rfl
    have HB0 : Hid (Box _ _ _ _) := b0
    clear b0
    go_wp2_with fail
    refine (HI1.out _).mono ?_
    rintro e w1 ⟨rfl, rfl⟩
    go_wp2_with fail
    refine (HI2.out _).mono ?_
    rintro e w1 ⟨rfl, rfl⟩
    go_wp2_with fail
    go_ret
    exact ⟨by rw [HX.out]; rfl, HB.out⟩
  by_cases c6 : n < 0
  · have HX := bad (by rw [HRG.out]; simp; omega)
    clear HG HRG bad HTM HAS HTO HST e1 c1 e2 c2 c3
    go_enter Tryd.func42, Tryd.ntmps42
    go_upto_region 1 with fail
    rw [← hw0] at b0 HB ⊢
    clear hw0
    have x0 := b0.cell 0 _ rfl
    have x1 := b0.cell 1 _ rfl
    have x2 := b0.cell 2 _ rfl
    have x3 := b0.cell 3 _ rfl
    have x4 := b0.cell 4 _ rfl
    have x5 := b0.cell 5 _ rfl
    have x6 := b0.cell 6 _ rfl
    have x7 := b0.cell 7 _ rfl
    have HB0 : Hid (Box _ _ _ _) := b0
    clear b0
    go_wp2_with fail
    refine (HI1.out _).mono ?_
    rintro e w1 ⟨rfl, rfl⟩
    go_wp2_with fail
    refine (HI2.out _).mono ?_
    rintro e w1 ⟨rfl, rfl⟩
    go_wp2_with fail
    go_ret
    exact ⟨by rw [HX.out]; rfl, HB.out⟩
  by_cases c7 : 60 < n
  · have HX := bad (by rw [HRG.out]; simp; omega)
    clear HG HRG bad HTM HAS HTO HST e1 c1 e2 c2 c3
    go_enter Tryd.func42, Tryd.ntmps42
    go_upto_region 1 with fail
    rw [← hw0] at b0 HB ⊢
    clear hw0
    have x0 := b0.cell 0 _ rfl
    have x1 := b0.cell 1 _ rfl
    have x2 := b0.cell 2 _ rfl
    have x3 := b0.cell 3 _ rfl
    have x4 := b0.cell 4 _ rfl
    have x5 := b0.cell 5 _ rfl
    have x6 := b0.cell 6 _ rfl
    have x7 := b0.cell 7 _ rfl
    have HB0 : Hid (Box _ _ _ _) := b0
    clear b0
    go_wp2_with fail
    refine (HI1.out _).mono ?_
    rintro e w1 ⟨rfl, rfl⟩
    go_wp2_with fail
    refine (HI2.out _).mono ?_
    rintro e w1 ⟨rfl, rfl⟩
    go_wp2_with fail
    go_ret
    exact ⟨by rw [HX.out]; rfl, HB.out⟩
  have HX : Hid (X = if (!TM && !AS) = true then Z else 4) := by
    have : RG = true := by rw [HRG.out]; simp; omega
    unfold Hid
    rw [HG.out, this]
    rfl
  clear HG HRG bad e1 c1 e2 c2 c3
  go_enter Tryd.func42, Tryd.ntmps42
  go_upto_region 1 with fail
  rw [← hw0] at b0 HB ⊢
  clear hw0
  have x0 := b0.cell 0 _ rfl
  have x1 := b0.cell 1 _ rfl
  have x2 := b0.cell 2 _ rfl
  have x3 := b0.cell 3 _ rfl
  have x4 := b0.cell 4 _ rfl
  have x5 := b0.cell 5 _ rfl
  have x6 := b0.cell 6 _ rfl
  have x7 := b0.cell 7 _ rfl
  have HB0 : Hid (Box _ _ _ _) := b0
  clear b0
  go_wp2_with fail
  refine (HI1.out _).mono ?_
  rintro e w1 ⟨rfl, rfl⟩
  go_wp2_with fail
  refine (HI2.out _).mono ?_
  rintro e w1 ⟨rfl, rfl⟩
  go_wp2_with fail
  refine (HTM.out _ HB.out HKD.out).mono ?_
  rintro e w2 ⟨rfl, hb2⟩
  have HB2 : Hid (Below w.heap.size w w2) := Below.far HB.out hb2
  have b2 := HB0.out.below hb2 HB0.out.lt
  clear x0 x1 x2 x3 x4 x5 x6 x7 hb2 HTM HB0 HI1 HI2
  have x0 := b2.cell 0 _ rfl
  have x1 := b2.cell 1 _ rfl
  have x2 := b2.cell 2 _ rfl
  have x3 := b2.cell 3 _ rfl
  have x4 := b2.cell 4 _ rfl
  have x5 := b2.cell 5 _ rfl
  have x6 := b2.cell 6 _ rfl
  have x7 := b2.cell 7 _ rfl
  have HB0 : Hid (Box _ _ _ _) := b2
  clear b2
  cases TM
  case true =>
    go_wp2_with fail
    go_ret
    exact ⟨by rw [HX.out]; rfl, HB2.out⟩
  go_wp2_with fail
  refine (HAS.out _ HB2.out HKD.out).mono ?_
  rintro e w3 ⟨rfl, hb3⟩
  have HB3 : Hid (Below w.heap.size w w3) := Below.far HB2.out hb3
  have b3 := HB0.out.below hb3 HB0.out.lt
  clear x0 x1 x2 x3 x4 x5 x6 x7 hb3 HAS HB0
  have x0 := b3.cell 0 _ rfl
  have x1 := b3.cell 1 _ rfl
  have x2 := b3.cell 2 _ rfl
  have x3 := b3.cell 3 _ rfl
  have x4 := b3.cell 4 _ rfl
  have x5 := b3.cell 5 _ rfl
  have x6 := b3.cell 6 _ rfl
  have x7 := b3.cell 7 _ rfl
  clear b3
  cases AS
  case true =>
    go_wp2_with fail
    go_ret
    exact ⟨by rw [HX.out]; rfl, HB3.out⟩
  go_wp2_with fail
  refine (HTO.out _ HB3.out).mono ?_
  rintro e w4 ⟨v4, rfl, hv4, hb4⟩
  have HB4 : Hid (Below w.heap.size w w4) := Below.far HB3.out hb4
  clear x0 x1 x2 x3 x4 x5 x6 x7 hb4 HTO
  go_wp2_with fail
  refine (HST.out _ _ hv4).mono ?_
  rintro e w5 ⟨rfl, hb5⟩
  have HB5 : Hid (Below w.heap.size w w5) := Below.far HB4.out hb5
  clear hb5 hv4
  go_wp2_with fail
  go_ret
  exact ⟨by rw [HX.out]; rfl, HB5.out⟩

end Go.Proofs.YtmdgkjbiicaljagDoor
