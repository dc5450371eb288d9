/- The walk of the document's answer EntryOf. -/
import Derived.Test.YtmdgkjbiicaljagJointNumIs
import Derived.Test.YtmdgkjbiicaljagJointKeptRead
import Derived.Deep.DeepCutAuto
namespace Go.Proofs.Ytmdgkjbiicaljag
open Go.RowKit
set_option linter.unusedVariables false
set_option linter.unusedSimpArgs false
attribute [local go_sem] app_list ext_list get_list byteAt_zero length_num

set_option maxHeartbeats 2000000 in
theorem entryOf_any (s : List UInt8) (w : World) (hl : s.length ≤ 281474976710656) :
    Calls Try.prog 35 #[.string ⟨s.toArray⟩] w fun e w' => e = .returned (.tuple #[reqVal (decR s), .int .i64 (decE s)]) ∧ Below w.heap.size w w' := by
  have zz : ∀ x, decE s = x → x ≠ 0 → Hid (reqVal (decR s) = .agg #[.int .i64 0, .int .i64 0, .int .i64 0, .int .i64 0, .int .i64 0, .string ⟨#[]⟩]) := fun x hx h0 => by
    unfold Hid decR
    rw [if_neg (by rw [hx]; exact h0)]
    rfl
  by_cases h1 : 40 < s.length
  · have HE : Hid (decE s = 1) := by unfold Hid decE; rw [if_pos h1]
    have HZ := zz 1 HE.out (by decide)
    clear zz
    go_enter Try.func35, Try.ntmps35
    go_wp2_with fail
    rw [HE.out, HZ.out]
    exact bodyPost_ret (v := .tuple #[.agg #[.int .i64 0, .int .i64 0, .int .i64 0, .int .i64 0, .int .i64 0, .string ⟨#[]⟩], .int .i64 1]) (by simp [results, Try.results35, go_sem]) rfl ⟨rfl, below_alloc _ _⟩
  by_cases h2 : s.length < 4
  · have HE : Hid (decE s = 5) := by unfold Hid decE; rw [if_neg h1, if_pos h2]
    have HZ := zz 5 HE.out (by decide)
    clear zz
    go_enter Try.func35, Try.ntmps35
    go_wp2_with fail
    rw [HE.out, HZ.out]
    exact bodyPost_ret (v := .tuple #[.agg #[.int .i64 0, .int .i64 0, .int .i64 0, .int .i64 0, .int .i64 0, .string ⟨#[]⟩], .int .i64 5]) (by simp [results, Try.results35, go_sem]) rfl ⟨rfl, below_alloc _ _⟩
  have HN : Hid (∀ w, Calls _ _ _ w _) := fun w => numberOf_is (s.drop 4) w (by simp; omega)
  have HT : Hid (∀ w, Calls _ _ _ w _) := fun w => textOf_is (numR (s.drop 4)) w (by have := numR_le (s.drop 4); simp at this; omega)
  have y0 := byteAt_bd s 0
  have y1 := byteAt_bd s 1
  have y2 := byteAt_bd s 2
  have y3 := byteAt_bd s 3
  obtain ⟨b0, b1, hb⟩ := boxes2 w 59 59 [.int .i64 0, .int .i64 0, .int .i64 0, .int .i64 0, .int .i64 0, .string ⟨#[]⟩] [.int .i64 (byteAt s 0), .int .i64 0, .int .i64 (byteAt s 1), .int .i64 (byteAt s 2), .int .i64 (byteAt s 3), .string ⟨#[]⟩]
  have HD : Hid (decE s = if numE (s.drop 4) ≠ 0 then numE (s.drop 4) else if txtE (numR (s.drop 4)) ≠ 0 then txtE (numR (s.drop 4)) else if txtR (numR (s.drop 4)) ≠ [] then 4 else reqFault (reqOf s)) := by
    unfold Hid; conv => lhs; unfold decE
    rw [if_neg h1, if_neg h2]
  have HQ : Hid (reqOf s = ⟨byteAt s 0, numV (s.drop 4), ⟨byteAt s 1, byteAt s 2, byteAt s 3, txtD (numR (s.drop 4))⟩⟩) := rfl
  have n1 : ((s.length : Int) > 40) = False := by simp; omega
  go_enter Try.func35, Try.ntmps35
  go_wp2_with fail
  refine (HN.out _).mono ?_
  rintro e w1 ⟨rfl, hb1⟩
  have c0 := b0.below hb1 b0.lt
  have c1 := b1.below hb1 b1.lt
  have hw1 := Below.seq hb hb1
  clear b0 b1 hb hb1 HN
  obtain ⟨x, hx⟩ : ∃ x, numE (s.drop 4) = x := ⟨_, rfl⟩
  rw [hx] at HD ⊢
  clear hx
  by_cases hx0 : x ≠ 0
  · have HE : Hid (decE s = x) := by unfold Hid; rw [HD.out, if_pos hx0]
    have HZ := zz x HE.out hx0
    have t1 : (x == 0) = false := by simpa using hx0
    have t2 : (x != 0) = true := by simpa using hx0
    have r0 := c0.cell 0 _ rfl
    have r1 := c0.cell 1 _ rfl
    have r2 := c0.cell 2 _ rfl
    have r3 := c0.cell 3 _ rfl
    have r4 := c0.cell 4 _ rfl
    have r5 := c0.cell 5 _ rfl
    have f0 := c0.frozen 0
    have f1 := c0.frozen 1
    have f2 := c0.frozen 2
    have f3 := c0.frozen 3
    have f4 := c0.frozen 4
    have f5 := c0.frozen 5
    have HB : Hid (Below w.heap.size w _) := (((((hw1.setCell (p := ⟨w.heap.size, 0, none⟩) (by simp) (.int .i64 0)).setCell (p := ⟨w.heap.size, 1, none⟩) (by simp) (.int .i64 0)).setCell (p := ⟨w.heap.size, 2, none⟩) (by simp) (.int .i64 0)).setCell (p := ⟨w.heap.size, 3, none⟩) (by simp) (.int .i64 0)).setCell (p := ⟨w.heap.size, 4, none⟩) (by simp) (.int .i64 0)).setCell (p := ⟨w.heap.size, 5, none⟩) (by simp) (.string ⟨#[]⟩)
    clear zz HD HQ HT c0 c1 hw1 hx0
    go_wp2_with fail
    rw [HE.out, HZ.out]
    exact bodyPost_ret (v := .tuple #[.agg #[.int .i64 0, .int .i64 0, .int .i64 0, .int .i64 0, .int .i64 0, .string ⟨#[]⟩], .int .i64 x]) (by clear HB; simp [results, Try.results35, go_sem, *]) rfl ⟨rfl, HB.out⟩
  · have hx : x = 0 := by omega
    subst hx
    have HD2 : Hid (decE s = if txtE (numR (s.drop 4)) ≠ 0 then txtE (numR (s.drop 4)) else if txtR (numR (s.drop 4)) ≠ [] then 4 else reqFault (reqOf s)) := by
      unfold Hid; rw [HD.out, if_neg (by decide)]
    clear hx0 HD
    obtain ⟨t, ht⟩ : ∃ t, numR (s.drop 4) = t := ⟨_, rfl⟩
    rw [ht] at HT HD2 HQ ⊢
    have htl : t.length ≤ s.length := by rw [← ht]; have := numR_le (s.drop 4); simp at this; omega
    clear ht
    go_wp2_with fail
    refine (HT.out _).mono ?_
    rintro e w2 ⟨rfl, hb2⟩
    have d0 := c0.below hb2 c0.lt
    have d1 := c1.below hb2 c1.lt
    have hw2 := Below.seq hw1 hb2
    clear c0 c1 hw1 hb2 HT
    obtain ⟨x, hx⟩ : ∃ x, txtE t = x := ⟨_, rfl⟩
    rw [hx] at HD2 ⊢
    clear hx
    by_cases hx0 : x ≠ 0
    · have HE : Hid (decE s = x) := by unfold Hid; rw [HD2.out, if_pos hx0]
      have HZ := zz x HE.out hx0
      have t1 : (x == 0) = false := by simpa using hx0
      have t2 : (x != 0) = true := by simpa using hx0
      have r0 := d0.cell 0 _ rfl
      have r1 := d0.cell 1 _ rfl
      have r2 := d0.cell 2 _ rfl
      have r3 := d0.cell 3 _ rfl
      have r4 := d0.cell 4 _ rfl
      have r5 := d0.cell 5 _ rfl
      have f0 := d0.frozen 0
      have f1 := d0.frozen 1
      have f2 := d0.frozen 2
      have f3 := d0.frozen 3
      have f4 := d0.frozen 4
      have f5 := d0.frozen 5
      have HB : Hid (Below w.heap.size w _) := (((((hw2.setCell (p := ⟨w.heap.size, 0, none⟩) (by simp) (.int .i64 0)).setCell (p := ⟨w.heap.size, 1, none⟩) (by simp) (.int .i64 0)).setCell (p := ⟨w.heap.size, 2, none⟩) (by simp) (.int .i64 0)).setCell (p := ⟨w.heap.size, 3, none⟩) (by simp) (.int .i64 0)).setCell (p := ⟨w.heap.size, 4, none⟩) (by simp) (.int .i64 0)).setCell (p := ⟨w.heap.size, 5, none⟩) (by simp) (.string ⟨#[]⟩)
      clear zz HD2 HQ d0 d1 hw2 hx0
      go_wp2_with fail
      rw [HE.out, HZ.out]
      exact bodyPost_ret (v := .tuple #[.agg #[.int .i64 0, .int .i64 0, .int .i64 0, .int .i64 0, .int .i64 0, .string ⟨#[]⟩], .int .i64 x]) (by clear HB; simp [results, Try.results35, go_sem, *]) rfl ⟨rfl, HB.out⟩
    · have hx : x = 0 := by omega
      subst hx
      have HD3 : Hid (decE s = if txtR t ≠ [] then 4 else reqFault (reqOf s)) := by
        unfold Hid; rw [HD2.out, if_neg (by decide)]
      clear hx0 HD2
      obtain ⟨u, hu⟩ : ∃ u, txtR t = u := ⟨_, rfl⟩
      rw [hu] at HD3 ⊢
      clear hu
      have hcu : u = [] ∨ ∃ c r, u = c :: r := by cases u; exact Or.inl rfl; exact Or.inr ⟨_, _, rfl⟩
      rcases hcu with rfl | ⟨cu, ru, rfl⟩
      · have HE : Hid (decE s = reqFault (reqOf s)) := by unfold Hid; rw [HD3.out]; simp
        clear HD3
        have hdl := txtD_le t
        obtain ⟨d, hd⟩ : ∃ d, txtD t = d := ⟨_, rfl⟩
        rw [hd] at HQ hdl ⊢
        clear hd
        obtain ⟨m, hmv⟩ : ∃ m, numV (s.drop 4) = m := ⟨_, rfl⟩
        rw [hmv] at HQ ⊢
        clear hmv
        have HF : Hid (∀ w, Calls _ _ _ w _) := fun w => reqFaultR_any (reqOf s) w (by rw [HQ.out]; show d.length ≤ _; omega)
        obtain ⟨f, hf⟩ : ∃ f, reqFault (reqOf s) = f := ⟨_, rfl⟩
        have HDR : Hid (decR s = if f = 0 then reqOf s else zeroReq) := by unfold Hid decR; rw [HE.out, hf]
        rw [hf] at HE HF
        clear hf
        rw [HQ.out] at HF HDR
        unfold reqVal at HF
        have q1 := d1.cell 1 _ rfl
        have q5 := d1.cell 5 _ rfl
        have q0 := d1.cell 0 _ rfl
        have q2 := d1.cell 2 _ rfl
        have q3 := d1.cell 3 _ rfl
        have q4 := d1.cell 4 _ rfl
        have p1 := d1.frozen 1
        have p5 := d1.frozen 5
        go_wp2_with fail
        refine (HF.out _).mono ?_
        rintro e w3 ⟨rfl, hb3⟩
        have ne0 : w.heap.size ≠ w.heap.size + 1 := by omega
        have g0 := ((d0.other (a := ⟨w.heap.size + 1, 1, none⟩) (.int .i64 m) (by simp)).other (a := ⟨w.heap.size + 1, 5, none⟩) (.string ⟨d.toArray⟩) (by simp)).below hb3 (by have := d0.lt; simpa [World.setCell] using this)
        have g1 := ((d1.set 1 (.int .i64 m)).set 5 (.string ⟨d.toArray⟩)).below hb3 (by have := d1.lt; simpa [World.setCell] using this)
        have hw3 : Below w.heap.size w w3 := ((hw2.setCell (p := ⟨w.heap.size + 1, 1, none⟩) (by simp) (.int .i64 m)).setCell (p := ⟨w.heap.size + 1, 5, none⟩) (by simp) (.string ⟨d.toArray⟩)).trans (hb3.mono (by have := hw2.size; simpa [World.setCell] using this))
        clear d0 d1 hw2 hb3 q0 q1 q2 q3 q4 q5 p1 p5 HF
        by_cases hf0 : f = 0
        · subst hf0
          rw [if_pos rfl] at HDR
          have r0 := g0.cell 0 _ rfl
          have r1 := g0.cell 1 _ rfl
          have r2 := g0.cell 2 _ rfl
          have r3 := g0.cell 3 _ rfl
          have r4 := g0.cell 4 _ rfl
          have r5 := g0.cell 5 _ rfl
          have f0 := g0.frozen 0
          have f1 := g0.frozen 1
          have f2 := g0.frozen 2
          have f3 := g0.frozen 3
          have f4 := g0.frozen 4
          have f5 := g0.frozen 5
          have q0 := g1.cell 0 _ rfl
          have q1 := g1.cell 1 _ rfl
          have q2 := g1.cell 2 _ rfl
          have q3 := g1.cell 3 _ rfl
          have q4 := g1.cell 4 _ rfl
          have q5 := g1.cell 5 _ rfl
          have HB : Hid (Below w.heap.size w _) := (((((hw3.setCell (p := ⟨w.heap.size, 0, none⟩) (by simp) (.int .i64 (byteAt s 0))).setCell (p := ⟨w.heap.size, 1, none⟩) (by simp) (.int .i64 m)).setCell (p := ⟨w.heap.size, 2, none⟩) (by simp) (.int .i64 (byteAt s 1))).setCell (p := ⟨w.heap.size, 3, none⟩) (by simp) (.int .i64 (byteAt s 2))).setCell (p := ⟨w.heap.size, 4, none⟩) (by simp) (.int .i64 (byteAt s 3))).setCell (p := ⟨w.heap.size, 5, none⟩) (by simp) (.string ⟨d.toArray⟩)
          clear zz HQ g0 g1 hw3
          go_wp2_with fail
          rw [HE.out, HDR.out]
          unfold reqVal
          exact bodyPost_ret (v := .tuple #[.agg #[.int .i64 (byteAt s 0), .int .i64 m, .int .i64 (byteAt s 1), .int .i64 (byteAt s 2), .int .i64 (byteAt s 3), .string ⟨d.toArray⟩], .int .i64 0]) (by clear HB; simp [results, Try.results35, go_sem, *]) rfl ⟨rfl, HB.out⟩
        · have HZ := zz f HE.out hf0
          have t1 : (f == 0) = false := by simpa using hf0
          have t2 : (f != 0) = true := by simpa using hf0
          have r0 := g0.cell 0 _ rfl
          have r1 := g0.cell 1 _ rfl
          have r2 := g0.cell 2 _ rfl
          have r3 := g0.cell 3 _ rfl
          have r4 := g0.cell 4 _ rfl
          have r5 := g0.cell 5 _ rfl
          have f0 := g0.frozen 0
          have f1 := g0.frozen 1
          have f2 := g0.frozen 2
          have f3 := g0.frozen 3
          have f4 := g0.frozen 4
          have f5 := g0.frozen 5
          have HB : Hid (Below w.heap.size w _) := (((((hw3.setCell (p := ⟨w.heap.size, 0, none⟩) (by simp) (.int .i64 0)).setCell (p := ⟨w.heap.size, 1, none⟩) (by simp) (.int .i64 0)).setCell (p := ⟨w.heap.size, 2, none⟩) (by simp) (.int .i64 0)).setCell (p := ⟨w.heap.size, 3, none⟩) (by simp) (.int .i64 0)).setCell (p := ⟨w.heap.size, 4, none⟩) (by simp) (.int .i64 0)).setCell (p := ⟨w.heap.size, 5, none⟩) (by simp) (.string ⟨#[]⟩)
          clear zz HQ g0 g1 hw3 hf0
          go_wp2_with fail
          rw [HE.out, HZ.out]
          exact bodyPost_ret (v := .tuple #[.agg #[.int .i64 0, .int .i64 0, .int .i64 0, .int .i64 0, .int .i64 0, .string ⟨#[]⟩], .int .i64 f]) (by clear HB; simp [results, Try.results35, go_sem, *]) rfl ⟨rfl, HB.out⟩
      · have HE : Hid (decE s = 4) := by unfold Hid; rw [HD3.out]; simp
        have HZ := zz 4 HE.out (by decide)
        have r0 := d0.cell 0 _ rfl
        have r1 := d0.cell 1 _ rfl
        have r2 := d0.cell 2 _ rfl
        have r3 := d0.cell 3 _ rfl
        have r4 := d0.cell 4 _ rfl
        have r5 := d0.cell 5 _ rfl
        have f0 := d0.frozen 0
        have f1 := d0.frozen 1
        have f2 := d0.frozen 2
        have f3 := d0.frozen 3
        have f4 := d0.frozen 4
        have f5 := d0.frozen 5
        have HB : Hid (Below w.heap.size w _) := (((((hw2.setCell (p := ⟨w.heap.size, 0, none⟩) (by simp) (.int .i64 0)).setCell (p := ⟨w.heap.size, 1, none⟩) (by simp) (.int .i64 0)).setCell (p := ⟨w.heap.size, 2, none⟩) (by simp) (.int .i64 0)).setCell (p := ⟨w.heap.size, 3, none⟩) (by simp) (.int .i64 0)).setCell (p := ⟨w.heap.size, 4, none⟩) (by simp) (.int .i64 0)).setCell (p := ⟨w.heap.size, 5, none⟩) (by simp) (.string ⟨#[]⟩)
        clear zz HD3 HQ d0 d1 hw2
        go_wp2_with fail
        rw [HE.out, HZ.out]
        exact bodyPost_ret (v := .tuple #[.agg #[.int .i64 0, .int .i64 0, .int .i64 0, .int .i64 0, .int .i64 0, .string ⟨#[]⟩], .int .i64 4]) (by clear HB; simp [results, Try.results35, go_sem, *]) rfl ⟨rfl, HB.out⟩

end Go.Proofs.Ytmdgkjbiicaljag

/- The walk of the document's answer KeptFault. -/
namespace Go.Proofs.Ytmdgkjbiicaljag
open Go.RowKit
set_option linter.unusedVariables false
set_option linter.unusedSimpArgs false
attribute [local go_sem] app_list ext_list get_list byteAt_zero

set_option maxHeartbeats 2000000 in
theorem keptFaultOf_any (K : KeptM) (v : Value) (w : World) (h : KeptAt w v K) :
    Calls Try.prog 55 #[v] w fun e w' => e = .returned (.int .i64 (keptFault K)) ∧ Below w.heap.size w w' := by
  obtain ⟨vl, rfl, hs⟩ := h
  obtain ⟨vw, nm, cm, l, ct⟩ := K
  simp only at hs ⊢
  obtain ⟨a, c, rfl, hlx, hcx⟩ := hs
  have b0 := Box.new w 24 [.int .i64 vw, .int .i64 nm, .bool cm, .slice a l.length c, .int .i64 ct]
  have hb := below_alloc w (.cells #[.int .i64 vw, .int .i64 nm, .bool cm, .slice a l.length c, .int .i64 ct] 24)
  obtain ⟨w0, hw0⟩ : ∃ w0, w0 = w.alloc (.cells #[.int .i64 vw, .int .i64 nm, .bool cm, .slice a l.length c, .int .i64 ct] 24) := ⟨_, rfl⟩
  obtain ⟨R, HR⟩ : ∃ R, Hid (keptFault ⟨vw, nm, cm, l, ct⟩ = R) := ⟨_, rfl⟩
  rw [HR.out]
  go_enter Try.func55, Try.ntmps55
  go_upto_region 1 with fail
  rw [← hw0] at b0 hb ⊢
  clear hw0
  have HB0 : Hid (Box w0 w.heap.size _ _) := b0
  have HBW : Hid (Below w.heap.size w w0) := hb
  have x0 := b0.cell 0 _ rfl
  have x1 := b0.cell 1 _ rfl
  have x2 := b0.cell 2 _ rfl
  have x3 := b0.cell 3 _ rfl
  have x4 := b0.cell 4 _ rfl
  clear b0 hb
  go_cut [28] (fun s wx => s = .bool (!keptIn ⟨vw, nm, cm, l, ct⟩) ∧ w0 = wx)
  case first =>
    have q1 : (decide (0 ≤ vw) && decide (vw ≤ 1048576)) = true ∨ (decide (0 ≤ vw) && decide (vw ≤ 1048576)) = false := by cases (decide (0 ≤ vw) && decide (vw ≤ 1048576)) <;> simp
    have q2 : (decide (0 ≤ nm) && decide (nm ≤ vw)) = true ∨ (decide (0 ≤ nm) && decide (nm ≤ vw)) = false := by cases (decide (0 ≤ nm) && decide (nm ≤ vw)) <;> simp
    have HK : Hid (keptIn ⟨vw, nm, cm, l, ct⟩ = ((decide (0 ≤ vw) && decide (vw ≤ 1048576)) && ((decide (0 ≤ nm) && decide (nm ≤ vw)) && !(cm && (nm != vw))))) := rfl
    have HI1 : Hid (∀ w, Calls _ _ _ w _) := fun w => in_any vw 0 1048576 w
    have HI2 : Hid (∀ w, Calls _ _ _ w _) := fun w => in_any nm 0 vw w
    generalize (decide (0 ≤ vw) && decide (vw ≤ 1048576)) = c1 at *
    generalize (decide (0 ≤ nm) && decide (nm ≤ vw)) = c2 at *
    rcases q1 with rfl | rfl
    · rcases q2 with rfl | rfl
      · cases cm
        · go_wp2_with fail
          refine (HI1.out _).mono ?_
          rintro e w1 ⟨rfl, rfl⟩
          go_wp2_with fail
          refine (HI2.out _).mono ?_
          rintro e w1 ⟨rfl, rfl⟩
          go_wp2_with fail
          go_meet
          exact ⟨by rw [HK.out]; rfl, rfl⟩
        · go_wp2_with fail
          refine (HI1.out _).mono ?_
          rintro e w1 ⟨rfl, rfl⟩
          go_wp2_with fail
          refine (HI2.out _).mono ?_
          rintro e w1 ⟨rfl, rfl⟩
          go_wp2_with fail
          go_meet
          exact ⟨by rw [HK.out]; simp, rfl⟩
      · go_wp2_with fail
        refine (HI1.out _).mono ?_
        rintro e w1 ⟨rfl, rfl⟩
        go_wp2_with fail
        refine (HI2.out _).mono ?_
        rintro e w1 ⟨rfl, rfl⟩
        go_wp2_with fail
        go_meet
        exact ⟨by rw [HK.out]; simp, rfl⟩
    · go_wp2_with fail
      refine (HI1.out _).mono ?_
      rintro e w1 ⟨rfl, rfl⟩
      go_wp2_with fail
      go_meet
      exact ⟨by rw [HK.out]; simp, rfl⟩
  case rest =>
    obtain ⟨rfl, rfl⟩ := hcut
    have qk : keptIn ⟨vw, nm, cm, l, ct⟩ = true ∨ keptIn ⟨vw, nm, cm, l, ct⟩ = false := by cases keptIn ⟨vw, nm, cm, l, ct⟩ <;> simp
    have HK : Hid (keptFault ⟨vw, nm, cm, l, ct⟩ = if keptIn ⟨vw, nm, cm, l, ct⟩ = true then (if 60 < l.length then 1 else if 0 ≤ ct ∧ ct ≤ l.length then logE l else 2) else 2) := rfl
    rw [HR.out] at HK
    generalize keptIn ⟨vw, nm, cm, l, ct⟩ = ki at *
    rcases qk with rfl | rfl
    · by_cases h60 : 60 < l.length
      · have HE : Hid (R = 1) := by have := HK.out; rw [if_pos rfl, if_pos h60] at this; exact this
        have q60 : decide ((60 : Int) < (l.length : Int)) = true := by simp; omega
        clear h60
        go_wp2_with fail
        go_ret
        exact ⟨by rw [HE.out]; rfl, HBW.out⟩
      · have q60 : decide ((60 : Int) < (l.length : Int)) = false := by simp; omega
        have HI3 : Hid (∀ w, Calls _ _ _ w _) := fun w => in_any ct 0 l.length w
        have qc : (decide (0 ≤ ct) && decide (ct ≤ (l.length : Int))) = true ∨ (decide (0 ≤ ct) && decide (ct ≤ (l.length : Int))) = false := by cases (decide (0 ≤ ct) && decide (ct ≤ (l.length : Int))) <;> simp
        have HC : Hid (R = if (decide (0 ≤ ct) && decide (ct ≤ (l.length : Int))) = true then logE l else 2) := by
          have := HK.out
          rw [if_pos rfl, if_neg h60] at this
          unfold Hid
          rw [this]
          simp
        generalize (decide (0 ≤ ct) && decide (ct ≤ (l.length : Int))) = cc at *
        rcases qc with rfl | rfl
        · have HE : Hid (R = logE l) := by have := HC.out; rw [if_pos rfl] at this; exact this
          have hl60 : l.length ≤ 60 := by omega
          have HI : Hid (Below w.heap.size w w0 ∧ Box w0 w.heap.size 24 [.int .i64 vw, .int .i64 nm, .bool cm, .slice a l.length c, .int .i64 ct]) := ⟨HBW.out, HB0.out⟩
          clear HK HC h60 HB0 HBW
          go_wp2_with fail
          refine (HI3.out _).mono ?_
          rintro e w1 ⟨rfl, rfl⟩
          go_wp2_with fail
          go_loopw [3] (fun i wr => ∃ k : Nat, k ≤ l.length ∧ i = .int .i64 k ∧ logE (l.take k) = 0 ∧ Below w.heap.size w wr ∧ Box wr w.heap.size 24 [.int .i64 vw, .int .i64 nm, .bool cm, .slice a l.length c, .int .i64 ct]) (fun i wr => l.length - (intOf i).toNat)
          case atStart => exact ⟨0, by omega, rfl, rfl, HI.out.1, HI.out.2⟩
          case round =>
            clear HI x0 x1 x2 x3 x4
            obtain ⟨k, hk, rfl, hg, hbr, hbx⟩ := hrel
            have x3 := hbx.cell 3 _ rfl
            have lx := hbx.lt
            by_cases hlt : k < l.length
            · obtain ⟨b, o, rfl, h1, h2⟩ := hcx k hlt
              have hbl := lt_of_cell h1
              have t0 := (hbr.cell (p := ⟨b, _, none⟩) hbl).trans h1
              have hbr' : b < wr.heap.size := by have := hbr.size; omega
              have HG : Hid (logE (l.take (k + 1)) = decE (l.getD k [])) := by
                unfold Hid
                rw [List.take_succ_eq_append_getElem hlt, logE_snoc, if_pos hg, show l.getD k [] = l[k] by simp [List.getD, hlt]]
              have HST : Hid (logE (l.take (k + 1)) ≠ 0 → logE l = logE (l.take (k + 1))) := logE_stop l (k + 1)
              have HBR : Hid (Below w.heap.size w wr) := hbr
              have HBX : Hid (Box wr w.heap.size _ _) := hbx
              have k0 : (0 : Int) ≤ (k : Int) := by omega
              have k1 : (k : Int) < (l.length : Int) := by omega
              have HEN : Hid (∀ w, Calls _ _ _ w _) := fun w => entryOf_any (l.getD k []) w (by omega)
              clear h1 h2 hcx hbr hbx hg
              generalize l.getD k [] = s at *
              generalize decR s = r at HEN
              obtain ⟨D, HD⟩ : ∃ D, Hid (decE s = D) := ⟨_, rfl⟩
              rw [HD.out] at HEN HG
              obtain ⟨c', n', k', p', sn', d'⟩ := r
              unfold reqVal at HEN
              by_cases hd : D = 0
              · subst hd
                go_wp2_with fail
                refine (HEN.out _).mono ?_
                rintro e w2 ⟨rfl, hb2⟩
                have HN : Hid (Below w.heap.size w _) := Below.up (Below.far HBR.out hb2) (.cells #[.int .i64 c', .int .i64 n', .int .i64 k', .int .i64 p', .int .i64 sn', .string ⟨d'.toArray⟩] 59)
                have HX : Hid (Box _ w.heap.size _ _) := (HBX.out.below hb2 HBX.out.lt).alloc (.cells #[.int .i64 c', .int .i64 n', .int .i64 k', .int .i64 p', .int .i64 sn', .string ⟨d'.toArray⟩] 59)
                clear hb2 t0 x3 HBX HEN
                go_wp2_with fail
                go_roundw
                case rel => exact ⟨k + 1, by omega, by go_num, HG.out, HN.out, HX.out⟩
                case measure => simp [intOf]; omega
              · have t1 : (D == 0) = false := by simpa using hd
                have t2 : (D != 0) = true := by simpa using hd
                have HF : Hid (logE l = D) := by
                  have := HST.out (by rw [HG.out]; exact hd)
                  unfold Hid
                  rw [this, HG.out]
                go_wp2_with fail
                refine (HEN.out _).mono ?_
                rintro e w2 ⟨rfl, hb2⟩
                have HN : Hid (Below w.heap.size w _) := Below.up (Below.far HBR.out hb2) (.cells #[.int .i64 c', .int .i64 n', .int .i64 k', .int .i64 p', .int .i64 sn', .string ⟨d'.toArray⟩] 59)
                clear hb2 t0 x3 HBX HEN hd
                go_wp2_with fail
                go_ret
                exact ⟨by rw [HE.out, HF.out]; rfl, HN.out⟩
            · obtain rfl : k = l.length := by omega
              have HG : Hid (logE l = 0) := by unfold Hid; rw [List.take_length] at hg; exact hg
              have HBR : Hid (Below w.heap.size w wr) := hbr
              clear hcx hg hbr hbx
              go_wp2_with fail
              go_ret
              exact ⟨by rw [HE.out, HG.out]; rfl, HBR.out⟩
        · have HE : Hid (R = 2) := by have := HC.out; unfold Hid; simpa using this
          clear HK HC h60
          go_wp2_with fail
          refine (HI3.out _).mono ?_
          rintro e w1 ⟨rfl, rfl⟩
          go_wp2_with fail
          go_ret
          exact ⟨by rw [HE.out]; rfl, HBW.out⟩
    · have HE : Hid (R = 2) := by have := HK.out; unfold Hid; simpa using this
      clear HK
      go_wp2_with fail
      go_ret
      exact ⟨by rw [HE.out]; rfl, HBW.out⟩

end Go.Proofs.Ytmdgkjbiicaljag
