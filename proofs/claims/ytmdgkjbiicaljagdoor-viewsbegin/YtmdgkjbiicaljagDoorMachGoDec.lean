/- The program's own machine.Decode. -/
import Derived.Test.YtmdgkjbiicaljagDoorJointCodecIs
import Derived.Test.YtmdgkjbiicaljagDoorJointStageMem
import Derived.BigRegion
namespace Go.Proofs.YtmdgkjbiicaljagDoor
open Go.RowKit
set_option linter.unusedVariables false
set_option linter.unusedSimpArgs false
attribute [local go_sem] app_list ext_list get_list byteAt_zero length_num

set_option maxHeartbeats 2000000 in
theorem machDec_any (s : List UInt8) (w : World) (hl : s.length ≤ 281474976710656) :
    Calls Tryd.prog 33 #[.string ⟨s.toArray⟩] w fun e w' => e = .returned (.tuple #[reqVal (decR s), .int .i64 (decE s)]) ∧ Below w.heap.size w w' := by
  have zz : ∀ x, decE s = x → x ≠ 0 → Hid (reqVal (decR s) = .agg #[.int .i64 0, .int .i64 0, .int .i64 0, .int .i64 0, .int .i64 0, .string ⟨#[]⟩]) := fun x hx h0 => by
    unfold Hid decR
    rw [if_neg (by rw [hx]; exact h0)]
    rfl
  by_cases h1 : 40 < s.length
  · have HE : Hid (decE s = 1) := by unfold Hid decE; rw [if_pos h1]
    have HZ := zz 1 HE.out (by decide)
    clear zz
    go_enter Tryd.func33, Tryd.ntmps33
    go_wp2_with fail
    rw [HE.out, HZ.out]
    exact bodyPost_ret (v := .tuple #[.agg #[.int .i64 0, .int .i64 0, .int .i64 0, .int .i64 0, .int .i64 0, .string ⟨#[]⟩], .int .i64 1]) (by simp [results, Tryd.results33, go_sem]) rfl ⟨rfl, below_alloc _ _⟩
  by_cases h2 : s.length < 4
  · have HE : Hid (decE s = 5) := by unfold Hid decE; rw [if_neg h1, if_pos h2]
    have HZ := zz 5 HE.out (by decide)
    clear zz
    go_enter Tryd.func33, Tryd.ntmps33
    go_wp2_with fail
    rw [HE.out, HZ.out]
    exact bodyPost_ret (v := .tuple #[.agg #[.int .i64 0, .int .i64 0, .int .i64 0, .int .i64 0, .int .i64 0, .string ⟨#[]⟩], .int .i64 5]) (by simp [results, Tryd.results33, go_sem]) rfl ⟨rfl, below_alloc _ _⟩
  have HN : Hid (∀ w, Calls _ _ _ w _) := fun w => readNumber_is (s.drop 4) w (by simp; omega)
  have HT : Hid (∀ w, Calls _ _ _ w _) := fun w => readText_is (numR (s.drop 4)) w (by have := numR_le (s.drop 4); simp at this; omega)
  have y0 := byteAt_bd s 0
  have y1 := byteAt_bd s 1
  have y2 := byteAt_bd s 2
  have y3 := byteAt_bd s 3
  have b0 := Box.new w 58 [.int .i64 0, .int .i64 0, .int .i64 0, .int .i64 0, .int .i64 0, .string ⟨#[]⟩]
  have hb := below_alloc w (.cells #[.int .i64 0, .int .i64 0, .int .i64 0, .int .i64 0, .int .i64 0, .string ⟨#[]⟩] 58)
  have HD : Hid (decE s = if numE (s.drop 4) ≠ 0 then numE (s.drop 4) else if txtE (numR (s.drop 4)) ≠ 0 then txtE (numR (s.drop 4)) else if txtR (numR (s.drop 4)) ≠ [] then 4 else reqFault (reqOf s)) := by
    unfold Hid; conv => lhs; unfold decE
    rw [if_neg h1, if_neg h2]
  have HQ : Hid (reqOf s = ⟨byteAt s 0, numV (s.drop 4), ⟨byteAt s 1, byteAt s 2, byteAt s 3, txtD (numR (s.drop 4))⟩⟩) := rfl
  have n1 : ((s.length : Int) > 40) = False := by simp; omega
  go_enter Tryd.func33, Tryd.ntmps33
  go_wp2_with fail
  refine (HN.out _).mono ?_
  rintro e w1 ⟨rfl, hb1⟩
  have c0 := b0.below hb1 b0.lt
  have hw1 := Below.seq hb hb1
  clear b0 hb hb1 HN
  obtain ⟨x, hx⟩ : ∃ x, numE (s.drop 4) = x := ⟨_, rfl⟩
  rw [hx] at HD ⊢
  clear hx
  by_cases hx0 : x ≠ 0
  · have HE : Hid (decE s = x) := by unfold Hid; rw [HD.out, if_pos hx0]
    have HZ := zz x HE.out hx0
    have t1 : (x == 0) = false := by simpa using hx0
    have t2 : (x != 0) = true := by simpa using hx0
    have r0 := c0.cell 0 _ rfl
    have r1 := c0.cell 1 _ rfl
    have r2 := c0.cell 2 _ rfl
    have r3 := c0.cell 3 _ rfl
    have r4 := c0.cell 4 _ rfl
    have r5 := c0.cell 5 _ rfl
    have f0 := c0.frozen 0
    have f1 := c0.frozen 1
    have f2 := c0.frozen 2
    have f3 := c0.frozen 3
    have f4 := c0.frozen 4
    have f5 := c0.frozen 5
    have HB : Hid (Below w.heap.size w _) := (((((hw1.setCell (p := ⟨w.heap.size, 0, none⟩) (by simp) (.int .i64 0)).setCell (p := ⟨w.heap.size, 1, none⟩) (by simp) (.int .i64 0)).setCell (p := ⟨w.heap.size, 2, none⟩) (by simp) (.int .i64 0)).setCell (p := ⟨w.heap.size, 3, none⟩) (by simp) (.int .i64 0)).setCell (p := ⟨w.heap.size, 4, none⟩) (by simp) (.int .i64 0)).setCell (p := ⟨w.heap.size, 5, none⟩) (by simp) (.string ⟨#[]⟩)
    clear zz HD HQ HT c0 hw1 hx0
    go_wp2_with fail
    rw [HE.out, HZ.out]
    exact bodyPost_ret (v := .tuple #[.agg #[.int .i64 0, .int .i64 0, .int .i64 0, .int .i64 0, .int .i64 0, .string ⟨#[]⟩], .int .i64 x]) (by clear HB; simp [results, Tryd.results33, go_sem, *]) rfl ⟨rfl, HB.out⟩
  · have hx : x = 0 := by omega
    subst hx
    have HD2 : Hid (decE s = if txtE (numR (s.drop 4)) ≠ 0 then txtE (numR (s.drop 4)) else if txtR (numR (s.drop 4)) ≠ [] then 4 else reqFault (reqOf s)) := by
      unfold Hid; rw [HD.out, if_neg (by decide)]
    clear hx0 HD
    obtain ⟨t, ht⟩ : ∃ t, numR (s.drop 4) = t := ⟨_, rfl⟩
    rw [ht] at HT HD2 HQ ⊢
    have htl : t.length ≤ s.length := by rw [← ht]; have := numR_le (s.drop 4); simp at this; omega
    clear ht
    go_wp2_with fail
    refine (HT.out _).mono ?_
    rintro e w2 ⟨rfl, hb2⟩
    have d0 := c0.below hb2 c0.lt
    have hw2 := Below.seq hw1 hb2
    clear c0 hw1 hb2 HT
    obtain ⟨x, hx⟩ : ∃ x, txtE t = x := ⟨_, rfl⟩
    rw [hx] at HD2 ⊢
    clear hx
    by_cases hx0 : x ≠ 0
    · have HE : Hid (decE s = x) := by unfold Hid; rw [HD2.out, if_pos hx0]
      have HZ := zz x HE.out hx0
      have t1 : (x == 0) = false := by simpa using hx0
      have t2 : (x != 0) = true := by simpa using hx0
      have r0 := d0.cell 0 _ rfl
      have r1 := d0.cell 1 _ rfl
      have r2 := d0.cell 2 _ rfl
      have r3 := d0.cell 3 _ rfl
      have r4 := d0.cell 4 _ rfl
      have r5 := d0.cell 5 _ rfl
      have f0 := d0.frozen 0
      have f1 := d0.frozen 1
      have f2 := d0.frozen 2
      have f3 := d0.frozen 3
      have f4 := d0.frozen 4
      have f5 := d0.frozen 5
      have HB : Hid (Below w.heap.size w _) := (((((hw2.setCell (p := ⟨w.heap.size, 0, none⟩) (by simp) (.int .i64 0)).setCell (p := ⟨w.heap.size, 1, none⟩) (by simp) (.int .i64 0)).setCell (p := ⟨w.heap.size, 2, none⟩) (by simp) (.int .i64 0)).setCell (p := ⟨w.heap.size, 3, none⟩) (by simp) (.int .i64 0)).setCell (p := ⟨w.heap.size, 4, none⟩) (by simp) (.int .i64 0)).setCell (p := ⟨w.heap.size, 5, none⟩) (by simp) (.string ⟨#[]⟩)
      clear zz HD2 HQ d0 hw2 hx0
      go_wp2_with fail
      rw [HE.out, HZ.out]
      exact bodyPost_ret (v := .tuple #[.agg #[.int .i64 0, .int .i64 0, .int .i64 0, .int .i64 0, .int .i64 0, .string ⟨#[]⟩], .int .i64 x]) (by clear HB; simp [results, Tryd.results33, go_sem, *]) rfl ⟨rfl, HB.out⟩
    · have hx : x = 0 := by omega
      subst hx
      have HD3 : Hid (decE s = if txtR t ≠ [] then 4 else reqFault (reqOf s)) := by
        unfold Hid; rw [HD2.out, if_neg (by decide)]
      clear hx0 HD2
      obtain ⟨u, hu⟩ : ∃ u, txtR t = u := ⟨_, rfl⟩
      rw [hu] at HD3 ⊢
      clear hu
      have hcu : u = [] ∨ ∃ c r, u = c :: r := by cases u; exact Or.inl rfl; exact Or.inr ⟨_, _, rfl⟩
      rcases hcu with rfl | ⟨cu, ru, rfl⟩
      · have HE : Hid (decE s = reqFault (reqOf s)) := by unfold Hid; rw [HD3.out]; simp
        clear HD3
        have hdl := txtD_le t
        obtain ⟨d, hd⟩ : ∃ d, txtD t = d := ⟨_, rfl⟩
        rw [hd] at HQ hdl ⊢
        clear hd
        obtain ⟨m, hmv⟩ : ∃ m, numV (s.drop 4) = m := ⟨_, rfl⟩
        rw [hmv] at HQ ⊢
        clear hmv
        have HF : Hid (∀ w, Calls _ _ _ w _) := fun w => machReq_any (reqOf s) w (by rw [HQ.out]; show d.length ≤ _; omega)
        obtain ⟨f, hf⟩ : ∃ f, reqFault (reqOf s) = f := ⟨_, rfl⟩
        have HDR : Hid (decR s = if f = 0 then reqOf s else zeroReq) := by unfold Hid decR; rw [HE.out, hf]
        rw [hf] at HE HF
        clear hf
        rw [HQ.out] at HF HDR
        unfold reqVal at HF
        have ld := d0.lt
        have k0 : (0 : Int) < (s.length : Int) := by omega
        have k1 : (1 : Int) < (s.length : Int) := by omega
        have k2 : (2 : Int) < (s.length : Int) := by omega
        have k3 : (3 : Int) < (s.length : Int) := by omega
        have OA : Hid (∀ A B, Below w2.heap.size w2 ((((w2.alloc A).drew).alloc B).drew)) := fun A B => (Below.up ((below_alloc w2 A).drew) B).drew
        have OB : Hid (∀ A, Box ((((w2.alloc A).drew).alloc (.cells #[.int .i64 (byteAt s 0), .int .i64 m, .int .i64 (byteAt s 1), .int .i64 (byteAt s 2), .int .i64 (byteAt s 3), .string ⟨d.toArray⟩] 58)).drew) (w2.heap.size + 1) 58 [.int .i64 (byteAt s 0), .int .i64 m, .int .i64 (byteAt s 1), .int .i64 (byteAt s 2), .int .i64 (byteAt s 3), .string ⟨d.toArray⟩]) := fun A => by
          have e : ((w2.alloc A).drew).heap.size = w2.heap.size + 1 := by simp
          have := Box.new ((w2.alloc A).drew) 58 [.int .i64 (byteAt s 0), .int .i64 m, .int .i64 (byteAt s 1), .int .i64 (byteAt s 2), .int .i64 (byteAt s 3), .string ⟨d.toArray⟩]
          rw [e] at this
          exact this
        go_wp2_with fail
        go_region
        go_wp2_with fail
        go_region
        go_wp2_with fail
        refine (HF.out _).mono ?_
        rintro e w3 ⟨rfl, hb3⟩
        have g9 := (OB.out _).below hb3 (OB.out _).lt
        have g0 := d0.below (Below.far (OA.out _ _) hb3) d0.lt
        have hw3 : Below w.heap.size w w3 := Below.far hw2 (Below.far (OA.out _ _) hb3)
        have l9 := g9.lt
        clear d0 hw2 hb3 HF OA OB
        by_cases hf0 : f = 0
        · subst hf0
          rw [if_pos rfl] at HDR
          have r0 := g0.cell 0 _ rfl
          have f0 := g0.frozen 0
          have r1 := g0.cell 1 _ rfl
          have f1 := g0.frozen 1
          have r2 := g0.cell 2 _ rfl
          have f2 := g0.frozen 2
          have r3 := g0.cell 3 _ rfl
          have f3 := g0.frozen 3
          have r4 := g0.cell 4 _ rfl
          have f4 := g0.frozen 4
          have r5 := g0.cell 5 _ rfl
          have f5 := g0.frozen 5
          have q0 := g9.cell 0 _ rfl
          have q1 := g9.cell 1 _ rfl
          have q2 := g9.cell 2 _ rfl
          have q3 := g9.cell 3 _ rfl
          have q4 := g9.cell 4 _ rfl
          have q5 := g9.cell 5 _ rfl
          have HB : Hid (Below w.heap.size w _) := (((((hw3.setCell (p := ⟨w.heap.size, 0, none⟩) (by simp) (.int .i64 (byteAt s 0))).setCell (p := ⟨w.heap.size, 1, none⟩) (by simp) (.int .i64 m)).setCell (p := ⟨w.heap.size, 2, none⟩) (by simp) (.int .i64 (byteAt s 1))).setCell (p := ⟨w.heap.size, 3, none⟩) (by simp) (.int .i64 (byteAt s 2))).setCell (p := ⟨w.heap.size, 4, none⟩) (by simp) (.int .i64 (byteAt s 3))).setCell (p := ⟨w.heap.size, 5, none⟩) (by simp) (.string ⟨d.toArray⟩)
          clear zz HQ g0 g9 hw3
          go_wp2_with fail
          rw [HE.out, HDR.out]
          unfold reqVal
          exact bodyPost_ret (v := .tuple #[.agg #[.int .i64 (byteAt s 0), .int .i64 m, .int .i64 (byteAt s 1), .int .i64 (byteAt s 2), .int .i64 (byteAt s 3), .string ⟨d.toArray⟩], .int .i64 0]) (by clear HB; simp [results, Tryd.results33, go_sem, *]) rfl ⟨rfl, HB.out⟩
        · have HZ := zz f HE.out hf0
          have t1 : (f == 0) = false := by simpa using hf0
          have t2 : (f != 0) = true := by simpa using hf0
          have r0 := g0.cell 0 _ rfl
          have f0 := g0.frozen 0
          have r1 := g0.cell 1 _ rfl
          have f1 := g0.frozen 1
          have r2 := g0.cell 2 _ rfl
          have f2 := g0.frozen 2
          have r3 := g0.cell 3 _ rfl
          have f3 := g0.frozen 3
          have r4 := g0.cell 4 _ rfl
          have f4 := g0.frozen 4
          have r5 := g0.cell 5 _ rfl
          have f5 := g0.frozen 5
          have HB : Hid (Below w.heap.size w _) := (((((hw3.setCell (p := ⟨w.heap.size, 0, none⟩) (by simp) (.int .i64 0)).setCell (p := ⟨w.heap.size, 1, none⟩) (by simp) (.int .i64 0)).setCell (p := ⟨w.heap.size, 2, none⟩) (by simp) (.int .i64 0)).setCell (p := ⟨w.heap.size, 3, none⟩) (by simp) (.int .i64 0)).setCell (p := ⟨w.heap.size, 4, none⟩) (by simp) (.int .i64 0)).setCell (p := ⟨w.heap.size, 5, none⟩) (by simp) (.string ⟨#[]⟩)
          clear zz HQ g0 g9 hw3 hf0
          go_wp2_with fail
          rw [HE.out, HZ.out]
          exact bodyPost_ret (v := .tuple #[.agg #[.int .i64 0, .int .i64 0, .int .i64 0, .int .i64 0, .int .i64 0, .string ⟨#[]⟩], .int .i64 f]) (by clear HB; simp [results, Tryd.results33, go_sem, *]) rfl ⟨rfl, HB.out⟩
      · have HE : Hid (decE s = 4) := by unfold Hid; rw [HD3.out]; simp
        have HZ := zz 4 HE.out (by decide)
        have r0 := d0.cell 0 _ rfl
        have r1 := d0.cell 1 _ rfl
        have r2 := d0.cell 2 _ rfl
        have r3 := d0.cell 3 _ rfl
        have r4 := d0.cell 4 _ rfl
        have r5 := d0.cell 5 _ rfl
        have f0 := d0.frozen 0
        have f1 := d0.frozen 1
        have f2 := d0.frozen 2
        have f3 := d0.frozen 3
        have f4 := d0.frozen 4
        have f5 := d0.frozen 5
        have HB : Hid (Below w.heap.size w _) := (((((hw2.setCell (p := ⟨w.heap.size, 0, none⟩) (by simp) (.int .i64 0)).setCell (p := ⟨w.heap.size, 1, none⟩) (by simp) (.int .i64 0)).setCell (p := ⟨w.heap.size, 2, none⟩) (by simp) (.int .i64 0)).setCell (p := ⟨w.heap.size, 3, none⟩) (by simp) (.int .i64 0)).setCell (p := ⟨w.heap.size, 4, none⟩) (by simp) (.int .i64 0)).setCell (p := ⟨w.heap.size, 5, none⟩) (by simp) (.string ⟨#[]⟩)
        clear zz HD3 HQ d0 hw2
        go_wp2_with fail
        rw [HE.out, HZ.out]
        exact bodyPost_ret (v := .tuple #[.agg #[.int .i64 0, .int .i64 0, .int .i64 0, .int .i64 0, .int .i64 0, .string ⟨#[]⟩], .int .i64 4]) (by clear HB; simp [results, Tryd.results33, go_sem, *]) rfl ⟨rfl, HB.out⟩

end Go.Proofs.YtmdgkjbiicaljagDoor
