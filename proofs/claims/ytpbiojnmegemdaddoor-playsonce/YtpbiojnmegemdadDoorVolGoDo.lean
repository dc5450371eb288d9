/- The program's own 'Do': what it looks up, and what it adds. -/
import Derived.Test.YtpbiojnmegemdadDoorVolGoCopy
import Derived.Test.YtpbiojnmegemdadDoorSteps
import Derived.Deep.RegionLaw
import Derived.BigRegion
namespace Go.Proofs.YtpbiojnmegemdadDoor
open Go.RowKit
set_option linter.unusedVariables false
set_option linter.unusedSimpArgs false
attribute [local go_sem] app_list ext_list get_list byteAt_zero

theorem enter_copySectors (us : Array Value) (w : World) : (callFunc 46 us).run Tryd.prog w = .ok (.enter 46 us) w := by kernel_rfl
theorem enter_copy (us : Array Value) (w : World) : (callFunc 40 us).run Tryd.prog w = .ok (.enter 40 us) w := by kernel_rfl
theorem enter_lookInto (us : Array Value) (w : World) : (callFunc 41 us).run Tryd.prog w = .ok (.enter 41 us) w := by kernel_rfl

/-- P2.3, Read: the reply. -/
def lookR (V : VolM) (s p : Int) : ReplyM :=
  if (V.snaps.length : Int) < s then ⟨6, 0, []⟩
  else if 0 < s then ⟨0, 0, (V.snaps.getD (s - 1).toNat []).getD p.toNat []⟩
  else ⟨0, 0, V.now.getD p.toNat []⟩

set_option maxHeartbeats 1000000 in
theorem look_any (V : VolM) (s p : Int) (vn vs : Value) (b : Nat) (w : World) (hbx : Box w b 40 [vn, vs]) (h : VolAt w (.agg #[vn, vs]) V) (hn6 : V.now.length = 6) (hs6 : ∀ l ∈ V.snaps, l.length = 6) (hs0 : 0 ≤ s) (hp0 : 0 ≤ p) (hp5 : p ≤ 5) :
    Calls Tryd.prog 47 #[.int .i64 s, .int .i64 p, .pointer (some ⟨b, 0, none⟩)] w fun e w' => e = .returned (repVal (lookR V s p)) ∧ Below w.heap.size w w' := by
  obtain ⟨_, _, hv, hn, hs⟩ := h
  cases hv
  obtain ⟨an, cn, rfl, hln, hcn⟩ := hn
  obtain ⟨a, c, rfl, hla, hca⟩ := hs
  obtain ⟨q, rfl⟩ := Int.eq_ofNat_of_zero_le hp0
  have x0 := hbx.cell 0 _ rfl
  have x1 := hbx.cell 1 _ rfl
  have lb := hbx.lt
  have ne1 : ¬ b = w.heap.size := by omega
  by_cases h0 : s = 0
  · subst h0
    have hq : q < V.now.length := by omega
    obtain ⟨b', o', rfl, hc, hz⟩ := hcn q hq
    have hb' := lt_of_cell hc
    have HR : Hid (lookR V 0 q = ⟨0, 0, V.now.getD q []⟩) := by unfold Hid lookR; simp
    generalize V.now.getD q [] = t at *
    have q1 : (q : Int) < (V.now.length : Int) := by omega
    clear hcn hca hn6 hs6
    go_enter Tryd.func47, Tryd.ntmps47
    go_wp2_with fail
    rw [HR.out]
    exact bodyPost_ret (v := .agg #[.int .i64 0, .int .i64 0, .string ⟨t.toArray⟩]) (by simp [results, Tryd.results47, go_sem]) rfl ⟨rfl, below_alloc _ _⟩
  · by_cases h1 : (V.snaps.length : Int) < s
    · have HR : Hid (lookR V s q = ⟨6, 0, []⟩) := by unfold Hid lookR; simp [h1]
      clear hcn hca hn6 hs6
      go_enter Tryd.func47, Tryd.ntmps47
      go_wp2_with fail
      rw [HR.out]
      exact bodyPost_ret (v := .agg #[.int .i64 6, .int .i64 0, .string ⟨#[]⟩]) (by simp [results, Tryd.results47, go_sem]) rfl ⟨rfl, below_alloc _ _⟩
    · obtain ⟨j, hj⟩ : ∃ j : Nat, s - 1 = j := ⟨(s - 1).toNat, by omega⟩
      have hjl : j < V.snaps.length := by omega
      obtain ⟨b', o', u, rfl, hc, hstr⟩ := hca j hjl
      have hmem : V.snaps.getD j [] ∈ V.snaps := by
        rw [show V.snaps.getD j [] = V.snaps[j] by simp [List.getD, hjl]]; exact List.getElem_mem hjl
      have hl6 := hs6 _ hmem
      have HR : Hid (lookR V s q = ⟨0, 0, (V.snaps.getD j []).getD q []⟩) := by unfold Hid lookR; rw [if_neg h1, if_pos (by omega), hj]; simp
      generalize V.snaps.getD j [] = l at *
      obtain ⟨a3, c3, rfl, hl3, hc3⟩ := hstr
      obtain ⟨b4, o4, rfl, hc4, hz4⟩ := hc3 q (by omega)
      have hb' := lt_of_cell hc
      have hb4 := lt_of_cell hc4
      generalize l.getD q [] = t at *
      have q1 : (q : Int) < (l.length : Int) := by omega
      have q2 : (j : Int) < (V.snaps.length : Int) := by omega
      obtain rfl : s = (j : Int) + 1 := by omega
      clear hcn hca hn6 hs6 hl6 hc3 hj
      go_enter Tryd.func47, Tryd.ntmps47
      go_wp2_with fail
      rw [HR.out]
      exact bodyPost_ret (v := .agg #[.int .i64 0, .int .i64 0, .string ⟨t.toArray⟩]) (by simp [results, Tryd.results47, go_sem]) rfl ⟨rfl, below_alloc _ _⟩

/-- What addSnap leaves: the volume with its snapshots vs', in memory from block B on; blocks that were there stay, but that of the old list. -/
structure SnapDone (V : VolM) (w : World) (B : Nat) (vn vs vs' : Value) (r : ReplyM) (w' : World) : Prop where
  vol : VolNew w' B (.agg #[vn, vs']) (if V.snaps.length < 3 then { V with snaps := V.snaps ++ [V.now] } else V)
  rep : r = if V.snaps.length < 3 then ⟨0, V.snaps.length + 1, []⟩ else ⟨7, 0, []⟩
  grown : w.grownBy w' vs.ownBlock

set_option maxHeartbeats 2000000 in
theorem addSnap_any (V : VolM) (B : Nat) (vn vs : Value) (w : World) (hV : VolNew w B (.agg #[vn, vs]) V) (hB : B ≤ w.heap.size) (hn6 : V.now.length = 6) (hs3 : V.snaps.length ≤ 3) (hz : ∀ s ∈ V.now, s.length ≤ 8) :
    Calls Tryd.prog 42 #[.agg #[vn, vs]] w fun e w' => ∃ vs' r, e = .returned (.tuple #[vs', repVal r]) ∧ SnapDone V w B vn vs vs' r w' := by
  obtain ⟨_, _, us, hv, hn, hs, hu1, hu2, hap⟩ := id hV
  cases hv
  obtain ⟨b0, b1, hb⟩ := boxes2 w 40 49 [vn, vs] [.int .i64 0, .int .i64 0, .string ⟨#[]⟩]
  by_cases h3 : V.snaps.length < 3
  · have HST : Hid (∀ o1 o2, Strs ((w.alloc o1).alloc o2).drew vn V.now) := fun o1 o2 => (Strs.of_own (own_below hn (below_alloc2 w o1 o2).drew (own_lt hn)) (by omega) (fun s hs => by have := hz s hs; omega))
    obtain ⟨an, cn, rfl⟩ := own_form hn
    obtain ⟨aw, cw, rfl⟩ := own_form hs
    have HZ : Hid (V.now.length * 16 ≤ 140737488355328) := by unfold Hid; omega
    have HS : Hid (w.ownsRow B 36 1 (.slice aw V.snaps.length cw) V.snaps.length us) := hs
    have HALL : Hid (w.ownsRow B 9 1 (.slice an V.now.length cn) V.now.length (V.now.map enc) ∧ OwnEach w B (.slice an V.now.length cn) us V.snaps ∧ OwnEach w B (.slice aw V.snaps.length cw) us V.snaps ∧ Apart (.slice an V.now.length cn) (.slice aw V.snaps.length cw)) := ⟨hn, hu1, hu2, hap⟩
    have HB0 : Hid (Box _ _ _ _) := b0
    have HB1 : Hid (Box _ _ _ _) := b1
    have HL3 : Hid (V.snaps.length < 3) := h3
    have HN6 : Hid (V.now.length = 6) := hn6
    have hs6 : ¬ (3 : Int) ≤ (V.snaps.length : Int) := by omega
    clear hn hs hu1 hu2 hap hV hn6 b0 b1 hb hz
    go_enter Tryd.func42, Tryd.ntmps42
    go_wp2_with fail
    go_region_law
      ((first
        | (refine step_go _ (by rfl) 46 _ _ (by rfl) _ (by rfl) enter_copySectors _ (copySectors_any V.now _ _ (HST.out _ _) HZ.out) ?_
           rintro u' wA ⟨hownA, hbA⟩
           obtain ⟨a4, c4, hu4⟩ := own_form hownA
           subst hu4
           have hbX := undrew hbA
           have hbA2 : Below w.heap.size w wA := (below_alloc2 w _ _).trans (hbX.mono (by simp <;> omega))
           have q4 : w.heap.size + 1 + 1 ≤ wA.heap.size := by have := hbX.size; simpa using this
           have q5 : w.heap.size < wA.heap.size := by omega
           have m1 := (HB0.out.below hbX HB0.out.lt).cell 1 _ rfl)
        | (refine step_append_row _ (by rfl) _ _ 38 (by rfl) B 36 Tryd.t36 _ 1 24 Tryd.underlying38 infoStrs zeroStrs sizeStrs bytesStrs rfl (by decide) _ V.snaps.length us (by rfl) (own_below HS.out (hbA2.alloc (by omega) _) (own_lt HS.out)) _ 1 [.slice a4 V.now.length c4] (by rfl) (RowAt.one _ _ _) (by simp [Value.oneCell']) (by unfold maxLen; have := HL3.out; omega) (by have := HL3.out; omega) (by simp <;> omega) ?_
           intro u3 wB hownB hgB hatB
           obtain ⟨a5, c5, hu5⟩ := own_form hownB
           subst hu5)))
    all_goals
      have BR := ((HB1.out.below hbX HB1.out.lt).alloc (.cells #[.slice a4 V.now.length c4] 36)).grown hgB (fun e => by have := own_lt HS.out _ e; omega)
      have r0 := BR.cell 0 _ rfl
      have r1 := BR.cell 1 _ rfl
      have r2 := BR.cell 2 _ rfl
      have r3 := BR.frozen 0
      have r4 := BR.frozen 1
      have r5 := BR.frozen 2
      have hfin : ∀ wC : World, (∀ k, k < w.heap.size ∨ w.heap.size + 2 ≤ k → wC.heap[k]? = wB.heap[k]?) → wC.os = wB.os → wC.tape = wB.tape → wC.output = wB.output → wC.heap.size = wB.heap.size → SnapDone V w B (.slice an V.now.length cn) (.slice aw V.snaps.length cw) (.slice a5 (V.snaps.length + 1) c5) ⟨0, V.snaps.length + 1, []⟩ wC := by
        intro wC hC e1 e2 e3 e4
        refine ⟨?_, by rw [if_pos HL3.out], ?_⟩
        · rw [if_pos HL3.out]
          exact vol_snap (wC := wC) (l := V.now) HALL.out.1 HS.out HALL.out.2.1 HALL.out.2.2.1 HALL.out.2.2.2 hB hbA2 (hi := w.heap.size + 1 + 1) (by omega) q4 (by simpa using hownA) hgB hownB (by simpa using hatB) hC
        · have g1 := hgB.size
          simp at g1
          have g2 := hbA2.size
          exact ⟨e1.trans (hgB.os.trans hbA2.os), e2.trans (hgB.tape.trans hbA2.tape), e3.trans (hgB.output.trans hbA2.output), by omega,
            fun k hk hne => ((hC k (Or.inl hk)).trans (hgB.block k (by simp; omega) hne)).trans ((Below.heap_alloc _ _ _ (by omega)).trans (hbA2.block k hk))⟩
      have HF : Hid (∀ wC : World, _) := hfin
      clear hfin HALL HS hgB hownB hownA hbA hbX hbA2 BR HB0 HB1 HST
      go_wp2_with fail
      refine bodyPost_ret (v := .tuple #[.slice a5 (V.snaps.length + 1) c5, .agg #[.int .i64 0, .int .i64 ((V.snaps.length : Int) + 1), .string ⟨#[]⟩]]) ?_ rfl ?_
      · clear HF
        simp [results, Tryd.results42, go_sem, *]
      · refine ⟨_, ⟨0, (V.snaps.length : Int) + 1, []⟩, rfl, HF.out _ (fun k hk => ?_) rfl rfl rfl ?_⟩
        · rw [Below.heap_setCell _ _ _ _ (by simp <;> omega), Below.heap_setCell _ _ _ _ (by simp <;> omega), Below.heap_setCell _ _ _ _ (by simp <;> omega)]
        · simp [World.setCell]
  · have h3' : V.snaps.length = 3 := by omega
    obtain ⟨an, cn, rfl⟩ := own_form hn
    obtain ⟨aw, cw, rfl⟩ := own_form hs
    have hs6 : (3 : Int) ≤ (V.snaps.length : Int) := by omega
    have HF : Hid (∀ w', Below w.heap.size w w' → SnapDone V w B (.slice an V.now.length cn) (.slice aw V.snaps.length cw) (.slice aw V.snaps.length cw) ⟨7, 0, []⟩ w') := by
      intro w' hb'
      refine ⟨?_, by rw [if_neg h3], ⟨hb'.os, hb'.tape, hb'.output, hb'.size, fun k hk _ => hb'.block k hk⟩⟩
      rw [if_neg h3]
      exact hV.below hb'
    have HB : Hid (Below _ _ _) := hb
    clear hn hs hu1 hu2 hap hV hn6 b0 b1 hb hz h3'
    go_enter Tryd.func42, Tryd.ntmps42
    go_wp2_with fail
    refine bodyPost_ret (v := .tuple #[.slice aw V.snaps.length cw, .agg #[.int .i64 7, .int .i64 0, .string ⟨#[]⟩]]) ?_ rfl ?_
    · clear HF HB
      simp [results, Tryd.results42, go_sem, *]
    · exact ⟨_, ⟨7, 0, []⟩, rfl, HF.out _ (below_alloc2 w _ _)⟩

end Go.Proofs.YtpbiojnmegemdadDoor
