/- A view begins: what each of the steps comes to. -/
import Derived.Test.YtmdgkjbiicaljagDoorJointRegPlan
import Derived.Test.YtmdgkjbiicaljagDoorJointMachMath
import Derived.Lib.ItoaNum
namespace Go.Proofs.YtmdgkjbiicaljagDoor
set_option linter.unusedVariables false
set_option linter.unusedSimpArgs false

abbrev Z3 : List KeptM := [zeroKept, zeroKept, zeroKept]
def vA0 (L : List (List UInt8)) (k : Nat) : ReplM := ⟨1, ⟨0, 0, true, L.take k, 0⟩, [0, 0, 0], [false, false, false], Z3, [false, false, false]⟩
def vB0 (L : List (List UInt8)) : ReplM := ⟨2, ⟨0, 0, true, L, 0⟩, [0, 0, 0], [false, false, false], Z3, [false, false, false]⟩
def vB1 (L : List (List UInt8)) : ReplM := ⟨2, ⟨1, 0, false, L, 0⟩, [0, 0, 0], [false, false, true], Z3, [false, false, false]⟩
def vOwn (L : List (List UInt8)) (k : Nat) : KeptM := ⟨1, 0, false, L.take k, 0⟩
def vA1 (L : List (List UInt8)) (k : Nat) : ReplM := ⟨1, vOwn L k, [0, 0, 0], [false, true, true], [zeroKept, vOwn L k, zeroKept], [false, true, false]⟩
def vC (L : List (List UInt8)) : ReplM := ⟨1, ⟨1, 1, true, L, 0⟩, [0, 0, 0], [false, false, false], Z3, [false, false, false]⟩
def wantM (f d : Int) : MsgM := ⟨3, f, d, 1, 0, 0, 0, []⟩
def giveM (L : List (List UInt8)) : MsgM := ⟨4, 2, 1, 1, 0, 0, 0, L⟩
structure VLog (L : List (List UInt8)) : Prop where
  len : L.length ≤ 12
  ok : ∀ s ∈ L, decE s = 0
theorem VLog.take {L : List (List UInt8)} (h : VLog L) (k : Nat) : VLog (L.take k) := ⟨by have := h.len; rw [List.length_take]; omega, fun s hs => h.ok s (List.mem_of_mem_take hs)⟩
theorem vk_ok {L : List (List UInt8)} (h : VLog L) (v n : Int) (c : Bool) (h0 : 0 ≤ v) (h1 : v ≤ 1048576) (h2 : 0 ≤ n) (h3 : n ≤ v) (h4 : c = true → n = v) : keptFault ⟨v, n, c, L, 0⟩ = 0 :=
  keptFault_of _ h0 h1 h2 h3 h4 (by have := h.len; show L.length ≤ 60; omega) (by show (0 : Int) ≤ 0; omega) (by show (0 : Int) ≤ L.length; omega) h.ok
theorem may0 (me : Int) (K : KeptM) (w : List Bool) (g : List KeptM) (n : List Bool) (h0 : 0 ≤ me) (h1 : me ≤ 2) (hw : w.length = 3) (hg : g.length = 3) (hn : n.length = 3) (hk : keptFault K = 0) (hgs : ∀ k ∈ g, keptFault k = 0) : ReplMay ⟨me, K, [0, 0, 0], w, g, n⟩ :=
  ⟨h0, h1, rfl, hw, hg, hn, fun x hx => by
    simp only [List.mem_cons, List.not_mem_nil, or_false, or_self] at hx
    subst hx
    exact ⟨by omega, by show (0 : Int) ≤ K.log.length; omega⟩, hgs, hk⟩
theorem z3_ok : ∀ k ∈ Z3, keptFault k = 0 := fun k hk => by
  simp only [Z3, List.mem_cons, List.not_mem_nil, or_false, or_self] at hk
  subst hk
  exact zeroKept_may
theorem vA0_may {L : List (List UInt8)} (h : VLog L) (k : Nat) : ReplMay (vA0 L k) := may0 1 _ _ _ _ (by omega) (by omega) rfl rfl rfl (vk_ok (h.take k) 0 0 true (by omega) (by omega) (by omega) (by omega) (fun _ => rfl)) z3_ok
theorem vB0_may {L : List (List UInt8)} (h : VLog L) : ReplMay (vB0 L) := may0 2 _ _ _ _ (by omega) (by omega) rfl rfl rfl (vk_ok h 0 0 true (by omega) (by omega) (by omega) (by omega) (fun _ => rfl)) z3_ok
theorem vB1_may {L : List (List UInt8)} (h : VLog L) : ReplMay (vB1 L) := may0 2 _ _ _ _ (by omega) (by omega) rfl rfl rfl (vk_ok h 1 0 false (by omega) (by omega) (by omega) (by omega) (fun e => by simp at e)) z3_ok
theorem vOwn_ok {L : List (List UInt8)} (h : VLog L) (k : Nat) : keptFault (vOwn L k) = 0 := vk_ok (h.take k) 1 0 false (by omega) (by omega) (by omega) (by omega) (fun e => by simp at e)
theorem vA1_may {L : List (List UInt8)} (h : VLog L) (k : Nat) : ReplMay (vA1 L k) := may0 1 _ _ _ _ (by omega) (by omega) rfl rfl rfl (vOwn_ok h k) fun x hx => by
  simp only [List.mem_cons, List.not_mem_nil, or_false] at hx
  rcases hx with rfl | rfl | rfl
  · exact zeroKept_may
  · exact vOwn_ok h k
  · exact zeroKept_may
theorem vC_may {L : List (List UInt8)} (h : VLog L) : ReplMay (vC L) := may0 1 _ _ _ _ (by omega) (by omega) rfl rfl rfl (vk_ok h 1 1 true (by omega) (by omega) (by omega) (by omega) (fun _ => rfl)) z3_ok
theorem v_new {L : List (List UInt8)} (h : VLog L) (k : Nat) : newrE 1 (vA0 L k).kept = 0 ∧ newrR 1 (vA0 L k).kept = vA0 L k ∧ newrE 2 (vB0 L).kept = 0 ∧ newrR 2 (vB0 L).kept = vB0 L := by
  have e1 : newrE 1 (vA0 L k).kept = 0 := by unfold newrE; rw [if_pos (by omega)]; exact (vA0_may h k).kept
  have e2 : newrE 2 (vB0 L).kept = 0 := by unfold newrE; rw [if_pos (by omega)]; exact (vB0_may h).kept
  exact ⟨e1, by unfold newrR; rw [if_pos e1]; rfl, e2, by unfold newrR; rw [if_pos e2]; rfl⟩
theorem v_alarm {L : List (List UInt8)} (h : VLog L) : alarmE (vB0 L) = 0 ∧ alarmR (vB0 L) = vB1 L ∧ alarmL (vB0 L) = [wantM 2 0, wantM 2 1] := by
  have e : alarmE (vB0 L) = 0 := by
    unfold alarmE
    rw [may_fault (vB0_may h), if_neg (by decide), if_neg (by show ¬ (1048576 ≤ (0 : Int)); omega)]
  exact ⟨e, by unfold alarmR; rw [if_pos e]; rfl, by unfold alarmL; rw [if_pos e]; rfl⟩
theorem hearE_ok {r : ReplM} {m : MsgM} (hr : ReplMay r) (hm : msgFault m = 0) (hd : m.dst = r.me) (hv : ¬ m.view < r.kept.view) : hearE r m = 0 := by
  unfold hearE
  rw [may_fault hr, if_neg (by decide), hm, if_neg (by decide), if_neg (by simp [hd]), if_neg hv]
theorem v_hear1 {L : List (List UInt8)} (h : VLog L) (k : Nat) : hearE (vA0 L k) (wantM 2 1) = 0 ∧ hearR (vA0 L k) (wantM 2 1) = vA1 L k ∧ hearL (vA0 L k) (wantM 2 1) = [wantM 1 0, wantM 1 2] := by
  have e : hearE (vA0 L k) (wantM 2 1) = 0 := hearE_ok (vA0_may h k) (by decide) rfl (by show ¬ ((1 : Int) < 0); omega)
  exact ⟨e, by unfold hearR; rw [if_pos e]; rfl, by unfold hearL; rw [if_pos e]; rfl⟩
theorem v_hear2 {L : List (List UInt8)} (h : VLog L) : hearE (vB1 L) (wantM 1 2) = 0 ∧ hearL (vB1 L) (wantM 1 2) = [giveM L] := by
  have e : hearE (vB1 L) (wantM 1 2) = 0 := hearE_ok (vB1_may h) (by decide) rfl (by show ¬ ((1 : Int) < 1); omega)
  exact ⟨e, by unfold hearL; rw [if_pos e]; rfl⟩
theorem v_hear3 {L : List (List UInt8)} (h : VLog L) (k : Nat) (hk : k ≤ L.length) : hearE (vA1 L k) (giveM L) = 0 ∧ hearR (vA1 L k) (giveM L) = vC L ∧ ∃ m1 m2, hearL (vA1 L k) (giveM L) = [m1, m2] := by
  have hm : msgFault (giveM L) = 0 := by
    have q := hearL_may (vB1 L) (wantM 1 2) (v_hear2 h).1 (giveM L)
    have e : hearL (vB1 L) (wantM 1 2) = hearL' (vB1 L) (wantM 1 2) := by unfold hearL; rw [if_pos (v_hear2 h).1]
    rw [← e, (v_hear2 h).2] at q
    exact q (by simp)
  have e : hearE (vA1 L k) (giveM L) = 0 := hearE_ok (vA1_may h k) hm rfl (by show ¬ ((1 : Int) < 1); omega)
  obtain ⟨X, hX⟩ : ∃ X, gaveR (vA1 L k) (giveM L) = X := ⟨_, rfl⟩
  have hXe : X = ⟨1, vOwn L k, [0, 0, 0], [false, true, true], [zeroKept, vOwn L k, ⟨1, 0, false, L, 0⟩], [false, true, true]⟩ := by rw [← hX]; rfl
  have hlen : (L.take k).length = k := by rw [List.length_take]; omega
  have hb : begins X = true := by
    rw [hXe]
    rfl
  have hbl : bestLog X = L := by
    rw [hXe]
    by_cases hkl : k < L.length
    · have hc : (decide ((L.take k).length < L.length)) = true := by rw [hlen]; simp [hkl]
      simp [bestLog, bestTo, bestStep, better, vOwn, zeroKept, hc, hlen, hkl]
    · have hkl' : k = L.length := by omega
      have ht : L.take k = L := by rw [hkl', List.take_length]
      simp [bestLog, bestTo, bestStep, better, vOwn, zeroKept, ht]
  have hbc : (bestTo X 3).commit = 0 := by
    rw [hXe]
    simp [bestTo, bestStep, vOwn]
  have er : beginR X = vC L := by
    unfold beginR
    rw [if_pos hb, hbl, hbc]
    rw [hXe]
    show forgot _ = _
    unfold forgot vC
    simp only [vOwn]
    congr
  have hr : hearR' (vA1 L k) (giveM L) = beginR X := by rw [← hX]; rfl
  have hl : hearL' (vA1 L k) (giveM L) = beginL X := by rw [← hX]; rfl
  refine ⟨e, by unfold hearR; rw [if_pos e, hr, er], ?_⟩
  unfold hearL
  rw [if_pos e, hl]
  unfold beginL
  rw [if_pos hb, er]
  exact ⟨_, _, rfl⟩

end Go.Proofs.YtmdgkjbiicaljagDoor

/- The plain mathematics of the raw things that the laws draw: operations. -/
namespace Go.Proofs.YtmdgkjbiicaljagDoor

structure RawM where
  kind : Int
  a : Int
  b : Int
  c : Int

/-- What the laws' function Op makes of a raw thing. -/
def opOf (r : RawM) : OpM :=
  if pickN r.kind 12 < 5 then ⟨1, pickN r.a 6, 0, 119 :: Go.Lib.itoa (pickN r.b 1000)⟩
  else if pickN r.kind 12 = 5 then ⟨2, pickN r.a 6, 0, []⟩
  else if pickN r.kind 12 = 6 then ⟨4, 0, 0, []⟩
  else ⟨3, pickN r.a 6, max 0 (pickN r.b 6 - 2), []⟩

theorem decDigits_len (u : Nat) (h : u < 1000) : (Go.Lib.decDigits u).length ≤ 3 := by
  rw [Go.Lib.decDigits]
  split
  · simp
  · rw [Go.Lib.decDigits]
    split
    · simp
    · rw [Go.Lib.decDigits]
      split
      · simp
      · omega

theorem itoa_len (n : Int) (h0 : 0 ≤ n) (h1 : n < 1000) : (Go.Lib.itoa n).length ≤ 3 := by
  unfold Go.Lib.itoa
  rw [if_neg (by omega)]
  exact decDigits_len _ (by omega)

theorem opOf_ok (r : RawM) : opFault (opOf r) = 0 := by
  have h1 := pickN_bd r.a 6 (by omega)
  have h2 := pickN_bd r.b 1000 (by omega)
  have h3 := pickN_bd r.b 6 (by omega)
  have h4 := itoa_len _ h2.1 h2.2
  unfold opOf opFault
  split
  · simp only [List.length_cons]
    unfold opFaultN
    repeat' split
    all_goals first | rfl | (exfalso; omega)
  split
  · unfold opFaultN
    simp only [List.length_nil]
    repeat' split
    all_goals first | rfl | (exfalso; omega)
  split
  · rfl
  · unfold opFaultN
    simp only [List.length_nil]
    repeat' split
    all_goals first | rfl | (exfalso; omega)

end Go.Proofs.YtmdgkjbiicaljagDoor

/- The plain mathematics of the requests that the laws draw. -/
namespace Go.Proofs.YtmdgkjbiicaljagDoor

/-- Who asks. -/
def rawC (r : RawM) : Nat := (1 + pickN r.c 4).toNat
/-- The clients' next numbers, behind a raw thing. -/
def nextOf (nx : List Int) (r : RawM) : List Int := if nx.getD (rawC r) 0 = 0 ∨ 0 < pickN r.a 4 then nx.set (rawC r) (nx.getD (rawC r) 0 + 1) else nx
def reqAt (nx : List Int) (r : RawM) : ReqM := ⟨(rawC r : Int), (nextOf nx r).getD (rawC r) 0, opOf r⟩
def nextsOf (nx : List Int) : List RawM → List Int
  | [] => nx
  | r :: l => nextsOf (nextOf nx r) l
def reqsOf (nx : List Int) : List RawM → List ReqM
  | [] => []
  | r :: l => reqAt nx r :: reqsOf (nextOf nx r) l
def nx0 : List Int := [0, 0, 0, 0, 0]

theorem rawC_bd (r : RawM) : 1 ≤ rawC r ∧ rawC r ≤ 4 ∧ (rawC r : Int) = 1 + pickN r.c 4 := by
  have := pickN_bd r.c 4 (by omega)
  unfold rawC
  omega

theorem nextsOf_snoc (nx : List Int) (l : List RawM) (r : RawM) : nextsOf nx (l ++ [r]) = nextOf (nextsOf nx l) r := by
  induction l generalizing nx with
  | nil => rfl
  | cons x l ih => exact ih _
theorem reqsOf_snoc (nx : List Int) (l : List RawM) (r : RawM) : reqsOf nx (l ++ [r]) = reqsOf nx l ++ [reqAt (nextsOf nx l) r] := by
  induction l generalizing nx with
  | nil => rfl
  | cons x l ih => simp only [List.cons_append, reqsOf, nextsOf]; rw [ih]

theorem nextOf_len (nx : List Int) (r : RawM) : (nextOf nx r).length = nx.length := by unfold nextOf; split <;> simp
theorem nextsOf_len (nx : List Int) (l : List RawM) : (nextsOf nx l).length = nx.length := by
  induction l generalizing nx with
  | nil => rfl
  | cons x l ih => exact (ih _).trans (nextOf_len nx x)
theorem reqsOf_len (nx : List Int) (l : List RawM) : (reqsOf nx l).length = l.length := by
  induction l generalizing nx with
  | nil => rfl
  | cons x l ih => simp [reqsOf, ih]

/-- The numbers stay within bounds. -/
theorem nextOf_bd (nx : List Int) (r : RawM) (k : Int) (h : ∀ x ∈ nx, 0 ≤ x ∧ x ≤ k) : ∀ x ∈ nextOf nx r, 0 ≤ x ∧ x ≤ k + 1 := by
  have hg : 0 ≤ nx.getD (rawC r) 0 ∧ (nx.getD (rawC r) 0 ≤ k ∨ nx.getD (rawC r) 0 = 0) := by
    by_cases hi : rawC r < nx.length
    · have := h _ (List.getElem_mem hi)
      simp only [List.getD, List.getElem?_eq_getElem hi, Option.getD_some]
      exact ⟨this.1, Or.inl this.2⟩
    · simp [List.getD, List.getElem?_eq_none (Nat.le_of_not_lt hi)]
  unfold nextOf
  intro x hx
  split at hx
  · rcases List.mem_or_eq_of_mem_set hx with hx | rfl
    · have := h x hx; omega
    · rename_i hc
      by_cases hi : rawC r < nx.length
      · have := h _ (List.getElem_mem hi); omega
      · rw [List.set_eq_of_length_le (by omega)] at hx
        have := h _ hx; omega
  · have := h x hx; omega

theorem nextsOf_bd (l : List RawM) : ∀ (nx : List Int) (k : Int), (∀ x ∈ nx, 0 ≤ x ∧ x ≤ k) → ∀ x ∈ nextsOf nx l, 0 ≤ x ∧ x ≤ k + l.length := by
  induction l with
  | nil => intro nx k h x hx; have := h x hx; simp; omega
  | cons r l ih =>
    intro nx k h x hx
    have := ih (nextOf nx r) (k + 1) (nextOf_bd nx r k h) x hx
    simp; omega

/-- Each request may be. -/
theorem reqAt_ok (nx : List Int) (r : RawM) (hl : nx.length = 5) (k : Int) (hk : k ≤ 1000) (h : ∀ x ∈ nx, 0 ≤ x ∧ x ≤ k) : reqFault (reqAt nx r) = 0 := by
  have hc := rawC_bd r
  have hi : rawC r < nx.length := by omega
  have hb := nextOf_bd nx r k h
  have hi' : rawC r < (nextOf nx r).length := by rw [nextOf_len]; exact hi
  have hm := hb _ (List.getElem_mem hi')
  have e : (nextOf nx r).getD (rawC r) 0 = (nextOf nx r)[rawC r] := by simp [List.getD, hi']
  have hpos : 1 ≤ (nextOf nx r).getD (rawC r) 0 := by
    have h0 := h _ (List.getElem_mem hi)
    have e0 : nx.getD (rawC r) 0 = nx[rawC r] := by simp [List.getD, hi]
    unfold nextOf
    split
    · rw [show (nx.set (rawC r) (nx.getD (rawC r) 0 + 1)).getD (rawC r) 0 = nx.getD (rawC r) 0 + 1 by simp [List.getD, hi]]
      rw [e0]; omega
    · rename_i hn
      rw [e0] at hn ⊢
      omega
  unfold reqFault reqAt
  simp only
  rw [if_pos ⟨⟨by omega, by omega⟩, ⟨hpos, by rw [e]; omega⟩⟩]
  exact opOf_ok r

theorem reqsOf_ok : ∀ (l : List RawM) (nx : List Int) (k : Int), nx.length = 5 → k + l.length ≤ 1000 → (∀ x ∈ nx, 0 ≤ x ∧ x ≤ k) → ∀ r ∈ reqsOf nx l, reqFault r = 0
  | [], _, _, _, _, _, r, hr => by simp [reqsOf] at hr
  | x :: l, nx, k, hl, hk, h, r, hr => by
    simp only [List.length_cons] at hk
    simp only [reqsOf, List.mem_cons] at hr
    rcases hr with rfl | hr
    · exact reqAt_ok nx x hl k (by omega) h
    · exact reqsOf_ok l (nextOf nx x) (k + 1) (by rw [nextOf_len]; exact hl) (by omega) (nextOf_bd nx x k h) r hr

end Go.Proofs.YtmdgkjbiicaljagDoor
