/- What was written is read; a part of it is not; nor is it if a byte is another one. -/
import Derived.Test.YtdnogggadocilaeDoorStageMath
import Derived.Test.YtdnogggadocilaeDoorMachBack
import Derived.Test.YtdnogggadocilaeDoorReqsMath
namespace Go.Proofs.YtdnogggadocilaeDoor
set_option linter.unusedVariables false

/-! Numbers and texts, one behind another, read as they were written. -/
theorem nums_back (ns : List Int) (t : List UInt8) (h : ∀ x ∈ ns, 0 ≤ x ∧ x ≤ 1073741824) :
    numsE ns.length (ns.flatMap numBytes ++ t) = 0 ∧ numsV ns.length (ns.flatMap numBytes ++ t) = ns ∧ numsR ns.length (ns.flatMap numBytes ++ t) = t := by
  induction ns with
  | nil => exact ⟨rfl, rfl, rfl⟩
  | cons x ns ih =>
    have hx := h x (by simp)
    obtain ⟨i1, i2, i3⟩ := ih fun y hy => h y (by simp [hy])
    obtain ⟨e1, e2, e3⟩ := numE_num x hx.1 hx.2 (ns.flatMap numBytes ++ t)
    have c : (x :: ns).flatMap numBytes ++ t = numBytes x ++ (ns.flatMap numBytes ++ t) := by simp [List.flatMap_cons]
    rw [c]
    refine ⟨?_, ?_, ?_⟩
    · show (if numE (numBytes x ++ (ns.flatMap numBytes ++ t)) = 0 then numsE ns.length (numR (numBytes x ++ (ns.flatMap numBytes ++ t))) else _) = 0
      rw [if_pos e1, e3, i1]
    · show numV _ :: numsV ns.length (numR _) = _
      rw [e2, e3, i2]
    · show numsR ns.length (numR _) = _
      rw [e3, i3]

theorem txts_back (l : List (List UInt8)) (t : List UInt8) (h : ∀ s ∈ l, s.length ≤ 255) :
    txtsE l.length (l.flatMap txtB ++ t) = 0 ∧ txtsD l.length (l.flatMap txtB ++ t) = l ∧ txtsR l.length (l.flatMap txtB ++ t) = t := by
  induction l with
  | nil => exact ⟨rfl, rfl, rfl⟩
  | cons x l ih =>
    obtain ⟨i1, i2, i3⟩ := ih fun y hy => h y (by simp [hy])
    obtain ⟨e1, e2, e3⟩ := txt_txt x (l.flatMap txtB ++ t) (h x (by simp))
    have c : (x :: l).flatMap txtB ++ t = b8 x.length :: (x ++ (l.flatMap txtB ++ t)) := by simp [List.flatMap_cons, txtB]
    rw [c]
    refine ⟨?_, ?_, ?_⟩
    · show (if txtE (b8 x.length :: (x ++ (l.flatMap txtB ++ t))) = 0 then txtsE l.length (txtR (b8 x.length :: (x ++ (l.flatMap txtB ++ t)))) else _) = 0
      rw [if_pos e1, e3, i1]
    · show txtD _ :: txtsD l.length (txtR _) = _
      rw [e2, e3, i2]
    · show txtsR l.length (txtR _) = _
      rw [e3, i3]

/-- What stands behind is left. -/
theorem num_more (t u : List UInt8) (h : numE t = 0) : numE (t ++ u) = 0 ∧ numV (t ++ u) = numV t ∧ numR (t ++ u) = numR t ++ u := by
  have hl : ¬ t.length < 4 := by
    intro hl
    unfold numE at h
    rw [if_pos hl] at h
    omega
  have hv : valN (t ++ u) 4 = valN t 4 := by
    have b : ∀ k, k < 4 → (t ++ u).getD k 0 = t.getD k 0 := fun k hk => by
      simp only [List.getD]
      rw [List.getElem?_append_left (by omega)]
    simp only [valN]
    rw [b 0 (by omega), b 1 (by omega), b 2 (by omega), b 3 (by omega)]
  have e : numE (t ++ u) = numE t := by
    unfold numE
    rw [if_neg hl, if_neg (by rw [List.length_append]; omega), hv]
  refine ⟨by rw [e, h], ?_, ?_⟩
  · unfold numV
    rw [e, hv]
  · unfold numR
    rw [e, if_pos h, if_pos h, List.drop_append_of_le_length (by omega)]

theorem nums_more (n : Nat) (t u : List UInt8) (h : numsE n t = 0) : numsE n (t ++ u) = 0 ∧ numsV n (t ++ u) = numsV n t ∧ numsR n (t ++ u) = numsR n t ++ u := by
  induction n generalizing t with
  | zero => exact ⟨rfl, rfl, rfl⟩
  | succ n ih =>
    have h' : (if numE t = 0 then numsE n (numR t) else numE t) = 0 := h
    by_cases hn : numE t = 0
    · rw [if_pos hn] at h'
      obtain ⟨e1, e2, e3⟩ := num_more t u hn
      obtain ⟨i1, i2, i3⟩ := ih (numR t) h'
      refine ⟨?_, ?_, ?_⟩
      · show (if numE (t ++ u) = 0 then numsE n (numR (t ++ u)) else _) = 0
        rw [if_pos e1, e3, i1]
      · show numV (t ++ u) :: numsV n (numR (t ++ u)) = numV t :: numsV n (numR t)
        rw [e2, e3, i2]
      · show numsR n (numR (t ++ u)) = numsR n (numR t) ++ u
        rw [e3, i3]
    · rw [if_neg hn] at h'
      exact absurd h' hn

theorem txt_more (t u : List UInt8) (h : txtE t = 0) : txtE (t ++ u) = 0 ∧ txtD (t ++ u) = txtD t ∧ txtR (t ++ u) = txtR t ++ u := by
  cases t with
  | nil => simp [txtE] at h
  | cons c r =>
    have hl : ¬ r.length < c.toNat := by
      intro hl
      simp [txtE, hl] at h
    have hl2 : ¬ (r ++ u).length < c.toNat := by rw [List.length_append]; omega
    refine ⟨?_, ?_, ?_⟩
    · simp only [List.cons_append, txtE, if_neg hl2]
    · simp only [List.cons_append, txtD, if_neg hl, if_neg hl2]
      rw [List.take_append_of_le_length (by omega)]
    · simp only [List.cons_append, txtR, if_neg hl, if_neg hl2]
      rw [List.drop_append_of_le_length (by omega)]

theorem txts_more (n : Nat) (t u : List UInt8) (h : txtsE n t = 0) : txtsE n (t ++ u) = 0 ∧ txtsD n (t ++ u) = txtsD n t ∧ txtsR n (t ++ u) = txtsR n t ++ u := by
  induction n generalizing t with
  | zero => exact ⟨rfl, rfl, rfl⟩
  | succ n ih =>
    have h' : (if txtE t = 0 then txtsE n (txtR t) else txtE t) = 0 := h
    by_cases hn : txtE t = 0
    · rw [if_pos hn] at h'
      obtain ⟨e1, e2, e3⟩ := txt_more t u hn
      obtain ⟨i1, i2, i3⟩ := ih (txtR t) h'
      refine ⟨?_, ?_, ?_⟩
      · show (if txtE (t ++ u) = 0 then txtsE n (txtR (t ++ u)) else _) = 0
        rw [if_pos e1, e3, i1]
      · show txtD (t ++ u) :: txtsD n (txtR (t ++ u)) = txtD t :: txtsD n (txtR t)
        rw [e2, e3, i2]
      · show txtsR n (txtR (t ++ u)) = txtsR n (txtR t) ++ u
        rw [e3, i3]
    · rw [if_neg hn] at h'
      exact absurd h' hn

theorem bodyE_parts (t : List UInt8) (h : bodyE t = 0) : numsE 6 t = 0 ∧ txtsE (nAt t 5).toNat (numsR 6 t) = 0 ∧ txtsR (nAt t 5).toNat (numsR 6 t) = [] := by
  unfold bodyE at h
  split at h
  · rename_i q; exact absurd h q
  · rename_i q
    split at h
    · omega
    · split at h
      · rename_i q2; exact absurd h q2
      · rename_i q2
        split at h
        · omega
        · rename_i q3
          exact ⟨by simpa using q, by simpa using q2, by simpa using q3⟩

theorem bodyE_more (t u : List UInt8) (h : bodyE t = 0) (h' : bodyE (t ++ u) = 0) : u = [] := by
  obtain ⟨a1, a2, a3⟩ := bodyE_parts t h
  obtain ⟨b1, b2, b3⟩ := bodyE_parts (t ++ u) h'
  obtain ⟨e1, e2, e3⟩ := nums_more 6 t u a1
  have en : nAt (t ++ u) 5 = nAt t 5 := by unfold nAt; rw [e2]
  rw [en, e3] at b3
  obtain ⟨_, _, f3⟩ := txts_more (nAt t 5).toNat (numsR 6 t) u a2
  rw [f3, a3] at b3
  simpa using b3

theorem seal_len (l : List UInt8) : (sealBytes l).length = 4 := rfl

/-- P4.2 and P4.3: what was written is read. -/
theorem kept_back (K : KeptM) (g : Int) (h : keptFault K = 0) (hg : 0 ≤ g ∧ g ≤ 1073741824) : kdecE (keptB K g) = 0 ∧ kdecK (keptB K g) = K ∧ kdecG (keptB K g) = g ∧ bodyE (bodyB K g) = 0 := by
  have m := keptMay_of K h
  have hlen := keptB_len K g h
  have hd : (keptB K g).drop 4 = bodyB K g := rfl
  have ht : (keptB K g).take 4 = sealBytes (bodyB K g) := rfl
  have h4 : 4 ≤ (keptB K g).length := by unfold keptB; rw [List.length_append, seal_len]; omega
  have hn : ∀ x ∈ keptNums K g, 0 ≤ x ∧ x ≤ 1073741824 := by
    intro x hx
    have hl := m.len
    simp only [keptNums, List.mem_cons, List.not_mem_nil, or_false] at hx
    rcases hx with rfl | rfl | rfl | rfl | rfl | rfl
    · exact hg
    · exact ⟨m.v0, by have := m.v1; omega⟩
    · exact ⟨m.n0, by have := m.v1; have := m.n1; omega⟩
    · unfold bit; split <;> omega
    · exact ⟨m.c0, by have := m.c1; omega⟩
    · omega
  obtain ⟨a1, a2, a3⟩ := nums_back (keptNums K g) (K.log.flatMap txtB) hn
  have e6 : (keptNums K g).length = 6 := rfl
  rw [e6] at a1 a2 a3
  have hb : (keptNums K g).flatMap numBytes ++ K.log.flatMap txtB = bodyB K g := rfl
  rw [hb] at a1 a2 a3
  have n0 : nAt (bodyB K g) 0 = g := by unfold nAt; rw [a2]; rfl
  have n1 : nAt (bodyB K g) 1 = K.view := by unfold nAt; rw [a2]; rfl
  have n2 : nAt (bodyB K g) 2 = K.normal := by unfold nAt; rw [a2]; rfl
  have n3 : nAt (bodyB K g) 3 = bit K.calm := by unfold nAt; rw [a2]; rfl
  have n4 : nAt (bodyB K g) 4 = K.commit := by unfold nAt; rw [a2]; rfl
  have n5 : nAt (bodyB K g) 5 = K.log.length := by unfold nAt; rw [a2]; rfl
  obtain ⟨t1, t2, t3⟩ := txts_back K.log [] fun s hs => by have := decE_len s (m.log s hs); omega
  rw [List.append_nil] at t1 t2 t3
  have hkp : keptP (bodyB K g) = K := by
    unfold keptP
    rw [n1, n2, n3, n4, n5, a3, Int.toNat_natCast, t2]
    obtain ⟨vw, nm, cm, l, ct⟩ := K
    cases cm <;> rfl
  have hbe : bodyE (bodyB K g) = 0 := by
    unfold bodyE
    rw [if_neg (by simpa using a1), n3, n5, a3, Int.toNat_natCast, if_neg, if_neg (by simpa using t1), if_neg (by simpa using t3), hkp, h]
    have := m.len
    unfold bit
    split <;> omega
  have he : kdecE (keptB K g) = 0 := by
    rw [kdec_body _ (by omega) (by omega) (by rw [hd, ht]), hd, hbe]
  refine ⟨he, ?_, ?_, hbe⟩
  · unfold kdecK; rw [if_pos he, hd, hkp]
  · unfold kdecG; rw [if_pos he, hd, n0]

/-- A part of it is not read. -/
theorem kept_torn (K : KeptM) (g : Int) (k : Nat) (h : keptFault K = 0) (hg : 0 ≤ g ∧ g ≤ 1073741824) (hk : k < (keptB K g).length) : kdecE ((keptB K g).take k) ≠ 0 := by
  intro he
  obtain ⟨_, _, _, hb⟩ := kept_back K g h hg
  have hk4 : ¬ ((keptB K g).take k).length < 4 := by
    intro hlt
    unfold kdecE at he
    split at he
    · omega
    · first
        | omega
        | (rw [if_pos hlt] at he; omega)
  rw [List.length_take] at hk4
  have hbody : bodyE (((keptB K g).take k).drop 4) = 0 := by
    unfold kdecE at he
    split at he
    · omega
    · split at he
      · omega
      · split at he
        · omega
        · exact he
  have hd : (keptB K g).drop 4 = bodyB K g := rfl
  have e1 : ((keptB K g).take k).drop 4 = (bodyB K g).take (k - 4) := by rw [← hd, List.drop_take]
  rw [e1] at hbody
  have hcut : (bodyB K g).take (k - 4) ++ (bodyB K g).drop (k - 4) = bodyB K g := List.take_append_drop _ _
  have := bodyE_more _ ((bodyB K g).drop (k - 4)) hbody (by rw [hcut]; exact hb)
  have hl := congrArg List.length this
  rw [List.length_drop, List.length_nil] at hl
  have hkl : (keptB K g).length = 4 + (bodyB K g).length := by unfold keptB; rw [List.length_append, seal_len]
  omega

/-! A byte that is another one is told by the seal. -/
def bsum (l : List UInt8) : Int := (l.map fun c => (c.toNat : Int)).sum
theorem seal_sum (l : List UInt8) : ∀ p : Int × Int, (l.foldl sealStep p).1 % 65521 = (p.1 + bsum l) % 65521 := by
  induction l with
  | nil => intro p; simp [bsum]
  | cons c l ih =>
    intro p
    have e : bsum (c :: l) = (c.toNat : Int) + bsum l := by simp [bsum]
    rw [List.foldl_cons, ih, e]
    show ((p.1 + (c.toNat : Int)) % 65521 + bsum l) % 65521 = _
    omega
theorem sealX (l : List UInt8) : (sealTo l).1 = (1 + bsum l) % 65521 := by
  have h := seal_sum l (1, 0)
  have b := (sealTo_bd l).1
  have e : (sealTo l).1 = (l.foldl sealStep (1, 0)).1 := rfl
  rw [← e] at h
  simp only at h
  omega
theorem bsum_set (l : List UInt8) : ∀ (i : Nat) (c : UInt8) (h : i < l.length), bsum (l.set i c) = bsum l - ((l[i]).toNat : Int) + (c.toNat : Int) := by
  induction l with
  | nil => intro i c h; simp at h
  | cons a l ih =>
    intro i c h
    cases i with
    | zero => simp [bsum]; omega
    | succ i =>
      have := ih i c (by simpa using h)
      have e : ∀ (x : UInt8) (r : List UInt8), bsum (x :: r) = (x.toNat : Int) + bsum r := fun x r => by simp [bsum]
      rw [List.set_cons_succ, e, e, this]
      simp
      omega
theorem seal_other (l : List UInt8) (i : Nat) (c : UInt8) (h : i < l.length) (hc : c ≠ l[i]) : sealBytes (l.set i c) ≠ sealBytes l := by
  intro e
  have hs := bsum_set l i c h
  have x1 := sealX l
  have x2 := sealX (l.set i c)
  have b1 := (sealTo_bd l).1
  have b2 := (sealTo_bd (l.set i c)).1
  unfold sealBytes at e
  simp only [List.cons.injEq] at e
  obtain ⟨_, _, e3, e4, _⟩ := e
  have f3 := congrArg (fun x : UInt8 => (x.toNat : Int)) e3
  have f4 := congrArg (fun x : UInt8 => (x.toNat : Int)) e4
  simp only [b8_toNat] at f3 f4
  have hne : (c.toNat : Int) ≠ ((l[i]).toNat : Int) := fun q => hc (UInt8.toNat_inj.1 (by omega))
  have l1 := c.toNat_lt
  have l2 := (l[i]).toNat_lt
  have hx : (sealTo (l.set i c)).1 = (sealTo l).1 := by omega
  rw [x1, x2, hs] at hx
  omega

theorem kept_spoilt (K : KeptM) (g : Int) (p : Nat) (c : UInt8) (h : keptFault K = 0) (hp : p < (keptB K g).length) (hc : c ≠ (keptB K g)[p]) : kdecE ((keptB K g).set p c) = 11 := by
  have hlen := keptB_len K g h
  have hkl : (keptB K g).length = 4 + (bodyB K g).length := by unfold keptB; rw [List.length_append, seal_len]
  have key : sealBytes (((keptB K g).set p c).drop 4) ≠ ((keptB K g).set p c).take 4 := by
    by_cases h4 : p < 4
    · have e1 : ((keptB K g).set p c).drop 4 = bodyB K g := by
        rw [List.drop_set]
        rw [if_pos h4]
        rfl
      have e2 : ((keptB K g).set p c).take 4 = (sealBytes (bodyB K g)).set p c := by
        rw [List.take_set]
        rfl
      rw [e1, e2]
      intro e
      have e3 := congrArg (fun l : List UInt8 => l[p]?) e
      have hpl : p < (sealBytes (bodyB K g)).length := by rw [seal_len]; exact h4
      simp only [List.getElem?_set_self hpl, List.getElem?_eq_getElem hpl] at e3
      apply hc
      have : (keptB K g)[p] = (sealBytes (bodyB K g))[p] := by
        unfold keptB
        exact List.getElem_append_left hpl
      rw [this]
      injection e3 with e3
      exact e3.symm
    · have e1 : ((keptB K g).set p c).drop 4 = (bodyB K g).set (p - 4) c := by
        rw [List.drop_set]
        rw [if_neg h4]
        rfl
      have e2 : ((keptB K g).set p c).take 4 = sealBytes (bodyB K g) := by
        rw [List.take_set_of_le (by omega)]
        rfl
      rw [e1, e2]
      refine seal_other _ _ _ (by omega) ?_
      have : (keptB K g)[p] = (bodyB K g)[p - 4]'(by omega) := by
        have q : (keptB K g)[p]? = (bodyB K g)[p - 4]? := by
          unfold keptB
          rw [List.getElem?_append_right (by rw [seal_len]; omega), seal_len]
        rw [List.getElem?_eq_getElem hp, List.getElem?_eq_getElem (show p - 4 < (bodyB K g).length by omega)] at q
        injection q
      rw [← this]
      exact hc
  unfold kdecE
  rw [if_neg (by rw [List.length_set]; omega), if_neg (by rw [List.length_set]; omega), if_pos key]

/-! Slots that were stored into. -/
theorem fresh_fault : keptFault freshK = 0 := by decide
theorem slot0 (a b : List UInt8) : slot [a, b] 0 = a := rfl
theorem slot1 (a b : List UInt8) : slot [a, b] 1 = b := rfl
theorem load_two (a b : List UInt8) : loadE [a, b] = if kdecE a = 0 ∨ kdecE b = 0 then 0 else 13 := rfl
/-- The second slot tells. -/
theorem load_second (a b : List UInt8) (hb : kdecE b = 0) (h : kdecE a ≠ 0 ∨ kdecG a < kdecG b) : loadE [a, b] = 0 ∧ loadA [a, b] = 1 ∧ loadG [a, b] = kdecG b ∧ loadK [a, b] = kdecK b := by
  have e : loadE [a, b] = 0 := by rw [load_two, if_pos (Or.inr hb)]
  have s : second [a, b] = true := by
    unfold second
    rw [slot0, slot1]
    rcases h with h | h
    · simp [hb, h]
    · simp [hb, h]
  refine ⟨e, ?_, ?_, ?_⟩
  · unfold loadA; rw [if_pos e, s]; rfl
  · unfold loadG; rw [if_pos e, s, slot1]; rfl
  · unfold loadK; rw [if_pos e, s, slot1]; rfl
/-- The first slot tells. -/
theorem load_first (a b : List UInt8) (ha : kdecE a = 0) (h : kdecE b ≠ 0 ∨ kdecG b ≤ kdecG a) : loadE [a, b] = 0 ∧ loadA [a, b] = 0 ∧ loadG [a, b] = kdecG a ∧ loadK [a, b] = kdecK a := by
  have e : loadE [a, b] = 0 := by rw [load_two, if_pos (Or.inl ha)]
  have s : second [a, b] = false := by
    unfold second
    rw [slot0, slot1]
    rcases h with h | h
    · simp [h]
    · simp [ha]; intro _; omega
  refine ⟨e, ?_, ?_, ?_⟩
  · unfold loadA; rw [if_pos e, s]; rfl
  · unfold loadG; rw [if_pos e, s, slot0]; rfl
  · unfold loadK; rw [if_pos e, s, slot0]; rfl

theorem torn_one (A : KeptM) (hA : keptFault A = 0) : storeE newSlots A (-1) = 0 ∧ storeL newSlots A (-1) = [keptB freshK 0, keptB A 1] := by
  obtain ⟨f1, f2, f3, _⟩ := kept_back freshK 0 fresh_fault (by omega)
  have hn : newSlots = [keptB freshK 0, []] := rfl
  have hd : kdecE [] = 5 := rfl
  obtain ⟨l1, l2, l3, l4⟩ := load_first (keptB freshK 0) [] f1 (Or.inl (by rw [hd]; decide))
  rw [f3] at l3
  rw [hn]
  have e := store_e5 [keptB freshK 0, []] A (-1) l1 (by rw [l3]; decide) hA (by decide)
  refine ⟨e, ?_⟩
  rw [store_set _ _ _ e, l2, l3, storeB_all _ _ _ (by omega)]
  rfl
theorem torn_two (A B : KeptM) (hA : keptFault A = 0) (hB : keptFault B = 0) (u : Int) (hu : -1 ≤ u) : storeE [keptB freshK 0, keptB A 1] B u = 0 ∧ storeL [keptB freshK 0, keptB A 1] B u = [storeB B 2 u, keptB A 1] := by
  obtain ⟨f1, f2, f3, _⟩ := kept_back freshK 0 fresh_fault (by omega)
  obtain ⟨a1, a2, a3, _⟩ := kept_back A 1 hA (by omega)
  obtain ⟨l1, l2, l3, l4⟩ := load_second (keptB freshK 0) (keptB A 1) a1 (Or.inr (by rw [f3, a3]; decide))
  rw [a3] at l3
  have e := store_e5 [keptB freshK 0, keptB A 1] B u l1 (by rw [l3]; decide) hB (by omega)
  refine ⟨e, ?_⟩
  rw [store_set _ _ _ e, l2, l3]
  rfl
theorem torn_new (A B : KeptM) (hA : keptFault A = 0) (hB : keptFault B = 0) : loadE [keptB B 2, keptB A 1] = 0 ∧ loadG [keptB B 2, keptB A 1] = 2 ∧ loadK [keptB B 2, keptB A 1] = B := by
  obtain ⟨b1, b2, b3, _⟩ := kept_back B 2 hB (by omega)
  obtain ⟨a1, a2, a3, _⟩ := kept_back A 1 hA (by omega)
  obtain ⟨l1, _, l3, l4⟩ := load_first (keptB B 2) (keptB A 1) b1 (Or.inr (by rw [a3, b3]; decide))
  exact ⟨l1, by rw [l3, b3], by rw [l4, b2]⟩
theorem torn_old (A : KeptM) (s : List UInt8) (hA : keptFault A = 0) (hs : kdecE s ≠ 0) : loadE [s, keptB A 1] = 0 ∧ loadK [s, keptB A 1] = A := by
  obtain ⟨a1, a2, a3, _⟩ := kept_back A 1 hA (by omega)
  obtain ⟨l1, _, l3, l4⟩ := load_second s (keptB A 1) a1 (Or.inl hs)
  exact ⟨l1, by rw [l4, a2]⟩

def FitL (l : List (List UInt8)) : Prop := l.length ≤ 140737488355328 ∧ ∀ s ∈ l, s.length ≤ 140737488355328
theorem fit_two (a b : List UInt8) (ha : a.length ≤ 3000) (hb : b.length ≤ 3000) : FitL [a, b] := by
  refine ⟨by simp, fun s hs => ?_⟩
  simp only [List.mem_cons, List.not_mem_nil, or_false] at hs
  rcases hs with rfl | rfl <;> omega
theorem fit_new : FitL newSlots := fit_two _ _ (keptB_len freshK 0 fresh_fault) (by simp)
/-- All that SlotsTorn asks for. -/
theorem torn_all (A B : KeptM) (hA : keptFault A = 0) (hB : keptFault B = 0) (k : Int) (h0 : 0 ≤ k) (h1 : k ≤ (keptB B 2).length) :
    ∃ (X Y Z : List (List UInt8)) (C : KeptM), (storeE newSlots A (-1) = 0 ∧ storeL newSlots A (-1) = X) ∧ (storeE X B k = 0 ∧ storeL X B k = Y) ∧ (storeE X B (-1) = 0 ∧ storeL X B (-1) = Z) ∧
      (loadE Y = 0 ∧ loadK Y = C) ∧ (loadE Z = 0 ∧ loadG Z = 2 ∧ loadK Z = B) ∧ ((k < (keptB B 2).length → C = A) ∧ (¬ k < (keptB B 2).length → C = B)) ∧ FitL X ∧ FitL Y ∧ FitL Z := by
  have lf := keptB_len freshK 0 fresh_fault
  have la := keptB_len A 1 hA
  have lb := keptB_len B 2 hB
  have sb : storeB B 2 k = (keptB B 2).take k.toNat := storeB_part B 2 k ⟨h0, h1⟩
  have sb1 : storeB B 2 (-1) = keptB B 2 := storeB_all B 2 (-1) (by omega)
  have e2 := torn_two A B hA hB k (by omega)
  have e3 := torn_two A B hA hB (-1) (by omega)
  rw [sb] at e2
  rw [sb1] at e3
  have ft : ((keptB B 2).take k.toNat).length ≤ 3000 := by rw [List.length_take]; omega
  have hz := torn_new A B hA hB
  by_cases hk : k < (keptB B 2).length
  · have ho := torn_old A ((keptB B 2).take k.toNat) hA (kept_torn B 2 k.toNat hB (by omega) (by omega))
    exact ⟨_, _, _, A, torn_one A hA, e2, e3, ho, hz, ⟨fun _ => rfl, fun q => absurd hk q⟩, fit_two _ _ lf la, fit_two _ _ ft la, fit_two _ _ lb la⟩
  · have et : (keptB B 2).take k.toNat = keptB B 2 := List.take_of_length_le (by omega)
    rw [et] at e2
    exact ⟨_, _, _, B, torn_one A hA, e2, e3, ⟨hz.1, hz.2.2⟩, hz, ⟨fun q => absurd q hk, fun _ => rfl⟩, fit_two _ _ lf la, fit_two _ _ lb la, fit_two _ _ lb la⟩

/-! What is made of raw things. -/
def keptRaw (l : List RawM) (n : Int) : KeptM := ⟨3 + pickN n 50, 3, false, (reqsOf nx0 (l.take 30)).map entryB, pickN n (((l.take 30).length : Int) + 1)⟩
theorem keptRaw_ok (l : List RawM) (n : Int) : keptFault (keptRaw l n) = 0 := by
  have h50 := pickN_bd n 50 (by decide)
  have hlen : ((reqsOf nx0 (l.take 30)).map entryB).length = (l.take 30).length := by rw [List.length_map, reqsOf_len]
  have h30 : (l.take 30).length ≤ 30 := List.length_take_le _ _
  have hc := pickN_bd n (((l.take 30).length : Int) + 1) (by omega)
  have hok := reqsOf_ok (l.take 30) nx0 0 rfl (by omega) (by intro x hx; simp [nx0] at hx; omega)
  have hlog : logE ((reqsOf nx0 (l.take 30)).map entryB) = 0 := logE_zero _ fun s hs => by
    obtain ⟨r, hr, rfl⟩ := List.mem_map.1 hs
    exact (dec_enc r (hok r hr)).1
  unfold keptFault keptIn keptRaw
  simp only [hlen, hlog]
  rw [if_pos (by simp; omega), if_neg (by omega), if_pos (by omega)]

end Go.Proofs.YtdnogggadocilaeDoor
