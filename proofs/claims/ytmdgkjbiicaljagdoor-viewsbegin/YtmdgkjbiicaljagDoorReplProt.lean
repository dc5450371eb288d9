/- What replicas do keeps what the protocol's mathematics asks. -/
import Derived.Test.YtmdgkjbiicaljagDoorProtStep
namespace Go.Proofs.YtmdgkjbiicaljagDoor
set_option linter.unusedVariables false

def gvOf (r : ReplM) (j : Nat) : Option KeptM := if r.given.getD j false = true then some (r.gives.getD j zeroKept) else none
theorem upd_upd {α : Type} (f : Nat → α) (i : Nat) (x y : α) : upd (upd f i x) i y = upd f i y := by
  funext j; unfold upd; split <;> rfl
theorem upd_same {α : Type} (f : Nat → α) (i : Nat) (x : α) (h : f i = x) : upd f i x = f := by
  funext j; unfold upd; split
  · rename_i e; rw [e, h]
  · rfl

structure At (g : Ghost) (k : Nat → KeptM) (gv : Nat → Nat → Option KeptM) (M : List MsgM) (i0 : Nat) (r : ReplM) : Prop where
  inv : Inv g k gv M
  lt : i0 < 3
  me : r.me = (i0 : Int)
  kept : k i0 = r.kept
  gv : gv i0 = gvOf r
  gl : r.gives.length = 3
  nl : r.given.length = 3
def Next (g : Ghost) (k : Nat → KeptM) (gv : Nat → Nat → Option KeptM) (M : List MsgM) (i0 : Nat) (r r' : ReplM) (out : List MsgM) : Prop :=
  ∃ g', Ext g g' ∧ At g' (upd k i0 r'.kept) (upd gv i0 (gvOf r')) (M ++ out) i0 r' ∧ r.kept.commit ≤ r'.kept.commit

theorem Next.refl {g : Ghost} {k : Nat → KeptM} {gv : Nat → Nat → Option KeptM} {M : List MsgM} {i0 : Nat} {r : ReplM} (h : At g k gv M i0 r) : Next g k gv M i0 r r [] := by
  refine ⟨g, Ext.refl g, ?_, Int.le_refl _⟩
  rw [upd_same _ _ _ h.kept, upd_same _ _ _ h.gv, List.append_nil]
  exact h
theorem Next.seq {g : Ghost} {k : Nat → KeptM} {gv : Nat → Nat → Option KeptM} {M : List MsgM} {i0 : Nat} {r r1 r2 : ReplM} {o1 o2 : List MsgM} (h : Next g k gv M i0 r r1 o1)
    (h2 : ∀ g' k' gv', At g' k' gv' (M ++ o1) i0 r1 → Next g' k' gv' (M ++ o1) i0 r1 r2 o2) : Next g k gv M i0 r r2 (o1 ++ o2) := by
  obtain ⟨g1, e1, a1, c1⟩ := h
  obtain ⟨g2, e2, a2, c2⟩ := h2 _ _ _ a1
  refine ⟨g2, e1.trans e2, ?_, Int.le_trans c1 c2⟩
  rw [upd_upd, upd_upd, List.append_assoc] at a2
  exact a2
/-- What is sent behind it all. -/
theorem Next.send {g : Ghost} {k : Nat → KeptM} {gv : Nat → Nat → Option KeptM} {M : List MsgM} {i0 : Nat} {r r1 : ReplM} {o1 : List MsgM} (h : Next g k gv M i0 r r1 []) (h2 : ∀ g' k' gv', At g' k' gv' M i0 r1 → ∀ m ∈ o1, MsgOk g' k' m) : Next g k gv M i0 r r1 o1 := by
  obtain ⟨g1, e1, a1, c1⟩ := h
  rw [List.append_nil] at a1
  refine ⟨g1, e1, ⟨a1.inv.less fun m hm => ?_, a1.lt, a1.me, a1.kept, a1.gv, a1.gl, a1.nl⟩, c1⟩
  rcases List.mem_append.1 hm with h | h
  · exact a1.inv.msgs m h
  · exact h2 _ _ _ a1 m h

theorem gvOf_forgot (r : ReplM) : gvOf (forgot r) = fun _ => none := by
  funext j
  unfold gvOf forgot
  match j with
  | 0 => rfl
  | 1 => rfl
  | 2 => rfl
  | j + 3 => rfl
theorem gvOf_with (r : ReplM) (i : Nat) (x : KeptM) (hi : i < 3) (hg : r.gives.length = 3) (hn : r.given.length = 3) : gvOf (withGive r i x) = upd (gvOf r) i (some x) := by
  funext j
  unfold gvOf withGive upd
  by_cases e : j = i
  · subst e
    simp [List.getD, hi, hg, hn]
  · simp only [List.getD, List.getElem?_set, if_neg (Ne.symm e), if_neg e]
    rfl

theorem ldr_tmod {v : Int} {i : Nat} (h0 : 0 ≤ v) (h : v.tmod 3 = (i : Int)) : ldr v = i := by
  rw [Int.tmod_eq_emod_of_nonneg h0] at h
  unfold ldr
  omega
theorem leads_of {g : Ghost} {k : Nat → KeptM} {gv : Nat → Nat → Option KeptM} {M : List MsgM} {i0 : Nat} {r : ReplM} (h : At g k gv M i0 r) (hl : leads r = true) : (k i0).calm = true ∧ ldr (k i0).view = i0 := by
  unfold leads at hl
  simp only [Bool.and_eq_true, decide_eq_true_eq] at hl
  have o := h.inv.one i0 h.lt
  have := o.n0
  have := o.nv
  rw [h.kept] at *
  exact ⟨hl.1, ldr_tmod (by omega) (by rw [hl.2, h.me])⟩
theorem mem_toAll {r : ReplM} {kind commit : Int} {log : List (List UInt8)} {m : MsgM} (h : m ∈ toAll r kind commit log) : m.kind = kind ∧ m.view = r.kept.view ∧ m.commit = commit ∧ m.log = log := by
  unfold toAll at h
  obtain ⟨i, _, rfl⟩ := List.mem_map.1 h
  exact ⟨rfl, rfl, rfl, rfl⟩
theorem ledBy_ok {g : Ghost} {k : Nat → KeptM} {gv : Nat → Nat → Option KeptM} {M : List MsgM} {i0 : Nat} {r : ReplM} (h : At g k gv M i0 r) (hl : leads r = true) : ∀ m ∈ ledBy r, MsgOk g k m := by
  intro m hm
  obtain ⟨a, b, c, d⟩ := mem_toAll hm
  have l := leads_of h hl
  exact h.inv.leadMsg i0 h.lt l.1 l.2 m a (by rw [b, h.kept]) (by rw [d, h.kept]) (by rw [c, h.kept])

/-- P5.5 -/
theorem want_next {g : Ghost} {k : Nat → KeptM} {gv : Nat → Nat → Option KeptM} {M : List MsgM} {i0 : Nat} {r : ReplM} (h : At g k gv M i0 r) (v : Int) (hv : r.kept.view < v) : Next g k gv M i0 r (wantR r v) (wantL r v) := by
  refine Next.send ⟨g, Ext.refl g, ?_, Int.le_refl _⟩ (fun _ _ _ _ m hm => wantMsg m (mem_toAll hm).1)
  have hi := h.inv.want i0 h.lt v (by rw [h.kept]; exact hv)
  have e : gvOf (wantR r v) = fun _ => none := by
    funext j
    unfold gvOf wantR
    match j with
    | 0 => rfl
    | 1 => rfl
    | 2 => rfl
    | j + 3 => rfl
  refine ⟨?_, h.lt, h.me, upd_self .., upd_self .., rfl, rfl⟩
  rw [e, List.append_nil]
  rw [h.kept] at hi
  exact hi
theorem wish_next {g : Ghost} {k : Nat → KeptM} {gv : Nat → Nat → Option KeptM} {M : List MsgM} {i0 : Nat} {r : ReplM} (h : At g k gv M i0 r) (m : MsgM) : Next g k gv M i0 r (wishR r m) (wishL r m) := by
  unfold wishR wishL
  split
  · rename_i hw
    unfold wishes at hw
    simp only [Bool.and_eq_true, decide_eq_true_eq] at hw
    exact want_next h m.view hw.2
  · exact Next.refl h

/-- A change that only the gives see. -/
theorem gave_next {g : Ghost} {k : Nat → KeptM} {gv : Nat → Nat → Option KeptM} {M : List MsgM} {i0 : Nat} {r : ReplM} (h : At g k gv M i0 r) (j : Nat) (hj : j < 3) (x : KeptM) (hx : r.kept.calm = false → GiveOk g k j r.kept.view x) (ho : j = i0 → x.commit = r.kept.commit) : Next g k gv M i0 r (withGive r j x) [] := by
  refine ⟨g, Ext.refl g, ?_, Int.le_refl _⟩
  have hi := h.inv.gave i0 h.lt j hj x (by rw [h.kept]; exact hx) (by rw [h.kept]; exact ho)
  have e : gvOf (withGive r j x) = upd (gvOf r) j (some x) := gvOf_with r j x hj h.gl h.nl
  refine ⟨?_, h.lt, h.me, upd_self .., upd_self .., by simp [withGive, h.gl], by simp [withGive, h.nl]⟩
  rw [e, List.append_nil, show (withGive r j x).kept = r.kept from rfl, upd_same _ _ _ h.kept, ← h.gv]
  exact hi
theorem own_next {g : Ghost} {k : Nat → KeptM} {gv : Nat → Nat → Option KeptM} {M : List MsgM} {i0 : Nat} {r : ReplM} (h : At g k gv M i0 r) (hc : r.kept.calm = false) : Next g k gv M i0 r (withGive r r.me.toNat (ownK r)) [] := by
  have e : r.me.toNat = i0 := by rw [h.me]; omega
  rw [e]
  refine gave_next h i0 h.lt (ownK r) (fun _ => ?_) (fun _ => rfl)
  have := h.inv.ownGive i0 h.lt (by rw [h.kept]; exact hc) (ownK r) (by rw [h.kept]; rfl) (by rw [h.kept]; rfl) (by rw [h.kept]; rfl)
  rw [h.kept] at this
  exact this

/-- The best of what is given. -/
def givenTo (r : ReplM) (n : Nat) : Int := ((List.range n).countP fun j => r.given.getD j false : Nat)
structure BestOk (r : ReplM) (n : Nat) (b : Best) : Prop where
  none : b.at_ < 0 → b.at_ = -1 ∧ ∀ j, j < n → r.given.getD j false = false
  some : 0 ≤ b.at_ → b.at_.toNat < n ∧ r.given.getD b.at_.toNat false = true ∧ ∀ j, j < n → r.given.getD j false = true →
    (r.gives.getD j zeroKept).normal < (r.gives.getD b.at_.toNat zeroKept).normal ∨ ((r.gives.getD j zeroKept).normal = (r.gives.getD b.at_.toNat zeroKept).normal ∧ (r.gives.getD j zeroKept).log.length ≤ (r.gives.getD b.at_.toNat zeroKept).log.length)
  c0 : 0 ≤ b.commit
  ce : b.commit = 0 ∨ ∃ j, j < n ∧ r.given.getD j false = true ∧ (r.gives.getD j zeroKept).commit = b.commit
  cm : ∀ j, j < n → r.given.getD j false = true → (r.gives.getD j zeroKept).commit ≤ b.commit
theorem best_ok (r : ReplM) : ∀ n, BestOk r n (bestTo r n)
  | 0 => ⟨fun _ => ⟨rfl, fun j h => by omega⟩, fun h => by simp [bestTo] at h, by simp [bestTo], Or.inl rfl, fun j h => by omega⟩
  | n + 1 => by
    have ih := best_ok r n
    have e : bestTo r (n + 1) = bestStep r (bestTo r n) n := rfl
    rw [e]
    generalize bestTo r n = b at ih
    unfold bestStep
    by_cases hg : r.given.getD n false = true
    · rw [if_pos hg]
      by_cases hb : better r b n = true
      · simp only [if_pos hb]
        refine ⟨fun h => by simp only at h; omega, fun _ => ?_, ?_, ?_, ?_⟩
        · simp only [Int.toNat_natCast]
          refine ⟨by omega, hg, fun j hj hgj => ?_⟩
          by_cases ej : j = n
          · subst ej; exact Or.inr ⟨rfl, Nat.le_refl _⟩
          · have hjn : j < n := by omega
            by_cases ha : b.at_ < 0
            · have := (ih.none ha).2 j hjn
              rw [this] at hgj; cases hgj
            · obtain ⟨_, _, h3⟩ := ih.some (by omega)
              have h4 := h3 j hjn hgj
              unfold better at hb
              simp only [Bool.or_eq_true, Bool.and_eq_true, decide_eq_true_eq] at hb
              omega
        · have := ih.c0
          show 0 ≤ if b.commit < _ then _ else _
          split <;> omega
        · show (if b.commit < _ then _ else _) = (0 : Int) ∨ _
          split
          · exact Or.inr ⟨n, by omega, hg, rfl⟩
          · rcases ih.ce with h | ⟨j, h1, h2, h3⟩
            · exact Or.inl h
            · exact Or.inr ⟨j, by omega, h2, h3⟩
        · intro j hj hgj
          show _ ≤ if b.commit < _ then _ else _
          by_cases ej : j = n
          · subst ej; split <;> omega
          · have := ih.cm j (by omega) hgj
            split <;> omega
      · simp only [if_neg hb]
        have hna : ¬ b.at_ < 0 := fun h => hb (by unfold better; simp [h])
        refine ⟨fun h => absurd h hna, fun h => ?_, ?_, ?_, ?_⟩
        · obtain ⟨h1, h2, h3⟩ := ih.some h
          refine ⟨by simp only; omega, h2, fun j hj hgj => ?_⟩
          by_cases ej : j = n
          · subst ej
            unfold better at hb
            simp only [Bool.or_eq_true, Bool.and_eq_true, decide_eq_true_eq] at hb
            simp only
            omega
          · exact h3 j (by omega) hgj
        · have := ih.c0
          show 0 ≤ if b.commit < _ then _ else _
          split <;> omega
        · show (if b.commit < _ then _ else _) = (0 : Int) ∨ _
          split
          · exact Or.inr ⟨n, by omega, hg, rfl⟩
          · rcases ih.ce with h | ⟨j, h1, h2, h3⟩
            · exact Or.inl h
            · exact Or.inr ⟨j, by omega, h2, h3⟩
        · intro j hj hgj
          show _ ≤ if b.commit < _ then _ else _
          by_cases ej : j = n
          · subst ej; split <;> omega
          · have := ih.cm j (by omega) hgj
            split <;> omega
    · rw [if_neg hg]
      have hgf : r.given.getD n false = false := by simpa using hg
      refine ⟨fun h => ⟨(ih.none h).1, fun j hj => ?_⟩, fun h => ?_, ih.c0, ?_, fun j hj hgj => ?_⟩
      · by_cases ej : j = n
        · subst ej; exact hgf
        · exact (ih.none h).2 j (by omega)
      · obtain ⟨h1, h2, h3⟩ := ih.some h
        refine ⟨by omega, h2, fun j hj hgj => ?_⟩
        by_cases ej : j = n
        · subst ej; rw [hgf] at hgj; cases hgj
        · exact h3 j (by omega) hgj
      · rcases ih.ce with h | ⟨j, h1, h2, h3⟩
        · exact Or.inl h
        · exact Or.inr ⟨j, by omega, h2, h3⟩
      · by_cases ej : j = n
        · subst ej; rw [hgf] at hgj; cases hgj
        · exact ih.cm j (by omega) hgj
theorem best_many (r : ReplM) : (bestTo r 3).many = (if r.given.getD 0 false = true then 1 else 0) + (if r.given.getD 1 false = true then 1 else 0) + (if r.given.getD 2 false = true then 1 else 0) := by
  have step : ∀ n, (bestTo r (n + 1)).many = (bestTo r n).many + (if r.given.getD n false = true then 1 else 0) := fun n => by
    show (bestStep r (bestTo r n) n).many = _
    unfold bestStep
    split <;> simp
  rw [step, step, step]
  show (0 : Int) + _ + _ + _ = _
  omega

/-- P5.7: a view begins, or not. -/
theorem begin_next {g : Ghost} {k : Nat → KeptM} {gv : Nat → Nat → Option KeptM} {M : List MsgM} {i0 : Nat} {r : ReplM} (h : At g k gv M i0 r) (hc : r.kept.calm = false) (hl : r.kept.view.tmod 3 = r.me) : Next g k gv M i0 r (beginR r) (beginL r) := by
  unfold beginL
  by_cases hb : begins r = true
  · rw [if_pos hb]
    have ho := h.inv.one i0 h.lt
    have hv0 : 0 ≤ r.kept.view := by have := ho.n0; have := ho.nv; rw [h.kept] at *; omega
    have hr' : beginR r = forgot ⟨r.me, ⟨r.kept.view, r.kept.view, true, bestLog r, min (bestTo r 3).commit (bestLog r).length⟩, [], [], [], []⟩ := by unfold beginR; rw [if_pos hb]
    have hlead : leads (beginR r) = true := by
      rw [hr']
      unfold leads forgot
      simp [hl]
    refine Next.send ?_ (fun _ _ _ a => ledBy_ok a hlead)
    unfold begins at hb
    simp only [Bool.and_eq_true, decide_eq_true_eq] at hb
    obtain ⟨hmany, hme⟩ := hb
    have eme : r.me.toNat = i0 := by rw [h.me]; omega
    rw [eme] at hme
    rw [best_many] at hmany
    have B := best_ok r 3
    have hat : 0 ≤ (bestTo r 3).at_ := by
      by_cases hn : (bestTo r 3).at_ < 0
      · have := (B.none hn).2 i0 h.lt; rw [this] at hme; cases hme
      · omega
    obtain ⟨b1, b2, b3⟩ := B.some hat
    have hgv : ∀ j, r.given.getD j false = true → gv i0 j = some (r.gives.getD j zeroKept) := fun j hj => by rw [h.gv]; unfold gvOf; rw [if_pos hj]
    have hgv' : ∀ j x, gv i0 j = some x → r.given.getD j false = true ∧ x = r.gives.getD j zeroKept := fun j x hx => by
      rw [h.gv] at hx
      unfold gvOf at hx
      split at hx
      · rename_i hj; injection hx with hx; exact ⟨hj, hx.symm⟩
      · cases hx
    obtain ⟨j1, hj1, hji, hg1⟩ : ∃ j1, j1 < 3 ∧ j1 ≠ i0 ∧ r.given.getD j1 false = true := by
      have hlt := h.lt
      rcases (show i0 = 0 ∨ i0 = 1 ∨ i0 = 2 by omega) with rfl | rfl | rfl
      · by_cases h1 : r.given.getD 1 false = true
        · exact ⟨1, by omega, by omega, h1⟩
        · by_cases h2 : r.given.getD 2 false = true
          · exact ⟨2, by omega, by omega, h2⟩
          · rw [if_neg h1, if_neg h2] at hmany; split at hmany <;> omega
      · by_cases h1 : r.given.getD 0 false = true
        · exact ⟨0, by omega, by omega, h1⟩
        · by_cases h2 : r.given.getD 2 false = true
          · exact ⟨2, by omega, by omega, h2⟩
          · rw [if_neg h1, if_neg h2] at hmany; split at hmany <;> omega
      · by_cases h1 : r.given.getD 0 false = true
        · exact ⟨0, by omega, by omega, h1⟩
        · by_cases h2 : r.given.getD 1 false = true
          · exact ⟨1, by omega, by omega, h2⟩
          · rw [if_neg h1, if_neg h2] at hmany; split at hmany <;> omega
    have hce : ∃ j x, j < 3 ∧ gv i0 j = some x ∧ x.commit = (bestTo r 3).commit := by
      rcases B.ce with hz | ⟨j, hj, hgj, hcj⟩
      · refine ⟨i0, _, h.lt, hgv i0 hme, ?_⟩
        have := B.cm i0 h.lt hme
        have := (h.inv.gives i0 h.lt (by rw [h.kept]; exact hc) i0 _ h.lt (hgv i0 hme)).c0
        omega
      · exact ⟨j, _, hj, hgv j hgj, hcj⟩
    obtain ⟨g', e1, i1, c1⟩ := h.inv.begin i0 h.lt (fun _ => none) (by rw [h.kept]; exact hc) (by rw [h.kept]; exact ldr_tmod hv0 (by rw [hl, h.me])) j1 hj1 hji _ _ _ _ b1 (hgv i0 hme) (hgv j1 hg1) (hgv _ b2)
      (fun j x hj hx => by obtain ⟨y1, rfl⟩ := hgv' j x hx; exact b3 j hj y1) (bestTo r 3).commit hce (B.cm i0 h.lt hme)
    rw [h.kept] at i1 c1
    refine ⟨g', e1, ?_, by rw [hr']; exact c1⟩
    rw [hr']
    refine ⟨?_, h.lt, h.me, upd_self .., upd_self .., rfl, rfl⟩
    rw [gvOf_forgot, List.append_nil]
    exact i1
  · rw [if_neg hb]
    have e : beginR r = r := by unfold beginR; rw [if_neg hb]
    rw [e]
    exact Next.refl h

/-- What a message that may be tells of itself. -/
structure MsgMay (m : MsgM) : Prop where
  kind : 1 ≤ m.kind ∧ m.kind ≤ 4
  frm : 0 ≤ m.frm ∧ m.frm ≤ 2
  ne : m.frm ≠ m.dst
  view : 0 ≤ m.view ∧ m.view ≤ 1048576
  n : 0 ≤ m.n ∧ m.n ≤ 60
  give : m.kind = 2 ∨ m.kind = 4 → m.dst = m.view.tmod 3
  kept : keptFault (msgKept m) = 0
theorem msgMay_of (m : MsgM) (h : msgFault m = 0) : MsgMay m := by
  unfold msgFault at h
  split at h
  · rename_i hk
    split at h
    · rename_i hr
      split at h
      · rename_i hf
        unfold msgRange at hr
        unfold msgForm isHG at hf
        simp only [Bool.and_eq_true, decide_eq_true_eq, Bool.not_eq_true', Bool.or_eq_false_iff, Bool.and_eq_false_iff, decide_eq_false_iff_not] at hr hf
        refine ⟨hk, ⟨by omega, by omega⟩, by omega, ⟨by omega, by omega⟩, ⟨by omega, by omega⟩, fun hg => ?_, h⟩
        obtain ⟨_, _, _, hf4⟩ := hf
        rcases hf4 with ⟨a, b⟩ | hf4
        · omega
        · exact Classical.not_not.1 hf4
      · omega
    · omega
  · omega

/-- P5.4 to P5.7: what a replica does with a message. -/
theorem hear_next {g : Ghost} {k : Nat → KeptM} {gv : Nat → Nat → Option KeptM} {M : List MsgM} {i0 : Nat} {r : ReplM} (h : At g k gv M i0 r) (m : MsgM) (hm : m ∈ M) (hf : msgFault m = 0) (hd : m.dst = r.me) (hv : ¬ m.view < r.kept.view) : Next g k gv M i0 r (hearR' r m) (hearL' r m) := by
  have may := msgMay_of m hf
  have ok := h.inv.msgs m hm
  have ho := h.inv.one i0 h.lt
  have hne : m.frm ≠ (i0 : Int) := by rw [← h.me, ← hd]; exact may.ne
  unfold hearR' hearL'
  by_cases k1 : m.kind = 1
  · rw [if_pos k1, if_pos k1]
    have post : Next g k gv M i0 r (leadR r m) [] := by
      unfold leadR leadK
      by_cases hc : m.view > r.kept.view ∨ r.kept.calm = false
      · rw [if_pos hc, if_pos hc]
        have hn : (k i0).normal < m.view := by
          have := ho.nv
          rcases hc with hc | hc
          · rw [h.kept] at *; omega
          · have := ho.uncalm (by rw [h.kept]; exact hc); rw [h.kept] at *; omega
        obtain ⟨g', e1, i1, c1⟩ := h.inv.follow i0 h.lt m (fun _ => none) ok k1 (by rw [h.kept]; omega) hn
        rw [h.kept] at i1 c1
        refine ⟨g', e1, ⟨?_, h.lt, h.me, upd_self .., upd_self .., rfl, rfl⟩, c1⟩
        rw [gvOf_forgot, List.append_nil]
        exact i1
      · rw [if_neg hc, if_neg hc]
        have hcalm : r.kept.calm = true := by cases hb : r.kept.calm; exact absurd (Or.inr hb) hc; rfl
        have hview : m.view = r.kept.view := by omega
        by_cases hl : m.log.length > r.kept.log.length
        · rw [if_pos hl]
          obtain ⟨g', e1, i1⟩ := h.inv.longer i0 h.lt m (gvOf r) ok k1 (by rw [h.kept]; exact hview) (by rw [h.kept]; exact hcalm) (by rw [h.kept]; exact hl)
          rw [h.kept] at i1
          refine ⟨g', e1, ⟨?_, h.lt, h.me, upd_self .., upd_self .., h.gl, h.nl⟩, by show r.kept.commit ≤ max r.kept.commit _; omega⟩
          rw [List.append_nil]
          exact i1
        · rw [if_neg hl]
          have i1 := h.inv.shorter i0 h.lt m (gvOf r) ok k1 (by rw [h.kept]; exact hview) (by rw [h.kept]; exact hcalm) (by rw [h.kept]; exact hl)
          rw [h.kept] at i1
          refine ⟨g, Ext.refl g, ⟨?_, h.lt, h.me, upd_self .., upd_self .., h.gl, h.nl⟩, by show r.kept.commit ≤ max r.kept.commit _; omega⟩
          rw [List.append_nil]
          exact i1
    have calm' : (leadR r m).kept.calm = true := by
      unfold leadR leadK
      by_cases hc : m.view > r.kept.view ∨ r.kept.calm = false
      · rw [if_pos hc, if_pos hc]; rfl
      · rw [if_neg hc, if_neg hc]
        have hcalm : r.kept.calm = true := by cases hb : r.kept.calm; exact absurd (Or.inr hb) hc; rfl
        split <;> exact hcalm
    refine post.send fun g' k' gv' a x hx => ?_
    have hx : x = hasMsg (leadR r m) m.frm := by simpa using hx
    subst hx
    exact a.inv.hasMsg i0 a.lt (by rw [a.kept]; exact calm') _ rfl (by show (leadR r m).me = _; exact a.me) (by rw [a.kept]; rfl) (by rw [a.kept]; rfl)
  · rw [if_neg k1, if_neg k1]
    by_cases k2 : m.kind = 2
    · rw [if_pos k2, if_pos k2]
      unfold hasR hasL
      by_cases hc : m.view = r.kept.view ∧ leads r = true
      · rw [if_pos hc, if_pos hc]
        have l := leads_of h hc.2
        have i1 := h.inv.has i0 h.lt m (gvOf r) ok k2 may.n.1 (by rw [h.kept]; exact hc.1) l.1 l.2 hne
        rw [h.kept] at i1
        have post : Next g k gv M i0 r ⟨r.me, ⟨r.kept.view, r.kept.normal, r.kept.calm, r.kept.log, max r.kept.commit (min m.n r.kept.log.length)⟩, r.hav.set m.frm.toNat (max (r.hav.getD m.frm.toNat 0) (min m.n r.kept.log.length)), r.wants, r.gives, r.given⟩ [] := by
          refine ⟨g, Ext.refl g, ⟨?_, h.lt, h.me, upd_self .., upd_self .., h.gl, h.nl⟩, by show r.kept.commit ≤ max r.kept.commit _; omega⟩
          rw [List.append_nil]
          exact i1
        refine post.send fun g' k' gv' a x hx => ?_
        split at hx
        · rw [show hasR r m = ⟨r.me, ⟨r.kept.view, r.kept.normal, r.kept.calm, r.kept.log, max r.kept.commit (min m.n r.kept.log.length)⟩, r.hav.set m.frm.toNat (max (r.hav.getD m.frm.toNat 0) (min m.n r.kept.log.length)), r.wants, r.gives, r.given⟩ from by unfold hasR; rw [if_pos hc]] at hx
          exact ledBy_ok a hc.2 x hx
        · simp at hx
      · rw [if_neg hc, if_neg hc]
        exact Next.refl h
    · rw [if_neg k2, if_neg k2]
      by_cases k3 : m.kind = 3
      · rw [if_pos k3, if_pos k3]
        refine (wish_next h m).seq fun g' k' gv' a => ?_
        generalize wishR r m = r1 at a
        unfold wantedR wantedL
        by_cases hc : r1.kept.calm = true ∨ r1.wants.getD m.frm.toNat false = true
        · rw [if_pos hc, if_pos hc]; exact Next.refl a
        · rw [if_neg hc, if_neg hc]
          have hcalm : r1.kept.calm = false := by cases hb : r1.kept.calm; rfl; exact absurd (Or.inl hb) hc
          have a1 : At g' k' gv' (M ++ wishL r m) i0 ⟨r1.me, r1.kept, r1.hav, r1.wants.set m.frm.toNat true, r1.gives, r1.given⟩ := ⟨a.inv, a.lt, a.me, a.kept, a.gv, a.gl, a.nl⟩
          by_cases hl : r1.kept.view.tmod 3 = r1.me
          · simp only [if_pos hl]
            have q := (own_next a1 hcalm).seq fun g2 k2 gv2 a2 => begin_next a2 hcalm hl
            rw [List.nil_append] at q
            exact q
          · simp only [if_neg hl]
            refine Next.send (Next.refl a1) fun g2 k2 gv2 a2 x hx => ?_
            have hx : x = ⟨4, r1.me, r1.kept.view.tmod 3, r1.kept.view, r1.kept.normal, r1.kept.commit, 0, r1.kept.log⟩ := by simpa using hx
            subst hx
            refine ⟨fun e => by simp at e, fun e => by simp at e, fun _ => ⟨i0, a2.lt, a2.me, ?_⟩⟩
            have := a2.inv.ownGive i0 a2.lt (by rw [a2.kept]; exact hcalm) (msgKept ⟨4, r1.me, r1.kept.view.tmod 3, r1.kept.view, r1.kept.normal, r1.kept.commit, 0, r1.kept.log⟩) (by rw [a2.kept]; rfl) (by rw [a2.kept]; rfl) (by rw [a2.kept]; rfl)
            rw [a2.kept] at this
            exact this
      · rw [if_neg k3, if_neg k3]
        have k4 : m.kind = 4 := by have := may.kind; omega
        have hwv : (wishR r m).kept.view = m.view := by
          unfold wishR wishes
          by_cases hlt : r.kept.view < m.view
          · rw [if_pos (by simp [k4, hlt])]; rfl
          · rw [if_neg (by simp [hlt])]; omega
        have hwm : (wishR r m).me = r.me := by unfold wishR; split <;> rfl
        refine (wish_next h m).seq fun g' k' gv' a => ?_
        generalize wishR r m = r1 at a hwv hwm
        unfold giveR giveL
        by_cases hc : r1.kept.calm = true
        · rw [if_pos hc, if_pos hc]; exact Next.refl a
        · rw [if_neg hc, if_neg hc]
          have hcalm : r1.kept.calm = false := by simpa using hc
          have hl : r1.kept.view.tmod 3 = r1.me := by rw [hwv, hwm, ← hd]; exact (may.give (Or.inr k4)).symm
          have hm1 : m ∈ M ++ wishL r m := List.mem_append_left _ hm
          obtain ⟨i, hi, hfi, _⟩ := (h.inv.msgs m hm).give k4
          have efrm : m.frm.toNat = i := by rw [hfi]; omega
          have stp : ∀ (r2 : ReplM) g2 k2 gv2, At g2 k2 gv2 (M ++ wishL r m) i0 r2 → r2.kept = r1.kept → r2.me = r1.me → Next g2 k2 gv2 (M ++ wishL r m) i0 r2 (beginR (withGive r2 m.frm.toNat (msgKept m))) (beginL (withGive r2 m.frm.toNat (msgKept m))) := by
            intro r2 g2 k2 gv2 a2 e2 em
            obtain ⟨i', hi', hfi', hgo⟩ := (a2.inv.msgs m hm1).give k4
            have : i' = i := by omega
            subst this
            rw [efrm]
            have q := (gave_next a2 i' hi' (msgKept m) (fun _ => by rw [e2, hwv]; exact hgo) (fun e => by subst e; exact absurd hfi hne)).seq fun g3 k3 gv3 a3 => by
              have : (withGive r2 i' (msgKept m)).kept = r1.kept := e2
              exact begin_next a3 (by rw [this]; exact hcalm) (by rw [this]; show _ = r2.me; rw [em]; exact hl)
            rw [List.nil_append] at q
            exact q
          unfold gaveR
          by_cases hg : r1.given.getD r1.me.toNat false = true
          · rw [if_pos hg]
            exact stp r1 _ _ _ a rfl rfl
          · rw [if_neg hg]
            have q := (own_next a hcalm).seq fun g2 k2 gv2 a2 => by
              rw [List.append_nil] at a2 ⊢
              exact stp _ _ _ _ a2 rfl rfl
            rw [List.nil_append] at q
            exact q

/-- P5.8 -/
theorem takeR_next {g : Ghost} {k : Nat → KeptM} {gv : Nat → Nat → Option KeptM} {M : List MsgM} {i0 : Nat} {r : ReplM} (h : At g k gv M i0 r) (s : List UInt8) (hl : leads r = true) : Next g k gv M i0 r (takeR' r s) (ledBy (takeR' r s)) := by
  have l := leads_of h hl
  obtain ⟨g', e1, i1⟩ := h.inv.take i0 h.lt s (gvOf r) l.1 l.2
  rw [h.kept] at i1
  have post : Next g k gv M i0 r (takeR' r s) [] := by
    refine ⟨g', e1, ⟨?_, h.lt, h.me, upd_self .., upd_self .., h.gl, h.nl⟩, Int.le_refl _⟩
    rw [List.append_nil]
    exact i1
  exact post.send fun g' k' gv' a => ledBy_ok a hl
/-- P5.9 -/
theorem tick_next {g : Ghost} {k : Nat → KeptM} {gv : Nat → Nat → Option KeptM} {M : List MsgM} {i0 : Nat} {r : ReplM} (h : At g k gv M i0 r) : Next g k gv M i0 r (tickR' r) (tickL' r) := by
  have post : Next g k gv M i0 r (tickR' r) [] := by
    unfold tickR'
    split
    · exact Next.refl h
    · exact Next.refl (r := ⟨r.me, r.kept, r.hav, r.wants.set r.me.toNat true, r.gives, r.given⟩) ⟨h.inv, h.lt, h.me, h.kept, h.gv, h.gl, h.nl⟩
  refine post.send fun g' k' gv' a x hx => ?_
  unfold tickL' at hx
  split at hx
  · rename_i hl
    have hc : r.kept.calm = true := by unfold leads at hl; simp at hl; exact hl.1
    have e : tickR' r = r := by unfold tickR'; rw [if_pos hc]
    rw [e] at a
    exact ledBy_ok a hl x hx
  · split at hx
    · rename_i hc
      have e : tickR' r = r := by unfold tickR'; rw [if_pos hc]
      rw [e] at a
      have hx : x = hasMsg r (r.kept.view.tmod 3) := by simpa using hx
      subst hx
      exact a.inv.hasMsg i0 a.lt (by rw [a.kept]; exact hc) _ rfl a.me (by rw [a.kept]; rfl) (by rw [a.kept]; rfl)
    · exact wantMsg x (mem_toAll hx).1
theorem alarm_next {g : Ghost} {k : Nat → KeptM} {gv : Nat → Nat → Option KeptM} {M : List MsgM} {i0 : Nat} {r : ReplM} (h : At g k gv M i0 r) : Next g k gv M i0 r (wantR r (r.kept.view + 1)) (wantL r (r.kept.view + 1)) := want_next h _ (by omega)

end Go.Proofs.YtmdgkjbiicaljagDoor
