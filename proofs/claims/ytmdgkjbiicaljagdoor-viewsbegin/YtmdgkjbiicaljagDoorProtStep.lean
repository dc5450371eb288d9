/- The plain mathematics of the protocol, step by step. -/
import Derived.Test.YtmdgkjbiicaljagDoorProtMath
namespace Go.Proofs.YtmdgkjbiicaljagDoor
set_option linter.unusedVariables false

def Ghost.put (g : Ghost) (i0 : Nat) (v0 : Int) (c st : List Ent) (n : Nat) : Ghost where
  cur := fun v => if v = v0 then c else g.cur v
  start := fun v => if v = v0 then st else g.start v
  was := fun i v => if i = i0 ∧ v = v0 then true else g.was i v
  vouch := fun i v => if i = i0 ∧ v = v0 then n else g.vouch i v

section
variable (g : Ghost) (i0 : Nat) (v0 : Int) (c st : List Ent) (n : Nat)
theorem put_cur_self : (g.put i0 v0 c st n).cur v0 = c := if_pos rfl
theorem put_cur_ne {v : Int} (h : v ≠ v0) : (g.put i0 v0 c st n).cur v = g.cur v := if_neg h
theorem put_start_self : (g.put i0 v0 c st n).start v0 = st := if_pos rfl
theorem put_start_ne {v : Int} (h : v ≠ v0) : (g.put i0 v0 c st n).start v = g.start v := if_neg h
theorem put_was_self : (g.put i0 v0 c st n).was i0 v0 = true := if_pos ⟨rfl, rfl⟩
theorem put_was_ne {i : Nat} {v : Int} (h : ¬ (i = i0 ∧ v = v0)) : (g.put i0 v0 c st n).was i v = g.was i v := if_neg h
theorem put_vouch_self : (g.put i0 v0 c st n).vouch i0 v0 = n := if_pos ⟨rfl, rfl⟩
theorem put_vouch_ne {i : Nat} {v : Int} (h : ¬ (i = i0 ∧ v = v0)) : (g.put i0 v0 c st n).vouch i v = g.vouch i v := if_neg h
end

theorem put_ext {g : Ghost} {i0 : Nat} {v0 : Int} {c st : List Ent} {n : Nat} (h1 : g.cur v0 <+: c) (h2 : g.was i0 v0 = true → g.vouch i0 v0 ≤ n) (h3 : g.was (ldr v0) v0 = true → st = g.start v0) : Ext g (g.put i0 v0 c st n) := by
  refine ⟨fun i v h => ?_, fun v => ?_, fun i v h => ?_, fun v h => ?_⟩
  · by_cases e : i = i0 ∧ v = v0
    · obtain ⟨rfl, rfl⟩ := e; exact put_was_self ..
    · rw [put_was_ne _ _ _ _ _ _ e]; exact h
  · by_cases e : v = v0
    · subst e; rw [put_cur_self]; exact h1
    · rw [put_cur_ne _ _ _ _ _ _ e]; exact List.prefix_rfl
  · by_cases e : i = i0 ∧ v = v0
    · obtain ⟨rfl, rfl⟩ := e; rw [put_vouch_self]; exact h2 h
    · rw [put_vouch_ne _ _ _ _ _ _ e]; exact Nat.le_refl _
  · by_cases e : v = v0
    · subst e; rw [put_start_self]; exact h3 h
    · exact put_start_ne _ _ _ _ _ _ e

/-- A replica is in order in a view, with so much of its log. -/
theorem Inv.put {g : Ghost} {k : Nat → KeptM} {gv : Nat → Nat → Option KeptM} {M : List MsgM} (hI : Inv g k gv M) (i0 : Nat) (h0 : i0 < 3) (v0 : Int) (c st : List Ent) (n : Nat) (commit : Int) (log : List Ent)
    (hp : 0 ≤ v0) (hv : (k i0).view ≤ v0) (hcur : g.cur v0 <+: c) (hw : g.was i0 v0 = true → g.vouch i0 v0 ≤ n) (hst : g.was (ldr v0) v0 = true → st = g.start v0) (hpre : st <+: c)
    (hn : st.length ≤ n) (hn' : n ≤ c.length) (hl : ldr v0 = i0 → n = c.length) (hf : ldr v0 ≠ i0 → g.was (ldr v0) v0 = true ∧ c = g.cur v0)
    (hlog : log = c.take n) (c0 : 0 ≤ commit) (c1 : commit ≤ log.length) (hcat : Cat (g.put i0 v0 c st n) v0 (log.take commit.toNat))
    (hnew : g.was (ldr v0) v0 = false → (∀ i j, i < 3 → j < 3 → i ≠ j → v0 ≤ (upd k i0 ⟨v0, v0, true, log, commit⟩ i).view ∨ v0 ≤ (upd k i0 ⟨v0, v0, true, log, commit⟩ j).view) ∧
      ∀ v, v < v0 → ∀ i j, i < 3 → j < 3 → i ≠ j → (g.cur v).take (min (pot (g.put i0 v0 c st n) (upd k i0 ⟨v0, v0, true, log, commit⟩) i v) (pot (g.put i0 v0 c st n) (upd k i0 ⟨v0, v0, true, log, commit⟩) j v)) <+: st)
    (G' : Nat → Option KeptM) :
    Ext g (g.put i0 v0 c st n) ∧ Inv (g.put i0 v0 c st n) (upd k i0 ⟨v0, v0, true, log, commit⟩) (upd gv i0 G') M := by
  have hext := put_ext (i0 := i0) (c := c) (st := st) (n := n) hcur hw hst
  have hgh := hI.gh
  have hone := hI.one i0 h0
  have hled : (g.put i0 v0 c st n).was (ldr v0) v0 = true := by
    by_cases e : ldr v0 = i0
    · rw [e]; exact put_was_self ..
    · rw [put_was_ne _ _ _ _ _ _ (fun h => e h.1)]; exact (hf e).1
  refine ⟨hext, hI.step i0 h0 _ G' ⟨hext, fun j hj => ?_, fun j u hj hu => ?_⟩ ⟨fun i hi => hext.was _ _ (hgh.zero i hi), fun i v hi h => ?_, fun v => ?_, fun v h => ?_, fun v h => ?_⟩ ⟨hp, Int.le_refl _, fun _ => rfl, fun h => (by cases h), put_was_self .., ?_, c0, c1, hcat, fun v h => ?_⟩ (fun j hj hji => ⟨put_vouch_ne _ _ _ _ _ _ (fun h => hji h.1), fun v => put_was_ne _ _ _ _ _ _ (fun h => hji h.1)⟩) (fun w h1 h2 => ?_) (fun h => (by cases h)) (fun h => (by cases h))⟩
  · by_cases e : j = i0
    · subst e; rw [upd_self]; exact hv
    · rw [upd_ne _ _ _ e]; exact Int.le_refl _
  · have ne : ¬ (j = i0 ∧ u = v0) := fun h => by obtain ⟨rfl, rfl⟩ := h; omega
    exact ⟨put_was_ne _ _ _ _ _ _ ne, put_vouch_ne _ _ _ _ _ _ ne⟩
  · by_cases e : v = v0
    · subst e
      rw [put_start_self, put_cur_self]
      refine ⟨hp, ?_⟩
      by_cases e2 : i = i0
      · subst e2
        rw [put_vouch_self]
        exact ⟨hn, hn', hled⟩
      · rw [put_was_ne _ _ _ _ _ _ (fun h => e2 h.1)] at h
        rw [put_vouch_ne _ _ _ _ _ _ (fun h => e2 h.1)]
        obtain ⟨_, l2, l3, l4⟩ := hgh.low i v hi h
        rw [hst l4]
        exact ⟨l2, Nat.le_trans l3 hcur.length_le, hled⟩
    · have ne : ∀ a, ¬ (a = i0 ∧ v = v0) := fun a h => e h.2
      rw [put_was_ne _ _ _ _ _ _ (ne i)] at h
      rw [put_start_ne _ _ _ _ _ _ e, put_cur_ne _ _ _ _ _ _ e, put_vouch_ne _ _ _ _ _ _ (ne i), put_was_ne _ _ _ _ _ _ (ne _)]
      exact hgh.low i v hi h
  · by_cases e : v = v0
    · subst e; rw [put_start_self, put_cur_self]; exact hpre
    · rw [put_start_ne _ _ _ _ _ _ e, put_cur_ne _ _ _ _ _ _ e]; exact hgh.pre v
  · by_cases e : v = v0
    · subst e
      rw [put_cur_self]
      by_cases e2 : ldr v = i0
      · rw [e2, put_vouch_self]; exact hl e2
      · rw [put_vouch_ne _ _ _ _ _ _ (fun h => e2 h.1), (hf e2).2]
        exact hgh.lead v (hf e2).1
    · rw [put_was_ne _ _ _ _ _ _ (fun h => e h.2)] at h
      rw [put_cur_ne _ _ _ _ _ _ e, put_vouch_ne _ _ _ _ _ _ (fun h => e h.2)]
      exact hgh.lead v h
  · by_cases e : v = v0
    · subst e; rw [hled] at h; cases h
    · rw [put_was_ne _ _ _ _ _ _ (fun h => e h.2)] at h
      rw [put_cur_ne _ _ _ _ _ _ e]
      exact hgh.none v h
  · show log = _
    rw [put_cur_self, put_vouch_self]
    exact hlog
  · show v ≤ v0
    by_cases e : v = v0
    · omega
    · rw [put_was_ne _ _ _ _ _ _ (fun h => e h.2)] at h
      have := hone.top v h
      have := hone.nv
      omega
  · by_cases e : w = v0
    · subst e
      obtain ⟨a, b⟩ := hnew h2
      refine ⟨a, fun v hv i j hi hj hij => ?_⟩
      rw [put_cur_ne _ _ _ _ _ _ (by omega), put_start_self]
      exact b v hv i j hi hj hij
    · rw [put_was_ne _ _ _ _ _ _ (fun h => e h.2)] at h1
      rw [h1] at h2; cases h2

/-- P5.5: to want a view. -/
theorem Inv.want {g : Ghost} {k : Nat → KeptM} {gv : Nat → Nat → Option KeptM} {M : List MsgM} (hI : Inv g k gv M) (i0 : Nat) (h0 : i0 < 3) (v' : Int) (hv : (k i0).view < v') :
    Inv g (upd k i0 ⟨v', (k i0).normal, false, (k i0).log, (k i0).commit⟩) (upd gv i0 fun _ => none) M := by
  have o := hI.one i0 h0
  have nv := o.nv
  exact hI.stay i0 h0 _ _ (by show _ ≤ v'; omega) ⟨o.n0, by show (k i0).normal ≤ v'; omega, fun h => (by cases h), fun _ => (by show (k i0).normal < v'; omega), o.was, o.log, o.c0, o.c1, o.cat, o.top⟩ (fun _ j x _ h => (by cases h)) (fun _ x h => (by cases h))

/-- It forgets what was given. -/
theorem Inv.forget {g : Ghost} {k : Nat → KeptM} {gv : Nat → Nat → Option KeptM} {M : List MsgM} (hI : Inv g k gv M) (i0 : Nat) (h0 : i0 < 3) : Inv g k (upd gv i0 fun _ => none) M := by
  have h := hI.stay i0 h0 (k i0) (fun _ => none) (Int.le_refl _) (hI.one i0 h0) (fun _ j x _ h => (by cases h)) (fun _ x h => (by cases h))
  have e : upd k i0 (k i0) = k := by funext j; unfold upd; split <;> simp_all
  rw [e] at h
  exact h

/-- Something is given. -/
theorem Inv.gave {g : Ghost} {k : Nat → KeptM} {gv : Nat → Nat → Option KeptM} {M : List MsgM} (hI : Inv g k gv M) (i0 : Nat) (h0 : i0 < 3) (j0 : Nat) (hj : j0 < 3) (x : KeptM)
    (h : (k i0).calm = false → GiveOk g k j0 (k i0).view x) (hown : j0 = i0 → x.commit = (k i0).commit) : Inv g k (upd gv i0 (upd (gv i0) j0 (some x))) M := by
  have e : upd k i0 (k i0) = k := by funext j; unfold upd; split <;> simp_all
  have := hI.stay i0 h0 (k i0) (upd (gv i0) j0 (some x)) (Int.le_refl _) (hI.one i0 h0) (fun hc j y hjj hy => by
    rw [e]
    by_cases ej : j = j0
    · subst ej; rw [upd_self] at hy; injection hy with hy; subst hy; exact h hc
    · rw [upd_ne _ _ _ ej] at hy; exact hI.gives i0 h0 hc j y hjj hy) (fun hc y hy => by
    by_cases ej : i0 = j0
    · rw [ej, upd_self] at hy; injection hy with hy; subst hy; exact hown ej.symm
    · rw [upd_ne _ _ _ ej] at hy; exact hI.own i0 h0 hc y hy)
  rw [e] at this
  exact this

/-- What a replica that is not in order keeps may be given. -/
theorem Inv.ownGive {g : Ghost} {k : Nat → KeptM} {gv : Nat → Nat → Option KeptM} {M : List MsgM} (hI : Inv g k gv M) (i0 : Nat) (h0 : i0 < 3) (hc : (k i0).calm = false) (x : KeptM) (hn : x.normal = (k i0).normal) (hl : x.log = (k i0).log) (hcm : x.commit = (k i0).commit) : GiveOk g k i0 (k i0).view x := by
  have o := hI.one i0 h0
  refine ⟨Int.le_refl _, by rw [hn]; exact o.uncalm hc, by rw [hn]; exact o.was, fun u h1 h2 => ?_, by rw [hl, hn]; exact o.log, by rw [hcm]; exact o.c0, by rw [hcm, hl]; exact o.c1, by rw [hcm, hl, hn]; exact o.cat⟩
  cases hb : g.was i0 u
  · rfl
  · have := o.top u hb; omega

/-- A greater commit. -/
theorem Inv.commit {g : Ghost} {k : Nat → KeptM} {gv : Nat → Nat → Option KeptM} {M : List MsgM} (hI : Inv g k gv M) (i0 : Nat) (h0 : i0 < 3) (n : Int) (G' : Nat → Option KeptM) (hc : (k i0).calm = true) (n0 : 0 ≤ n) (n1 : n ≤ (k i0).log.length) (hcat : Cat g (k i0).normal ((k i0).log.take n.toNat)) :
    Inv g (upd k i0 ⟨(k i0).view, (k i0).normal, (k i0).calm, (k i0).log, max (k i0).commit n⟩) (upd gv i0 G') M := by
  have o := hI.one i0 h0
  refine hI.stay i0 h0 _ _ (Int.le_refl _) ⟨o.n0, o.nv, o.calm, o.uncalm, o.was, o.log, ?_, ?_, ?_, o.top⟩ (fun h => by rw [hc] at h; cases h) (fun h => by rw [hc] at h; cases h)
  · show 0 ≤ max (k i0).commit n
    omega
  · show max (k i0).commit n ≤ (k i0).log.length
    have := o.c1
    omega
  · show Cat g (k i0).normal ((k i0).log.take (max (k i0).commit n).toNat)
    rcases Int.le_total (k i0).commit n with h | h
    · rw [Int.max_eq_right h]; exact hcat
    · rw [Int.max_eq_left h]; exact o.cat

/-- P5.6: a Has. -/
theorem Inv.has {g : Ghost} {k : Nat → KeptM} {gv : Nat → Nat → Option KeptM} {M : List MsgM} (hI : Inv g k gv M) (i0 : Nat) (h0 : i0 < 3) (m : MsgM) (G' : Nat → Option KeptM) (hm : MsgOk g k m) (hk : m.kind = 2) (hn : 0 ≤ m.n) (hv : m.view = (k i0).view) (hc : (k i0).calm = true) (hl : ldr (k i0).view = i0) (hf : m.frm ≠ (i0 : Int)) :
    Inv g (upd k i0 ⟨(k i0).view, (k i0).normal, (k i0).calm, (k i0).log, max (k i0).commit (min m.n (k i0).log.length)⟩) (upd gv i0 G') M := by
  obtain ⟨i, hi, hfi, hw, hle⟩ := hm.has hk
  have o := hI.one i0 h0
  have hnv := o.calm hc
  refine hI.commit i0 h0 _ G' hc (by omega) (by omega) ⟨(k i0).normal, Int.le_refl _, i, i0, hi, h0, fun e => hf (by rw [hfi, e]), ?_, o.was, ?_⟩
  · rw [hnv, ← hv]; exact hw
  · rw [hv, ← hnv] at hle
    have hlen : (k i0).log.length = (g.cur (k i0).normal).length := by
      have e := hI.gh.lead (k i0).normal (by rw [hnv, hl, ← hnv]; exact o.was)
      rw [hnv, hl, ← hnv] at e
      rw [o.log, e, List.take_length]
    have hlog : (k i0).log = (g.cur (k i0).normal).take (g.vouch i0 (k i0).normal) := o.log
    have hvl : g.vouch i0 (k i0).normal = (g.cur (k i0).normal).length := by
      have e := hI.gh.lead (k i0).normal (by rw [hnv, hl, ← hnv]; exact o.was)
      rw [hnv, hl, ← hnv] at e
      exact e
    rw [hlog, List.take_take]
    apply take_prefix_of_le
    rw [← hlog]
    omega

/-- What who leads tells may be told. -/
theorem Inv.leadMsg {g : Ghost} {k : Nat → KeptM} {gv : Nat → Nat → Option KeptM} {M : List MsgM} (hI : Inv g k gv M) (i0 : Nat) (h0 : i0 < 3) (hc : (k i0).calm = true) (hl : ldr (k i0).view = i0) (m : MsgM) (hk : m.kind = 1) (hv : m.view = (k i0).view) (hlog : m.log = (k i0).log) (hcm : m.commit = (k i0).commit) : MsgOk g k m := by
  have o := hI.one i0 h0
  have hnv := o.calm hc
  have hw : g.was (ldr (k i0).view) (k i0).view = true := by rw [hl, ← hnv]; exact o.was
  refine ⟨fun _ => ⟨by rw [hv]; exact hw, ?_, ?_, by rw [hcm]; exact o.c0, by rw [hcm, hlog]; exact o.c1, by rw [hcm, hlog, hv, ← hnv]; exact o.cat⟩, fun e => by omega, fun e => by omega⟩
  · rw [hlog, hv, o.log, hnv]; exact List.take_prefix _ _
  · have l := hI.gh.low i0 _ h0 o.was
    rw [hlog, hv, o.log, List.length_take, ← hnv]
    omega
theorem Inv.hasMsg {g : Ghost} {k : Nat → KeptM} {gv : Nat → Nat → Option KeptM} {M : List MsgM} (hI : Inv g k gv M) (i0 : Nat) (h0 : i0 < 3) (hc : (k i0).calm = true) (m : MsgM) (hk : m.kind = 2) (hf : m.frm = (i0 : Int)) (hv : m.view = (k i0).view) (hn : m.n = (k i0).log.length) : MsgOk g k m := by
  have o := hI.one i0 h0
  have hnv := o.calm hc
  refine ⟨fun e => by omega, fun _ => ⟨i0, h0, hf, by rw [hv, ← hnv]; exact o.was, ?_⟩, fun e => by omega⟩
  rw [hn, hv, o.log, List.length_take, hnv]
  omega
theorem wantMsg {g : Ghost} {k : Nat → KeptM} (m : MsgM) (hk : m.kind = 3) : MsgOk g k m := ⟨fun e => by omega, fun e => by omega, fun e => by omega⟩

/-- P5.4: a Lead of a view that is new to it. -/
theorem Inv.follow {g : Ghost} {k : Nat → KeptM} {gv : Nat → Nat → Option KeptM} {M : List MsgM} (hI : Inv g k gv M) (i0 : Nat) (h0 : i0 < 3) (m : MsgM) (G' : Nat → Option KeptM) (hm : MsgOk g k m) (hk : m.kind = 1) (hv : (k i0).view ≤ m.view) (hn : (k i0).normal < m.view) :
    ∃ g', Ext g g' ∧ Inv g' (upd k i0 ⟨m.view, m.view, true, m.log, max (min (k i0).commit m.log.length) (min m.commit m.log.length)⟩) (upd gv i0 G') M ∧ (k i0).commit ≤ max (min (k i0).commit m.log.length) (min m.commit m.log.length) := by
  have L := hm.lead hk
  have o := hI.one i0 h0
  have hnw : g.was i0 m.view = false := by
    cases hb : g.was i0 m.view
    · rfl
    · have := o.top _ hb; omega
  have hne : ldr m.view ≠ i0 := fun e => by have := L.was; rw [e, hnw] at this; cases this
  have hlow := hI.gh.low _ _ (ldr_lt m.view) L.was
  have hpre : g.start m.view <+: m.log := List.prefix_of_prefix_length_le (hI.gh.pre _) L.pre L.start
  have hp := (hI.start_of o.cat hn L.was).trans hpre
  have hpl : ((k i0).log.take (k i0).commit.toNat).length = (k i0).commit.toNat := by rw [List.length_take]; have := o.c0; have := o.c1; omega
  have hle : (k i0).commit.toNat ≤ m.log.length := by rw [← hpl]; exact hp.length_le
  have c0 := o.c0
  have d0 := L.c0
  have d1 := L.c1
  have e1 : min (k i0).commit m.log.length = (k i0).commit := by omega
  have e2 : min m.commit m.log.length = m.commit := by omega
  rw [e1, e2]
  have hext := put_ext (g := g) (i0 := i0) (v0 := m.view) (c := g.cur m.view) (st := g.start m.view) (n := m.log.length) List.prefix_rfl (fun h => by rw [hnw] at h; cases h) (fun _ => rfl)
  have hcat : Cat (g.put i0 m.view (g.cur m.view) (g.start m.view) m.log.length) m.view (m.log.take (max (k i0).commit m.commit).toNat) := by
    rcases Int.le_total (k i0).commit m.commit with h | h
    · rw [Int.max_eq_right h]; exact cat_ext hI.gh hext L.cat
    · rw [Int.max_eq_left h]
      have : m.log.take (k i0).commit.toNat = (k i0).log.take (k i0).commit.toNat := by
        have := take_len_of_prefix hp
        rw [hpl] at this
        exact this
      rw [this]
      exact (cat_ext hI.gh hext o.cat).mono (by omega)
  obtain ⟨a, b⟩ := hI.put i0 h0 m.view (g.cur m.view) (g.start m.view) m.log.length (max (k i0).commit m.commit) m.log hlow.1 hv List.prefix_rfl (fun h => by rw [hnw] at h; cases h) (fun _ => rfl) (hI.gh.pre _) L.start L.pre.length_le (fun e => absurd e hne) (fun _ => ⟨L.was, rfl⟩)
    (take_len_of_prefix L.pre).symm (by omega) (by omega) hcat (fun h => by rw [L.was] at h; cases h) G'
  exact ⟨_, a, b, by omega⟩

/-- P5.4: a Lead of its own view. -/
theorem Inv.longer {g : Ghost} {k : Nat → KeptM} {gv : Nat → Nat → Option KeptM} {M : List MsgM} (hI : Inv g k gv M) (i0 : Nat) (h0 : i0 < 3) (m : MsgM) (G' : Nat → Option KeptM) (hm : MsgOk g k m) (hk : m.kind = 1) (hv : m.view = (k i0).view) (hc : (k i0).calm = true) (hl : (k i0).log.length < m.log.length) :
    ∃ g', Ext g g' ∧ Inv g' (upd k i0 ⟨(k i0).view, (k i0).normal, (k i0).calm, m.log, max (k i0).commit (min m.commit m.log.length)⟩) (upd gv i0 G') M := by
  have L := hm.lead hk
  have o := hI.one i0 h0
  have hnv := o.calm hc
  have hw0 : g.was i0 m.view = true := by rw [hv, ← hnv]; exact o.was
  have hlow := hI.gh.low _ _ h0 hw0
  have hlog : (k i0).log = (g.cur m.view).take (g.vouch i0 m.view) := by rw [hv, ← hnv]; exact o.log
  have hlen : (k i0).log.length = g.vouch i0 m.view := by rw [hlog, List.length_take]; omega
  have hLle := L.pre.length_le
  have hne : ldr m.view ≠ i0 := fun e => by
    have := hI.gh.lead m.view L.was
    rw [e] at this
    omega
  have d0 := L.c0
  have d1 := L.c1
  have c0 := o.c0
  have c1 := o.c1
  have e2 : min m.commit m.log.length = m.commit := by omega
  rw [e2]
  have hpp : (k i0).log <+: m.log := List.prefix_of_prefix_length_le (by rw [hlog]; exact List.take_prefix _ _) L.pre (by omega)
  have hext := put_ext (g := g) (i0 := i0) (v0 := m.view) (c := g.cur m.view) (st := g.start m.view) (n := m.log.length) List.prefix_rfl (fun h => by omega) (fun _ => rfl)
  have hcat : Cat (g.put i0 m.view (g.cur m.view) (g.start m.view) m.log.length) m.view (m.log.take (max (k i0).commit m.commit).toNat) := by
    rcases Int.le_total (k i0).commit m.commit with h | h
    · rw [Int.max_eq_right h]; exact cat_ext hI.gh hext L.cat
    · rw [Int.max_eq_left h, take_of_prefix hpp (by omega)]
      exact (cat_ext hI.gh hext o.cat).mono (by omega)
  obtain ⟨a, b⟩ := hI.put i0 h0 m.view (g.cur m.view) (g.start m.view) m.log.length (max (k i0).commit m.commit) m.log hlow.1 (by omega) List.prefix_rfl (fun h => by omega) (fun _ => rfl) (hI.gh.pre _) L.start L.pre.length_le (fun e => absurd e hne) (fun _ => ⟨L.was, rfl⟩)
    (take_len_of_prefix L.pre).symm (by omega) (by omega) hcat (fun h => by rw [L.was] at h; cases h) G'
  refine ⟨_, a, ?_⟩
  rw [hnv, hc, ← hv]
  exact b
theorem Inv.shorter {g : Ghost} {k : Nat → KeptM} {gv : Nat → Nat → Option KeptM} {M : List MsgM} (hI : Inv g k gv M) (i0 : Nat) (h0 : i0 < 3) (m : MsgM) (G' : Nat → Option KeptM) (hm : MsgOk g k m) (hk : m.kind = 1) (hv : m.view = (k i0).view) (hc : (k i0).calm = true) (hl : ¬ (k i0).log.length < m.log.length) :
    Inv g (upd k i0 ⟨(k i0).view, (k i0).normal, (k i0).calm, (k i0).log, max (k i0).commit (min m.commit (k i0).log.length)⟩) (upd gv i0 G') M := by
  have L := hm.lead hk
  have o := hI.one i0 h0
  have hnv := o.calm hc
  have d0 := L.c0
  have d1 := L.c1
  have hpp : m.log <+: (k i0).log := List.prefix_of_prefix_length_le L.pre (by rw [o.log, hnv, hv]; exact List.take_prefix _ _) (by omega)
  refine hI.commit i0 h0 _ G' hc (by omega) (by omega) ?_
  rw [show min m.commit ((k i0).log.length : Int) = m.commit from by omega, take_of_prefix hpp (by omega), hnv, ← hv]
  exact L.cat

/-- P5.8: an entry more. -/
theorem Inv.take {g : Ghost} {k : Nat → KeptM} {gv : Nat → Nat → Option KeptM} {M : List MsgM} (hI : Inv g k gv M) (i0 : Nat) (h0 : i0 < 3) (s : Ent) (G' : Nat → Option KeptM) (hc : (k i0).calm = true) (hl : ldr (k i0).view = i0) :
    ∃ g', Ext g g' ∧ Inv g' (upd k i0 ⟨(k i0).view, (k i0).normal, (k i0).calm, (k i0).log ++ [s], (k i0).commit⟩) (upd gv i0 G') M := by
  have o := hI.one i0 h0
  have hnv := o.calm hc
  have n0 := o.n0
  have hw0 : g.was i0 (k i0).view = true := by rw [← hnv]; exact o.was
  have hb : g.was (ldr (k i0).view) (k i0).view = true := by rw [hl]; exact hw0
  have hld := hI.gh.lead _ hb
  rw [hl] at hld
  have hlow := hI.gh.low _ _ h0 hw0
  have hlog : (k i0).log = g.cur (k i0).view := by rw [o.log, hnv, hld, List.take_length]
  have c0 := o.c0
  have c1 := o.c1
  have hext := put_ext (g := g) (i0 := i0) (v0 := (k i0).view) (c := g.cur (k i0).view ++ [s]) (st := g.start (k i0).view) (n := (g.cur (k i0).view ++ [s]).length) (List.prefix_append _ _) (fun h => by simp; omega) (fun _ => rfl)
  obtain ⟨a, b⟩ := hI.put i0 h0 (k i0).view (g.cur (k i0).view ++ [s]) (g.start (k i0).view) (g.cur (k i0).view ++ [s]).length (k i0).commit ((k i0).log ++ [s]) hlow.1 (Int.le_refl _) (List.prefix_append _ _) (fun h => by simp; omega) (fun _ => rfl) ((hI.gh.pre _).trans (List.prefix_append _ _)) (by simp; omega) (Nat.le_refl _) (fun _ => rfl) (fun e => absurd hl e)
    (by rw [hlog, List.take_length]) c0 (by simp; omega) (by
      rw [List.take_append_of_le_length (by omega)]
      exact (cat_ext hI.gh hext o.cat).mono (by omega)) (fun h => by rw [hb] at h; cases h) G'
  refine ⟨_, a, ?_⟩
  rw [hnv, hc]
  exact b

/-- P5.7: a view begins. -/
theorem Inv.begin {g : Ghost} {k : Nat → KeptM} {gv : Nat → Nat → Option KeptM} {M : List MsgM} (hI : Inv g k gv M) (i0 : Nat) (h0 : i0 < 3) (G' : Nat → Option KeptM) (hc : (k i0).calm = false) (hl : ldr (k i0).view = i0) (j1 : Nat) (hj1 : j1 < 3) (hji : j1 ≠ i0)
    (xi xj xb : KeptM) (b : Nat) (hb3 : b < 3) (hgi : gv i0 i0 = some xi) (hgj : gv i0 j1 = some xj) (hgb : gv i0 b = some xb)
    (hbest : ∀ j x, j < 3 → gv i0 j = some x → x.normal < xb.normal ∨ (x.normal = xb.normal ∧ x.log.length ≤ xb.log.length))
    (C : Int) (hC : ∃ j x, j < 3 ∧ gv i0 j = some x ∧ x.commit = C) (hCi : xi.commit ≤ C) :
    ∃ g', Ext g g' ∧ Inv g' (upd k i0 ⟨(k i0).view, (k i0).view, true, xb.log, min C xb.log.length⟩) (upd gv i0 G') M ∧ (k i0).commit ≤ min C xb.log.length := by
  have o := hI.one i0 h0
  have n0 := o.n0
  have hun := o.uncalm hc
  have ok : ∀ j x, j < 3 → gv i0 j = some x → GiveOk g k j (k i0).view x := fun j x hj hx => hI.gives i0 h0 hc j x hj hx
  have Bb := ok b xb hb3 hgb
  have hnw : g.was i0 (k i0).view = false := by
    cases hb : g.was i0 (k i0).view
    · rfl
    · have := o.top _ hb; omega
  have hnl : g.was (ldr (k i0).view) (k i0).view = false := by rw [hl]; exact hnw
  have hnil := hI.gh.none _ hnl
  have hbw := hI.gh.low b _ hb3 Bb.was
  have hblen : xb.log.length = g.vouch b xb.normal := by rw [Bb.log, List.length_take]; omega
  have hstb : g.start xb.normal <+: xb.log := List.prefix_of_prefix_length_le (hI.gh.pre _) (by rw [Bb.log]; exact List.take_prefix _ _) (by omega)
  -- how what two replicas may vouch for stands in the new log
  have F : ∀ v, v < (k i0).view → ∀ i j, i < 3 → j < 3 → i ≠ j → (g.cur v).take (min (pot g k i v) (pot g k j v)) <+: xb.log := by
    intro v hv i j hi hj hij
    have key : ∀ a x, a < 3 → (a = i ∨ a = j) → gv i0 a = some x → (g.cur v).take (min (pot g k i v) (pot g k j v)) <+: xb.log := by
      intro a x ha haij hx
      have A := ok a x ha hx
      have hva : v < (k a).view := by have := A.view; omega
      have hpa : pot g k a v = if g.was a v = true then g.vouch a v else 0 := by unfold pot; rw [if_pos hva]
      have hmin : min (pot g k i v) (pot g k j v) ≤ pot g k a v := by rcases haij with rfl | rfl <;> omega
      cases hw : g.was a v
      · rw [hw] at hpa
        simp at hpa
        rw [hpa] at hmin
        have : min (pot g k i v) (pot g k j v) = 0 := by omega
        rw [this, List.take_zero]
        exact List.nil_prefix
      · rw [hw, if_pos rfl] at hpa
        have hvn : v ≤ x.normal := by
          by_cases h : x.normal < v
          · have := A.gap v h hv; rw [hw] at this; cases this
          · omega
        rcases hbest a x ha hx with hlt | ⟨heq, hle⟩
        · by_cases h : v < xb.normal
          · exact (hI.all xb.normal v hbw.2.2.2 h i j hi hj hij).trans hstb
          · omega
        · by_cases h : v < xb.normal
          · exact (hI.all xb.normal v hbw.2.2.2 h i j hi hj hij).trans hstb
          · have hvx : v = x.normal := by omega
            subst hvx
            refine List.IsPrefix.trans (take_prefix_of_le (by omega)) (?_ : (g.cur x.normal).take (g.vouch a x.normal) <+: xb.log)
            rw [← A.log]
            refine List.prefix_of_prefix_length_le (l₃ := g.cur x.normal) (by rw [A.log]; exact List.take_prefix _ _) ?_ hle
            rw [heq, Bb.log]
            exact List.take_prefix _ _
    rcases (show i = i0 ∨ i = j1 ∨ j = i0 ∨ j = j1 by omega) with e | e | e | e
    · exact key i xi hi (Or.inl rfl) (by rw [e]; exact hgi)
    · exact key i xj hi (Or.inl rfl) (by rw [e]; exact hgj)
    · exact key j xi hj (Or.inr rfl) (by rw [e]; exact hgi)
    · exact key j xj hj (Or.inr rfl) (by rw [e]; exact hgj)
  obtain ⟨jc, xc, hjc, hxc, hCe⟩ := hC
  have Oc := ok jc xc hjc hxc
  have hpc : xc.log.take xc.commit.toNat <+: xb.log := by
    obtain ⟨u, hu, i, j, h1, h2, h3, h4, h5, h6⟩ := Oc.cat
    have := Oc.old
    refine h6.trans (List.IsPrefix.trans (take_prefix_of_le ?_) (F u (by omega) i j h1 h2 h3))
    have pi := vouch_pot hI.gh k h1 h4
    have pj := vouch_pot hI.gh k h2 h5
    omega
  have hlc : (xc.log.take xc.commit.toNat).length = xc.commit.toNat := by rw [List.length_take]; have := Oc.c0; have := Oc.c1; omega
  have hle := hpc.length_le
  rw [hlc] at hle
  have c0 := Oc.c0
  have hmin : min C (xb.log.length : Int) = C := by omega
  rw [hmin]
  have hown := hI.own i0 h0 hc xi hgi
  have hext := put_ext (g := g) (i0 := i0) (v0 := (k i0).view) (c := xb.log) (st := xb.log) (n := xb.log.length) (by rw [hnil]; exact List.nil_prefix) (fun h => by rw [hnw] at h; cases h) (fun h => by rw [hnl] at h; cases h)
  have hpot : ∀ v, v < (k i0).view → ∀ i, pot (g.put i0 (k i0).view xb.log xb.log xb.log.length) (upd k i0 ⟨(k i0).view, (k i0).view, true, xb.log, C⟩) i v = pot g k i v := by
    intro v hv i
    have ne : ¬ (i = i0 ∧ v = (k i0).view) := fun h => by omega
    have hvi : (upd k i0 ⟨(k i0).view, (k i0).view, true, xb.log, C⟩ i).view = (k i).view := by
      by_cases e : i = i0
      · subst e; rw [upd_self]
      · rw [upd_ne _ _ _ e]
    unfold pot
    rw [hvi, put_was_ne _ _ _ _ _ _ ne, put_vouch_ne _ _ _ _ _ _ ne, put_cur_ne _ _ _ _ _ _ (by omega)]
  have hvi : ∀ i, (upd k i0 ⟨(k i0).view, (k i0).view, true, xb.log, C⟩ i).view = (k i).view := fun i => by
    by_cases e : i = i0
    · subst e; rw [upd_self]
    · rw [upd_ne _ _ _ e]
  have htwo : ∀ i j, i < 3 → j < 3 → i ≠ j → (k i0).view ≤ (upd k i0 ⟨(k i0).view, (k i0).view, true, xb.log, C⟩ i).view ∨ (k i0).view ≤ (upd k i0 ⟨(k i0).view, (k i0).view, true, xb.log, C⟩ j).view := by
    intro i j hi hj hij
    rw [hvi, hvi]
    have v1 := (ok j1 xj hj1 hgj).view
    rcases (show i = i0 ∨ i = j1 ∨ j = i0 ∨ j = j1 by omega) with e | e | e | e
    · left; rw [e]; exact Int.le_refl _
    · left; rw [e]; exact v1
    · right; rw [e]; exact Int.le_refl _
    · right; rw [e]; exact v1
  obtain ⟨a, bb⟩ := hI.put i0 h0 (k i0).view xb.log xb.log xb.log.length C xb.log (by omega) (Int.le_refl _) (by rw [hnil]; exact List.nil_prefix) (fun h => by rw [hnw] at h; cases h) (fun h => by rw [hnl] at h; cases h) List.prefix_rfl (Nat.le_refl _) (Nat.le_refl _) (fun _ => rfl) (fun e => absurd hl e)
    (by rw [List.take_length]) (by omega) (by omega) (by
      have : xb.log.take C.toNat = xc.log.take xc.commit.toNat := by
        have := take_len_of_prefix hpc
        rw [hlc, hCe] at this
        rw [this, hCe]
      rw [this]
      exact (cat_ext hI.gh hext Oc.cat).mono (by have := Oc.old; omega)) (fun _ => ⟨htwo, fun v hv i j hi hj hij => by rw [hpot v hv, hpot v hv]; exact F v hv i j hi hj hij⟩) G'
  exact ⟨_, a, bb, by omega⟩

end Go.Proofs.YtmdgkjbiicaljagDoor
