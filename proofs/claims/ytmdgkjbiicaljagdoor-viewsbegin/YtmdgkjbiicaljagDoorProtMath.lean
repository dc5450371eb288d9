/- The plain mathematics of the protocol: what is committed is the same wherever it is, and stays. Ghosts: the log of each view (cur), with which it began (start), who was in order in it (was), and how much of it was there (vouch). -/
import Derived.Test.YtmdgkjbiicaljagDoorReplMath
namespace Go.Proofs.YtmdgkjbiicaljagDoor
set_option linter.unusedVariables false

abbrev Ent := List UInt8
structure Ghost where
  cur : Int → List Ent
  start : Int → List Ent
  was : Nat → Int → Bool
  vouch : Nat → Int → Nat
def ldr (v : Int) : Nat := (v % 3).toNat
theorem ldr_lt (v : Int) : ldr v < 3 := by unfold ldr; omega
def upd {α : Type} (f : Nat → α) (i : Nat) (x : α) : Nat → α := fun j => if j = i then x else f j
theorem upd_self {α : Type} (f : Nat → α) (i : Nat) (x : α) : upd f i x i = x := if_pos rfl
theorem upd_ne {α : Type} (f : Nat → α) (i : Nat) (x : α) {j : Nat} (h : j ≠ i) : upd f i x j = f j := if_neg h

/-- Committed, in a view up to n. -/
def Cat (g : Ghost) (n : Int) (p : List Ent) : Prop :=
  ∃ u, u ≤ n ∧ ∃ i j, i < 3 ∧ j < 3 ∧ i ≠ j ∧ g.was i u = true ∧ g.was j u = true ∧ p <+: (g.cur u).take (min (g.vouch i u) (g.vouch j u))
theorem Cat.mono {g : Ghost} {n m : Int} {p : List Ent} (h : Cat g n p) (hn : n ≤ m) : Cat g m p := by
  obtain ⟨u, hu, r⟩ := h
  exact ⟨u, by omega, r⟩
theorem Cat.pre {g : Ghost} {n : Int} {p q : List Ent} (h : Cat g n p) (hq : q <+: p) : Cat g n q := by
  obtain ⟨u, hu, i, j, h1, h2, h3, h4, h5, h6⟩ := h
  exact ⟨u, hu, i, j, h1, h2, h3, h4, h5, hq.trans h6⟩

/-- How much of a view's log a replica may still vouch for. -/
def pot (g : Ghost) (k : Nat → KeptM) (i : Nat) (v : Int) : Nat :=
  if v < (k i).view then (if g.was i v = true then g.vouch i v else 0) else (g.cur v).length

structure GiveOk (g : Ghost) (k : Nat → KeptM) (j : Nat) (v : Int) (x : KeptM) : Prop where
  view : v ≤ (k j).view
  old : x.normal < v
  was : g.was j x.normal = true
  gap : ∀ u, x.normal < u → u < v → g.was j u = false
  log : x.log = (g.cur x.normal).take (g.vouch j x.normal)
  c0 : 0 ≤ x.commit
  c1 : x.commit ≤ x.log.length
  cat : Cat g x.normal (x.log.take x.commit.toNat)

structure LeadOk (g : Ghost) (m : MsgM) : Prop where
  was : g.was (ldr m.view) m.view = true
  pre : m.log <+: g.cur m.view
  start : (g.start m.view).length ≤ m.log.length
  c0 : 0 ≤ m.commit
  c1 : m.commit ≤ m.log.length
  cat : Cat g m.view (m.log.take m.commit.toNat)

structure MsgOk (g : Ghost) (k : Nat → KeptM) (m : MsgM) : Prop where
  lead : m.kind = 1 → LeadOk g m
  has : m.kind = 2 → ∃ i : Nat, i < 3 ∧ m.frm = (i : Int) ∧ g.was i m.view = true ∧ m.n ≤ g.vouch i m.view
  give : m.kind = 4 → ∃ i : Nat, i < 3 ∧ m.frm = (i : Int) ∧ GiveOk g k i m.view (msgKept m)

/-- What holds of one replica. -/
structure OneOk (g : Ghost) (i : Nat) (K : KeptM) : Prop where
  n0 : 0 ≤ K.normal
  nv : K.normal ≤ K.view
  calm : K.calm = true → K.normal = K.view
  uncalm : K.calm = false → K.normal < K.view
  was : g.was i K.normal = true
  log : K.log = (g.cur K.normal).take (g.vouch i K.normal)
  c0 : 0 ≤ K.commit
  c1 : K.commit ≤ K.log.length
  cat : Cat g K.normal (K.log.take K.commit.toNat)
  top : ∀ v, g.was i v = true → v ≤ K.normal

structure GhostOk (g : Ghost) : Prop where
  zero : ∀ i, i < 3 → g.was i 0 = true
  low : ∀ i v, i < 3 → g.was i v = true → 0 ≤ v ∧ (g.start v).length ≤ g.vouch i v ∧ g.vouch i v ≤ (g.cur v).length ∧ g.was (ldr v) v = true
  pre : ∀ v, g.start v <+: g.cur v
  lead : ∀ v, g.was (ldr v) v = true → g.vouch (ldr v) v = (g.cur v).length
  none : ∀ v, g.was (ldr v) v = false → g.cur v = []

structure Inv (g : Ghost) (k : Nat → KeptM) (gv : Nat → Nat → Option KeptM) (M : List MsgM) : Prop where
  gh : GhostOk g
  one : ∀ i, i < 3 → OneOk g i (k i)
  two : ∀ w, g.was (ldr w) w = true → ∀ i j, i < 3 → j < 3 → i ≠ j → w ≤ (k i).view ∨ w ≤ (k j).view
  all : ∀ w v, g.was (ldr w) w = true → v < w → ∀ i j, i < 3 → j < 3 → i ≠ j → (g.cur v).take (min (pot g k i v) (pot g k j v)) <+: g.start w
  msgs : ∀ m ∈ M, MsgOk g k m
  gives : ∀ i, i < 3 → (k i).calm = false → ∀ j x, j < 3 → gv i j = some x → GiveOk g k j (k i).view x
  own : ∀ i, i < 3 → (k i).calm = false → ∀ x, gv i i = some x → x.commit = (k i).commit

/-- Ghosts only grow. -/
structure Ext (g g' : Ghost) : Prop where
  was : ∀ i v, g.was i v = true → g'.was i v = true
  cur : ∀ v, g.cur v <+: g'.cur v
  vouch : ∀ i v, g.was i v = true → g.vouch i v ≤ g'.vouch i v
  start : ∀ v, g.was (ldr v) v = true → g'.start v = g.start v
theorem Ext.refl (g : Ghost) : Ext g g := ⟨fun _ _ h => h, fun _ => List.prefix_rfl, fun _ _ _ => Nat.le_refl _, fun _ _ => rfl⟩
theorem Ext.trans {a b c : Ghost} (h : Ext a b) (h' : Ext b c) : Ext a c :=
  ⟨fun i v x => h'.was i v (h.was i v x), fun v => (h.cur v).trans (h'.cur v), fun i v x => Nat.le_trans (h.vouch i v x) (h'.vouch i v (h.was i v x)), fun v x => (h'.start v (h.was _ v x)).trans (h.start v x)⟩

theorem take_prefix_of_le {l : List Ent} {a b : Nat} (h : a ≤ b) : l.take a <+: l.take b := by
  have := List.take_prefix a (l.take b)
  rwa [List.take_take, Nat.min_eq_left h] at this
theorem take_of_prefix {l l' : List Ent} (h : l <+: l') {n : Nat} (hn : n ≤ l.length) : l'.take n = l.take n := by
  obtain ⟨t, rfl⟩ := h
  exact List.take_append_of_le_length hn
theorem take_len_of_prefix {l l' : List Ent} (h : l <+: l') : l'.take l.length = l := by
  rw [take_of_prefix h (Nat.le_refl _), List.take_length]

theorem cat_ext {g g' : Ghost} {n : Int} {p : List Ent} (ho : GhostOk g) (he : Ext g g') (h : Cat g n p) : Cat g' n p := by
  obtain ⟨u, hu, i, j, h1, h2, h3, h4, h5, h6⟩ := h
  refine ⟨u, hu, i, j, h1, h2, h3, he.was _ _ h4, he.was _ _ h5, h6.trans ?_⟩
  have a := he.vouch i u h4
  have b := he.vouch j u h5
  have c := (ho.low i u h1 h4).2.2.1
  have d := he.cur u
  rw [← take_of_prefix d (by omega)]
  exact take_prefix_of_le (by omega)

theorem cat_nil {g : Ghost} (ho : GhostOk g) {n : Int} (hn : 0 ≤ n) : Cat g n [] :=
  ⟨0, hn, 0, 1, by omega, by omega, by omega, ho.zero 0 (by omega), ho.zero 1 (by omega), List.nil_prefix⟩

theorem vouch_pot {g : Ghost} (ho : GhostOk g) (k : Nat → KeptM) {i : Nat} {u : Int} (hi : i < 3) (h : g.was i u = true) : g.vouch i u ≤ pot g k i u := by
  have := (ho.low i u hi h).2.2.1
  unfold pot
  rw [if_pos h]
  split
  · exact Nat.le_refl _
  · exact this

/-- What a step of the whole does to ghosts and views. -/
structure Moves (g g' : Ghost) (k k' : Nat → KeptM) : Prop where
  ext : Ext g g'
  view : ∀ j, j < 3 → (k j).view ≤ (k' j).view
  frozen : ∀ j u, j < 3 → u < (k j).view → g'.was j u = g.was j u ∧ g'.vouch j u = g.vouch j u

theorem GiveOk.move {g g' : Ghost} {k k' : Nat → KeptM} {j : Nat} {v : Int} {x : KeptM} (ho : GhostOk g) (hj : j < 3) (hm : Moves g g' k k') (h : GiveOk g k j v x) : GiveOk g' k' j v x := by
  have hx : x.normal < (k j).view := by have := h.old; have := h.view; omega
  obtain ⟨f1, f2⟩ := hm.frozen j x.normal hj hx
  refine ⟨by have := h.view; have := hm.view j hj; omega, h.old, hm.ext.was _ _ h.was, fun u h1 h2 => ?_, ?_, h.c0, h.c1, cat_ext ho hm.ext h.cat⟩
  · rw [(hm.frozen j u hj (by have := h.view; omega)).1]
    exact h.gap u h1 h2
  · rw [f2, take_of_prefix (hm.ext.cur _) (ho.low j _ hj h.was).2.2.1]
    exact h.log

theorem LeadOk.ext {g g' : Ghost} {m : MsgM} (ho : GhostOk g) (he : Ext g g') (h : LeadOk g m) : LeadOk g' m :=
  ⟨he.was _ _ h.was, h.pre.trans (he.cur _), by rw [he.start _ h.was]; exact h.start, h.c0, h.c1, cat_ext ho he h.cat⟩

theorem MsgOk.move {g g' : Ghost} {k k' : Nat → KeptM} {m : MsgM} (ho : GhostOk g) (hm : Moves g g' k k') (h : MsgOk g k m) : MsgOk g' k' m := by
  refine ⟨fun e => (h.lead e).ext ho hm.ext, fun e => ?_, fun e => ?_⟩
  · obtain ⟨i, hi, hf, h1, h2⟩ := h.has e
    have := hm.ext.vouch i _ h1
    exact ⟨i, hi, hf, hm.ext.was _ _ h1, by omega⟩
  · obtain ⟨i, hi, hf, h1⟩ := h.give e
    exact ⟨i, hi, hf, h1.move ho hi hm⟩

theorem OneOk.ext {g g' : Ghost} {i : Nat} {K : KeptM} (hi : i < 3) (ho : GhostOk g) (he : Ext g g') (h : OneOk g i K) (h1 : g'.vouch i K.normal = g.vouch i K.normal) (h2 : ∀ v, g'.was i v = g.was i v) : OneOk g' i K := by
  refine ⟨h.n0, h.nv, h.calm, h.uncalm, he.was _ _ h.was, ?_, h.c0, h.c1, cat_ext ho he h.cat, fun v hv => h.top v (by rw [← h2]; exact hv)⟩
  rw [h1, take_of_prefix (he.cur _) (ho.low i _ hi h.was).2.2.1]
  exact h.log

/-- For views that had begun, what 'all' says stays. -/
theorem all_move {g g' : Ghost} {k k' : Nat → KeptM} {gv : Nat → Nat → Option KeptM} {M : List MsgM} (hI : Inv g k gv M) (hm : Moves g g' k k') (w v : Int) (hw : g.was (ldr w) w = true) (hv : v < w) (i j : Nat) (hi : i < 3) (hj : j < 3) (hij : i ≠ j) :
    (g'.cur v).take (min (pot g' k' i v) (pot g' k' j v)) <+: g'.start w := by
  rw [hm.ext.start w hw]
  refine List.IsPrefix.trans ?_ (hI.all w v hw hv i j hi hj hij)
  have key : ∀ a b, a < 3 → b < 3 → v < (k a).view → pot g' k' a v = pot g k a v ∧ min (pot g' k' a v) (pot g' k' b v) ≤ min (pot g k a v) (pot g k b v) ∧ pot g k a v ≤ (g.cur v).length := by
    intro a b ha hb hva
    obtain ⟨f1, f2⟩ := hm.frozen a v ha hva
    have hva' : v < (k' a).view := by have := hm.view a ha; omega
    have e1 : pot g' k' a v = pot g k a v := by unfold pot; rw [if_pos hva, if_pos hva', f1, f2]
    have l1 : pot g k a v ≤ (g.cur v).length := by
      unfold pot
      rw [if_pos hva]
      split
      · rename_i hw; exact (hI.gh.low a v ha hw).2.2.1
      · omega
    refine ⟨e1, ?_, l1⟩
    by_cases hvb : v < (k b).view
    · obtain ⟨f3, f4⟩ := hm.frozen b v hb hvb
      have hvb' : v < (k' b).view := by have := hm.view b hb; omega
      have e2 : pot g' k' b v = pot g k b v := by unfold pot; rw [if_pos hvb, if_pos hvb', f3, f4]
      rw [e1, e2]
      exact Nat.le_refl _
    · have e2 : pot g k b v = (g.cur v).length := by unfold pot; rw [if_neg hvb]
      rw [e1, e2]
      omega
  have fin : ∀ m n : Nat, m ≤ n → n ≤ (g.cur v).length → (g'.cur v).take m <+: (g.cur v).take n := fun m n hmn hn => by
    rw [take_of_prefix (hm.ext.cur v) (by omega)]
    exact take_prefix_of_le hmn
  rcases hI.two w hw i j hi hj hij with h | h
  · obtain ⟨_, h2, h3⟩ := key i j hi hj (by omega)
    exact fin _ _ h2 (by omega)
  · obtain ⟨_, h2, h3⟩ := key j i hj hi (by omega)
    rw [Nat.min_comm, Nat.min_comm (pot g k i v)]
    exact fin _ _ h2 (by omega)

/-- One replica's step: what it owes. -/
theorem Inv.step {g g' : Ghost} {k : Nat → KeptM} {gv : Nat → Nat → Option KeptM} {M : List MsgM} (hI : Inv g k gv M) (i0 : Nat) (h0 : i0 < 3) (K' : KeptM) (G' : Nat → Option KeptM)
    (hm : Moves g g' k (upd k i0 K')) (hg : GhostOk g') (hone : OneOk g' i0 K')
    (hoth : ∀ j, j < 3 → j ≠ i0 → g'.vouch j (k j).normal = g.vouch j (k j).normal ∧ ∀ v, g'.was j v = g.was j v)
    (hnew : ∀ w, g'.was (ldr w) w = true → g.was (ldr w) w = false →
      (∀ i j, i < 3 → j < 3 → i ≠ j → w ≤ (upd k i0 K' i).view ∨ w ≤ (upd k i0 K' j).view) ∧
      ∀ v, v < w → ∀ i j, i < 3 → j < 3 → i ≠ j → (g'.cur v).take (min (pot g' (upd k i0 K') i v) (pot g' (upd k i0 K') j v)) <+: g'.start w)
    (hgiv : K'.calm = false → ∀ j x, j < 3 → G' j = some x → GiveOk g' (upd k i0 K') j K'.view x)
    (hown : K'.calm = false → ∀ x, G' i0 = some x → x.commit = K'.commit) :
    Inv g' (upd k i0 K') (upd gv i0 G') M := by
  refine ⟨hg, fun i hi => ?_, fun w hw i j hi hj hij => ?_, fun w v hw hv i j hi hj hij => ?_, fun m hmM => (hI.msgs m hmM).move hI.gh hm, fun i hi hc j x hj hx => ?_, fun i hi hc x hx => ?_⟩
  · by_cases e : i = i0
    · subst e; rw [upd_self]; exact hone
    · rw [upd_ne _ _ _ e]
      exact (hI.one i hi).ext hi hI.gh hm.ext (hoth i hi e).1 (hoth i hi e).2
  · by_cases e : g.was (ldr w) w = true
    · rcases hI.two w e i j hi hj hij with h | h
      · exact Or.inl (Int.le_trans h (hm.view i hi))
      · exact Or.inr (Int.le_trans h (hm.view j hj))
    · exact (hnew w hw (by simpa using e)).1 i j hi hj hij
  · by_cases e : g.was (ldr w) w = true
    · exact all_move hI hm w v e hv i j hi hj hij
    · exact (hnew w hw (by simpa using e)).2 v hv i j hi hj hij
  · by_cases e : i = i0
    · subst e
      rw [upd_self] at hc ⊢
      rw [upd_self] at hx
      exact hgiv hc j x hj hx
    · rw [upd_ne _ _ _ e] at hc ⊢
      rw [upd_ne _ _ _ e] at hx
      exact (hI.gives i hi hc j x hj hx).move hI.gh hj hm
  · by_cases e : i = i0
    · subst e
      rw [upd_self] at hc ⊢
      rw [upd_self] at hx
      exact hown hc x hx
    · rw [upd_ne _ _ _ e] at hc ⊢
      rw [upd_ne _ _ _ e] at hx
      exact hI.own i hi hc x hx

/-- Messages: fewer, or more that may be. -/
theorem Inv.less {g : Ghost} {k : Nat → KeptM} {gv : Nat → Nat → Option KeptM} {M M' : List MsgM} (hI : Inv g k gv M) (h : ∀ m ∈ M', MsgOk g k m) : Inv g k gv M' :=
  ⟨hI.gh, hI.one, hI.two, hI.all, h, hI.gives, hI.own⟩

/-- A step that leaves the ghosts as they are. -/
theorem Inv.stay {g : Ghost} {k : Nat → KeptM} {gv : Nat → Nat → Option KeptM} {M : List MsgM} (hI : Inv g k gv M) (i0 : Nat) (h0 : i0 < 3) (K' : KeptM) (G' : Nat → Option KeptM)
    (hv : (k i0).view ≤ K'.view) (hone : OneOk g i0 K')
    (hgiv : K'.calm = false → ∀ j x, j < 3 → G' j = some x → GiveOk g (upd k i0 K') j K'.view x)
    (hown : K'.calm = false → ∀ x, G' i0 = some x → x.commit = K'.commit) : Inv g (upd k i0 K') (upd gv i0 G') M := by
  refine hI.step i0 h0 K' G' ⟨Ext.refl g, fun j hj => ?_, fun j u _ _ => ⟨rfl, rfl⟩⟩ hI.gh hone (fun j _ _ => ⟨rfl, fun _ => rfl⟩) (fun w h1 h2 => by rw [h1] at h2; cases h2) hgiv hown
  by_cases e : j = i0
  · subst e; rw [upd_self]; exact hv
  · rw [upd_ne _ _ _ e]; exact Int.le_refl _

/-- Any two of what is committed go one behind another. -/
theorem Inv.comparable {g : Ghost} {k : Nat → KeptM} {gv : Nat → Nat → Option KeptM} {M : List MsgM} (hI : Inv g k gv M) {n m : Int} {p q : List Ent} (hp : Cat g n p) (hq : Cat g m q) : p <+: q ∨ q <+: p := by
  have up : ∀ {n : Int} {p : List Ent}, Cat g n p → ∃ u, u ≤ n ∧ g.was (ldr u) u = true ∧ p <+: g.cur u ∧ ∀ w, u < w → g.was (ldr w) w = true → p <+: g.start w := by
    intro n p h
    obtain ⟨u, hu, i, j, h1, h2, h3, h4, h5, h6⟩ := h
    refine ⟨u, hu, (hI.gh.low i u h1 h4).2.2.2, h6.trans (List.take_prefix _ _), fun w hw hb => ?_⟩
    refine h6.trans (List.IsPrefix.trans (take_prefix_of_le ?_) (hI.all w u hb hw i j h1 h2 h3))
    have a := (hI.gh.low i u h1 h4).2.2.1
    have b := (hI.gh.low j u h2 h5).2.2.1
    have pi : g.vouch i u ≤ pot g k i u := vouch_pot hI.gh k h1 h4
    have pj : g.vouch j u ≤ pot g k j u := vouch_pot hI.gh k h2 h5
    omega
  obtain ⟨u, _, bu, pu, su⟩ := up hp
  obtain ⟨x, _, bx, px, sx⟩ := up hq
  rcases Int.lt_trichotomy u x with h | h | h
  · exact List.prefix_or_prefix_of_prefix ((su x h bx).trans (hI.gh.pre x)) px
  · subst h
    exact List.prefix_or_prefix_of_prefix pu px
  · exact List.prefix_or_prefix_of_prefix pu ((sx u h bu).trans (hI.gh.pre u))

/-- What is committed in a view up to n stands at the start of each view above it, and in the log of view n. -/
theorem Inv.start_of {g : Ghost} {k : Nat → KeptM} {gv : Nat → Nat → Option KeptM} {M : List MsgM} (hI : Inv g k gv M) {n : Int} {p : List Ent} (hp : Cat g n p) {w : Int} (hw : n < w) (hb : g.was (ldr w) w = true) : p <+: g.start w := by
  obtain ⟨u, hu, i, j, h1, h2, h3, h4, h5, h6⟩ := hp
  refine h6.trans (List.IsPrefix.trans (take_prefix_of_le ?_) (hI.all w u hb (by omega) i j h1 h2 h3))
  have a := (hI.gh.low i u h1 h4).2.2.1
  have b := (hI.gh.low j u h2 h5).2.2.1
  have pi : g.vouch i u ≤ pot g k i u := vouch_pot hI.gh k h1 h4
  have pj : g.vouch j u ≤ pot g k j u := vouch_pot hI.gh k h2 h5
  omega
theorem Inv.cur_of {g : Ghost} {k : Nat → KeptM} {gv : Nat → Nat → Option KeptM} {M : List MsgM} (hI : Inv g k gv M) {n : Int} {p : List Ent} (hp : Cat g n p) (hb : g.was (ldr n) n = true) : p <+: g.cur n := by
  obtain ⟨u, hu, i, j, h1, h2, h3, h4, h5, h6⟩ := hp
  by_cases e : u = n
  · subst e; exact h6.trans (List.take_prefix _ _)
  · exact (hI.start_of ⟨u, Int.le_refl _, i, j, h1, h2, h3, h4, h5, h6⟩ (show u < n by omega) hb).trans (hI.gh.pre n)

end Go.Proofs.YtmdgkjbiicaljagDoor
