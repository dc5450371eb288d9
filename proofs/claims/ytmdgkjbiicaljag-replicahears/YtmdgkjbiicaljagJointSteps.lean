/- How volumes lie in memory: those that came in, and those that a call made. -/
import Derived.Test.YtmdgkjbiicaljagJointKeptRead
import Derived.Test.YtmdgkjbiicaljagJointCodecIs
import Derived.Test.YtmdgkjbiicaljagJointMachMath
import Derived.Deep.RegionLaw
import Derived.BigRegion
namespace Go.Proofs.Ytmdgkjbiicaljag
open Go.RowKit
set_option linter.unusedVariables false
set_option linter.unusedSimpArgs false

/-- The value is a volume. -/
def VolAt (w : World) (v : Value) (V : VolM) : Prop := ∃ vn vs, v = .agg #[vn, vs] ∧ Strs w vn V.now ∧ Strss w vs V.snaps
theorem VolAt.below {w w' : World} {v : Value} {V : VolM} (h : VolAt w v V) (hb : Below w.heap.size w w') : VolAt w' v V := by
  obtain ⟨vn, vs, hv, h1, h2⟩ := h
  exact ⟨vn, vs, hv, h1.below hb, h2.below hb⟩

theorem infoStrs : Try.prog.info? 22 = some Try.t22 := by kernel_rfl
theorem zeroStrs : Try.t22.zero = some (.slice none 0 0) := by kernel_rfl
theorem sizeStrs : Try.t22.size = 1 := by kernel_rfl
theorem bytesStrs : Try.t22.bytes = 24 := by kernel_rfl

/-- Sizes of a volume's lists within the form's own reach. -/
structure VolFits (V : VolM) : Prop where
  now : V.now.length * 16 ≤ 140737488355328
  snaps : V.snaps.length * 24 ≤ 140737488355328
  each : ∀ l ∈ V.snaps, l.length * 16 ≤ 140737488355328

/-- Two slices lie in different blocks, or one of them in none. -/
def Apart (u v : Value) : Prop := ∀ k, u.ownBlock = some k → v.ownBlock ≠ some k

/-- The first k lists of strings lie, each in memory of the call's own (from block B on), in the cells us; none in the block of v. -/
def OwnEach (w : World) (B : Nat) (v : Value) (us : List Value) (ll : List (List (List UInt8))) : Prop :=
  us.length = ll.length ∧ ∀ i u, us[i]? = some u → w.ownsRow B 9 1 u (ll.getD i []).length ((ll.getD i []).map enc) ∧ Apart v u

/-- A volume in memory of the call's own, from block B on. -/
def VolNew (w : World) (B : Nat) (v : Value) (V : VolM) : Prop :=
  ∃ vn vs us, v = .agg #[vn, vs] ∧ w.ownsRow B 9 1 vn V.now.length (V.now.map enc) ∧ w.ownsRow B 22 1 vs V.snaps.length us ∧ OwnEach w B vn us V.snaps ∧ OwnEach w B vs us V.snaps ∧ Apart vn vs

theorem OwnEach.map {w w' : World} {B B' : Nat} {v : Value} {us : List Value} {ll : List (List (List UInt8))} (h : OwnEach w B v us ll)
    (f : ∀ (e : TypeId) (x : Value) (m : Nat) (xs : List Value), w.ownsRow B e 1 x m xs → w'.ownsRow B' e 1 x m xs) : OwnEach w' B' v us ll :=
  ⟨h.1, fun i u hu => ⟨f _ _ _ _ (h.2 i u hu).1, (h.2 i u hu).2⟩⟩

theorem VolNew.map {w w' : World} {B B' : Nat} {v : Value} {V : VolM} (h : VolNew w B v V)
    (f : ∀ (e : TypeId) (x : Value) (m : Nat) (xs : List Value), w.ownsRow B e 1 x m xs → w'.ownsRow B' e 1 x m xs) : VolNew w' B' v V := by
  obtain ⟨vn, vs, us, rfl, hn, hs, h1, h2, h3⟩ := h
  exact ⟨vn, vs, us, rfl, f _ _ _ _ hn, f _ _ _ _ hs, h1.map f, h2.map f, h3⟩

/-- A store below the base turns nothing of what a call made. -/
theorem VolNew.other {w : World} {B : Nat} {v : Value} {V : VolM} (h : VolNew w B v V) {a : Addr} (ha : a.block < B) (x : Value) : VolNew (w.setCell a x) B v V :=
  h.map fun _ _ _ _ r => ownsRow_setCell_below r ha x
theorem VolNew.base {w : World} {B B' : Nat} {v : Value} {V : VolM} (h : VolNew w B v V) (hb : B' ≤ B) : VolNew w B' v V :=
  h.map fun _ _ _ _ r => own_base r hb
/-- New memory turns nothing of it. -/
theorem VolNew.below {w w' : World} {B : Nat} {v : Value} {V : VolM} (h : VolNew w B v V) (hb : Below w.heap.size w w') : VolNew w' B v V :=
  h.map fun _ _ _ _ r => own_below r hb (own_lt r)
theorem VolNew.form {w : World} {B : Nat} {v : Value} {V : VolM} (h : VolNew w B v V) : ∃ a c a' c', v = .agg #[.slice a V.now.length c, .slice a' V.snaps.length c'] := by
  obtain ⟨vn, vs, us, rfl, hn, hs, _⟩ := h
  obtain ⟨a, c, rfl⟩ := own_form hn
  obtain ⟨a', c', rfl⟩ := own_form hs
  exact ⟨_, _, _, _, rfl⟩

theorem VolNew.drew {w : World} {B : Nat} {v : Value} {V : VolM} (h : VolNew w B v V) : VolNew w.drew B v V := h
/-- A sector written in place. -/
theorem VolNew.write {w : World} {B g c : Nat} {vs : Value} {V : VolM} (h : VolNew w B (.agg #[.slice (some ⟨g, 0, none⟩) V.now.length c, vs]) V) (q : Nat) (s : List UInt8) :
    VolNew (w.setCell ⟨g, q, none⟩ (.string ⟨s.toArray⟩)) B (.agg #[.slice (some ⟨g, 0, none⟩) V.now.length c, vs]) { V with now := V.now.set q s } := by
  obtain ⟨vn, vs', us, hv, hn, hs, h1, h2, h3⟩ := h
  cases hv
  have hn' := own_set hn q (.string ⟨s.toArray⟩)
  refine ⟨_, _, us, rfl, ?_, own_other hs (fun e => h3 g rfl e) _, ?_, ?_, h3⟩
  · have e1 : (V.now.set q s).map enc = (V.now.map enc).set q (.string ⟨s.toArray⟩) := by rw [List.map_set]; rfl
    have e2 : (V.now.set q s).length = V.now.length := List.length_set
    show World.ownsRow _ B _ 1 _ (V.now.set q s).length ((V.now.set q s).map enc)
    rw [e1, e2]
    exact hn'
  · exact ⟨h1.1, fun i u hu => ⟨own_other (h1.2 i u hu).1 (fun e => (h1.2 i u hu).2 g rfl e) _, (h1.2 i u hu).2⟩⟩
  · exact ⟨h2.1, fun i u hu => ⟨own_other (h1.2 i u hu).1 (fun e => (h1.2 i u hu).2 g rfl e) _, (h2.2 i u hu).2⟩⟩

/-- A list of sectors appended to a volume's snapshots; wC: the world behind it, in which blocks from lo to below hi alone may have turned since. -/
theorem vol_snap {w wA wB wC : World} {B hi : Nat} {vn vs vs' u : Value} {us : List Value} {V : VolM} {l : List (List UInt8)} {O : Obj}
    (hn : w.ownsRow B 9 1 vn V.now.length (V.now.map enc)) (hs : w.ownsRow B 22 1 vs V.snaps.length us) (h1 : OwnEach w B vn us V.snaps) (h2 : OwnEach w B vs us V.snaps) (hap : Apart vn vs)
    (hBw : B ≤ w.heap.size) (hA : Below w.heap.size w wA) (hhi : w.heap.size ≤ hi) (hhA : hi ≤ wA.heap.size) (hu : wA.ownsRow hi 9 1 u l.length (l.map enc))
    (hgB : (wA.alloc O).grownBy wB vs.ownBlock) (hB : wB.ownsRow B 22 1 vs' (V.snaps.length + 1) (us ++ [u])) (hat : vs'.ownBlock = vs.ownBlock ∨ vs'.ownBlock = some (wA.heap.size + 1))
    (hC : ∀ k, k < w.heap.size ∨ hi ≤ k → wC.heap[k]? = wB.heap[k]?) : VolNew wC B (.agg #[vn, vs']) { V with snaps := V.snaps ++ [l] } := by
  have hA1 : Below w.heap.size w (wA.alloc O) := hA.alloc hA.size _
  have keepB : ∀ (e : TypeId) (x : Value) (m : Nat) (xs : List Value), w.ownsRow B e 1 x m xs → Apart vs x → wC.ownsRow B e 1 x m xs := by
    intro e x m xs h ha
    have h3 : wB.ownsRow B e 1 x m xs := by
      refine (own_below h hA1 (own_lt h)).kept hgB ?_
      cases hx : x.ownBlock with
      | none => exact Or.inl rfl
      | some g => exact Or.inr (fun e => ha g e.symm hx)
    refine ⟨h3.1, ?_⟩
    rcases h3.2 with h4 | ⟨g, cap, cur, rfl, h5, hg, r⟩
    · exact Or.inl h4
    · exact Or.inr ⟨g, cap, cur, rfl, h5, by rw [hC g (Or.inl (own_lt h g rfl))]; exact hg, r⟩
  have symm : ∀ {a b : Value}, Apart a b → Apart b a := fun h k hk hb => h k hb hk
  have hvs' : wC.ownsRow B 22 1 vs' (V.snaps.length + 1) (us ++ [u]) := by
    refine ⟨hB.1, ?_⟩
    rcases hB.2 with h4 | ⟨g, cap, cur, rfl, h5, hg, r⟩
    · exact Or.inl h4
    · refine Or.inr ⟨g, cap, cur, rfl, h5, ?_, r⟩
      rw [hC g ?_]
      · exact hg
      · rcases hat with e | e
        · exact Or.inl (own_lt hs g e.symm)
        · have : g = wA.heap.size + 1 := by simpa [Value.ownBlock] using e
          right; omega
  have hgu := own_ge hu
  have hlu := own_lt hu
  have hap3 : ∀ x : Value, (∀ g, x.ownBlock = some g → g < w.heap.size) → Apart x u := fun x hx g hg hug => by
    have := hx g hg
    have := hgu g hug
    omega
  have huC : wC.ownsRow B 9 1 u l.length (l.map enc) := by
    have h3 : wB.ownsRow hi 9 1 u l.length (l.map enc) := by
      refine (own_below hu (below_alloc wA O) hlu).kept hgB ?_
      cases hx : u.ownBlock with
      | none => exact Or.inl rfl
      | some g => exact Or.inr (fun e => hap3 vs (own_lt hs) g e.symm hx)
    refine ⟨h3.1, ?_⟩
    rcases h3.2 with h4 | ⟨g, cap, cur, rfl, h5, hg, r⟩
    · exact Or.inl h4
    · exact Or.inr ⟨g, cap, cur, rfl, by omega, by rw [hC g (Or.inr h5)]; exact hg, r⟩
  have apv : ∀ x : Value, Apart vs x → (∀ g, x.ownBlock = some g → g < w.heap.size) → Apart vs' x := fun x ha hx g hg hxg => by
    rcases hat with e | e
    · exact ha g (e ▸ hg) hxg
    · have := hx g hxg
      have := hA.size
      rw [e] at hg
      cases hg
      omega
  have apu : Apart vs' u := fun g hg hug => by
    rcases hat with e | e
    · exact hap3 vs (own_lt hs) g (e ▸ hg) hug
    · have := hlu g hug
      rw [e] at hg
      cases hg
      omega
  refine ⟨vn, vs', us ++ [u], rfl, keepB _ _ _ _ hn (symm hap), by simpa using hvs', ⟨by simp [h1.1], ?_⟩, ⟨by simp [h1.1], ?_⟩, symm (apv vn (symm hap) (own_lt hn))⟩
  all_goals
    intro i x hx
    by_cases hi : i < us.length
    · rw [List.getElem?_append_left hi] at hx
      have hg : (V.snaps ++ [l]).getD i [] = V.snaps.getD i [] := by
        have : i < V.snaps.length := by rw [← h1.1]; exact hi
        simp [List.getD, List.getElem?_append_left this]
      show World.ownsRow _ _ _ _ _ ((V.snaps ++ [l]).getD i []).length (((V.snaps ++ [l]).getD i []).map enc) ∧ _
      rw [hg]
      refine ⟨keepB _ _ _ _ (h1.2 i x hx).1 (h2.2 i x hx).2, ?_⟩
      first
        | exact (h1.2 i x hx).2
        | exact apv x (h2.2 i x hx).2 (own_lt (h1.2 i x hx).1)
    · rw [List.getElem?_append_right (by omega)] at hx
      have hi2 : i = us.length := by
        have := (List.getElem?_eq_some_iff.1 hx).1
        simp at this
        omega
      subst hi2
      simp at hx
      subst hx
      have hg : (V.snaps ++ [l]).getD us.length [] = l := by rw [h1.1]; simp [List.getD]
      show World.ownsRow _ _ _ _ _ ((V.snaps ++ [l]).getD us.length []).length (((V.snaps ++ [l]).getD us.length []).map enc) ∧ _
      rw [hg]
      refine ⟨huC, ?_⟩
      first
        | exact hap3 vn (own_lt hn)
        | exact apu

/-- What a call made reads as a volume. -/
theorem VolNew.at {w : World} {B : Nat} {v : Value} {V : VolM} (h : VolNew w B v V) (hz : VolFits V) (h1 : ∀ s ∈ V.now, s.length ≤ 140737488355328) (h2 : ∀ l ∈ V.snaps, ∀ s ∈ l, s.length ≤ 140737488355328) : VolAt w v V := by
  obtain ⟨vn, vs, us, rfl, hn, hs, hu, _, _⟩ := h
  have z1 := hz.now
  have z2 := hz.snaps
  refine ⟨vn, vs, rfl, Strs.of_own hn (by omega) h1, ?_⟩
  obtain ⟨a, cap, hv⟩ := own_form hs
  refine ⟨a, cap, hv, by omega, fun i hi => ?_⟩
  obtain ⟨g, cap', hv', _, _, hc, _⟩ := own_cell hs i hi
  rw [hv] at hv'
  cases hv'
  have hi' : i < us.length := by rw [hu.1]; exact hi
  have hui : us[i]? = some us[i] := List.getElem?_eq_getElem hi'
  have hmem : V.snaps.getD i [] ∈ V.snaps := by
    rw [show V.snaps.getD i [] = V.snaps[i] by simp [List.getD, hi]]; exact List.getElem_mem hi
  have z3 := hz.each _ hmem
  exact ⟨g, 0, us[i], rfl, by rw [Nat.zero_add, hc, hui], Strs.of_own (hu.2 i _ hui).1 (by omega) (h2 _ hmem)⟩

theorem VolAt.texts {w : World} {v : Value} {V : VolM} (h : VolAt w v V) : (∀ s ∈ V.now, s.length ≤ 140737488355328) ∧ (∀ l ∈ V.snaps, ∀ s ∈ l, s.length ≤ 140737488355328) := by
  obtain ⟨vn, vs, rfl, hn, a, cap, rfl, hl, hc⟩ := h
  refine ⟨hn.bounds.2, fun l hl => ?_⟩
  obtain ⟨i, hi, rfl⟩ := List.mem_iff_getElem.1 hl
  obtain ⟨_, _, _, _, _, hs⟩ := hc i hi
  rw [show V.snaps.getD i [] = V.snaps[i] by simp [List.getD, hi]] at hs
  exact hs.bounds.2

/-- What an operation leaves is a volume that may be. -/
theorem didV_fits (V : VolM) (o : OpM) (hv : volFault V = 0) (ho : opFault o = 0) : VolFits (didV V o) ∧ (∀ s ∈ (didV V o).now, s.length ≤ 8) ∧ (∀ l ∈ (didV V o).snaps, ∀ s ∈ l, s.length ≤ 8) := by
  have hm := volMay_of V hv
  have hom := opMay_of o ho
  have hl := volMay_len hm
  unfold volMay at hm
  simp only [Bool.and_eq_true, decide_eq_true_eq, List.all_eq_true] at hm
  have hn := secMay_len hm.1.1
  have hs := fun l hl => secMay_len (hm.2 l hl)
  have fits : ∀ X : VolM, X.now.length = 6 → X.snaps.length ≤ 3 → (∀ l ∈ X.snaps, l.length = 6) → VolFits X := fun X a b c => ⟨by omega, by omega, fun l hl => by have := c l hl; omega⟩
  have hset : ∀ (x : List UInt8) (i : Nat), x.length ≤ 8 → ∀ s ∈ V.now.set i x, s.length ≤ 8 := fun x i hx s hs => by
    rcases List.mem_or_eq_of_mem_set hs with h | h
    · exact hn.2 s h
    · rw [h]; exact hx
  unfold didV
  split
  · exact ⟨fits _ (by simpa using hn.1) hl.2.1 hl.2.2, hset _ _ hom.2.2.2, fun l h => (hs l h).2⟩
  split
  · exact ⟨fits _ (by simpa using hn.1) hl.2.1 hl.2.2, hset _ _ (by simp), fun l h => (hs l h).2⟩
  split
  · exact ⟨fits _ hn.1 hl.2.1 hl.2.2, hn.2, fun l h => (hs l h).2⟩
  split
  · refine ⟨fits _ hn.1 (by simp; omega) (fun l h => ?_), hn.2, fun l h => ?_⟩
    · rcases List.mem_append.1 h with h | h
      · exact hl.2.2 l h
      · simp at h; rw [h]; exact hn.1
    · rcases List.mem_append.1 h with h | h
      · exact (hs l h).2
      · simp at h; rw [h]; exact hn.2
  · exact ⟨fits _ hn.1 hl.2.1 hl.2.2, hn.2, fun l h => (hs l h).2⟩

theorem didV_at {w : World} {B : Nat} {v : Value} {V : VolM} {o : OpM} (h : VolNew w B v (didV V o)) (hv : volFault V = 0) (ho : opFault o = 0) : VolAt w v (didV V o) := by
  obtain ⟨h1, h2, h3⟩ := didV_fits V o hv ho
  exact h.at h1 (fun s hs => by have := h2 s hs; omega) (fun l hl s hs => by have := h3 l hl s hs; omega)

theorem VolNew.nil (w : World) (B : Nat) : VolNew w B (.agg #[.slice none 0 0, .slice none 0 0]) ⟨[], []⟩ :=
  ⟨_, _, [], rfl, World.ownsRow_nil _ _ _ _, World.ownsRow_nil _ _ _ _, ⟨rfl, fun i u hu => by simp at hu⟩, ⟨rfl, fun i u hu => by simp at hu⟩, fun k hk => by cases hk⟩

theorem doV_at {w : World} {B : Nat} {v : Value} {V : VolM} {o : OpM} (h : VolNew w B v (doV V o)) : VolAt w v (doV V o) := by
  unfold doV at *
  split at h
  · rename_i he
    have hv : volFault V = 0 := by
      unfold doE at he
      split at he
      · assumption
      · exact he
    have ho : opFault o = 0 := by unfold doE at he; rw [if_pos hv] at he; exact he
    rw [if_pos he]
    exact didV_at h hv ho
  · rename_i he
    rw [if_neg he]
    exact h.at ⟨by simp, by simp, fun l hl => by simp at hl⟩ (fun s hs => by simp at hs) (fun l hl => by simp at hl)

def newVol : VolM := ⟨List.replicate 6 [], []⟩

theorem newVol_at {w : World} {g B : Nat} (h : Box w g 9 [.string ⟨#[]⟩, .string ⟨#[]⟩, .string ⟨#[]⟩, .string ⟨#[]⟩, .string ⟨#[]⟩, .string ⟨#[]⟩]) (hb : B ≤ g) : VolNew w B (.agg #[.slice (some ⟨g, 0, none⟩) 6 6, .slice none 0 0]) newVol :=
  ⟨_, _, [], rfl, own_box h hb 6 1 rfl (by decide), World.ownsRow_nil _ _ _ _, ⟨rfl, fun i u hu => by simp at hu⟩, ⟨rfl, fun i u hu => by simp at hu⟩, fun k _ hk => by cases hk⟩

theorem newVol_fits : VolFits newVol := ⟨by decide, by decide, fun l hl => by simp [newVol] at hl⟩
theorem newVol_is {w : World} {B : Nat} {v : Value} (h : VolNew w B v newVol) : VolAt w v newVol :=
  h.at newVol_fits (fun s hs => by simp [newVol] at hs; simp [hs]) (fun l hl => by simp [newVol] at hl)

end Go.Proofs.Ytmdgkjbiicaljag

/- Laws for calls inside regions that draw their order; blocks told apart by their types. -/
namespace Go.Proofs.Ytmdgkjbiicaljag
open Go.RowKit
set_option linter.unusedVariables false
set_option linter.unusedSimpArgs false

/-- A store into a block that none of a volume's is. -/
theorem VolNew.apart {w : World} {B b : Nat} {v : Value} {V : VolM} (h : VolNew w B v V) (hne : ∀ (e : TypeId) (x : Value) (m : Nat) (xs : List Value), e = 9 ∨ e = 22 → w.ownsRow B e 1 x m xs → x.ownBlock ≠ some b) (i : Nat) (x : Value) : VolNew (w.setCell ⟨b, i, none⟩ x) B v V := by
  obtain ⟨vn, vs, us, rfl, hn, hs, k1, k2, k3⟩ := h
  exact ⟨vn, vs, us, rfl, own_other hn (hne _ _ _ _ (Or.inl rfl) hn) x, own_other hs (hne _ _ _ _ (Or.inr rfl) hs) x, ⟨k1.1, fun i u hu => ⟨own_other (k1.2 i u hu).1 (hne _ _ _ _ (Or.inl rfl) (k1.2 i u hu).1) x, (k1.2 i u hu).2⟩⟩, ⟨k2.1, fun i u hu => ⟨own_other (k1.2 i u hu).1 (hne _ _ _ _ (Or.inl rfl) (k1.2 i u hu).1) x, (k2.2 i u hu).2⟩⟩, k3⟩

/-- A store into a block of another type turns nothing of a volume. -/
theorem VolNew.type {w : World} {B b : Nat} {v : Value} {V : VolM} {t : TypeId} {cs : List Value} (h : VolNew w B v V) (hb : Box w b t cs) (h1 : 9 ≠ t) (h2 : 22 ≠ t) (i : Nat) (x : Value) : VolNew (w.setCell ⟨b, i, none⟩ x) B v V :=
  h.apart (fun e y m xs he hy => own_type hy hb (by rcases he with rfl | rfl; exact h1; exact h2)) i x

end Go.Proofs.Ytmdgkjbiicaljag
