/- How replicas and messages lie in memory: those that came in, and those that a call made. -/
import Derived.Test.YtmdgkjbiicaljagDoorReplMath
import Derived.Test.YtmdgkjbiicaljagDoorJointStageMem
namespace Go.Proofs.YtmdgkjbiicaljagDoor
open Go.RowKit Go.WideShapes
set_option linter.unusedVariables false
set_option linter.unusedSimpArgs false

/-! ### Rows of elements of several cells. -/
theorem flat_len {α : Type} (f : α → List Value) (s : Nat) (hf : ∀ x, (f x).length = s) : ∀ l : List α, (l.flatMap f).length = l.length * s
  | [] => by simp
  | x :: l => by rw [List.flatMap_cons, List.length_append, flat_len f s hf l, hf, List.length_cons, Nat.succ_mul]; omega
theorem flat_get {α : Type} (f : α → List Value) (s : Nat) (hf : ∀ x, (f x).length = s) : ∀ (l : List α) (i j : Nat) (x : α), l[i]? = some x → j < s → (l.flatMap f)[i * s + j]? = (f x)[j]?
  | y :: l, 0, j, x, hi, hj => by
    have : y = x := by simpa using hi
    subst this
    rw [List.flatMap_cons, List.getElem?_append_left (by rw [hf]; omega)]
    simp
  | y :: l, i + 1, j, x, hi, hj => by
    have e : (i + 1) * s + j = s + (i * s + j) := by rw [Nat.succ_mul]; omega
    rw [List.flatMap_cons, List.getElem?_append_right (by rw [hf, e]; omega), hf, e, Nat.add_sub_cancel_left]
    exact flat_get f s hf l i j x (by simpa using hi) hj
/-- Cells put one behind another, from place k on. -/
def putAt (xs : List Value) (k : Nat) : List Value → List Value
  | [] => xs
  | c :: cs => putAt (xs.set k c) (k + 1) cs
theorem putAt_left (ys : List Value) : ∀ (cs xs : List Value) (k : Nat), putAt (ys ++ xs) (ys.length + k) cs = ys ++ putAt xs k cs
  | [], xs, k => rfl
  | c :: cs, xs, k => by
    unfold putAt
    rw [List.set_append_right _ _ (by omega), Nat.add_sub_cancel_left, Nat.add_assoc]
    exact putAt_left ys cs (xs.set k c) (k + 1)
theorem putAt_all : ∀ (cs ys zs xs : List Value), cs.length = ys.length → putAt (zs ++ (ys ++ xs)) zs.length cs = zs ++ (cs ++ xs)
  | [], [], zs, xs, _ => rfl
  | c :: cs, y :: ys, zs, xs, h => by
    unfold putAt
    have e : (zs ++ (y :: ys ++ xs)).set zs.length c = (zs ++ [c]) ++ (ys ++ xs) := by simp
    have := putAt_all cs ys (zs ++ [c]) xs (by simpa using h)
    rw [e]
    simp at this ⊢
    exact this
theorem flat_set {α : Type} (f : α → List Value) (s : Nat) (hf : ∀ x, (f x).length = s) : ∀ (l : List α) (i : Nat) (x : α), i < l.length → (l.set i x).flatMap f = putAt (l.flatMap f) (i * s) (f x)
  | y :: l, 0, x, _ => by
    have := putAt_all (f x) (f y) [] (l.flatMap f) (by rw [hf, hf])
    simp at this ⊢
    exact this.symm
  | y :: l, i + 1, x, h => by
    rw [List.set_cons_succ, List.flatMap_cons, List.flatMap_cons, flat_set f s hf l i x (by simpa using h), Nat.succ_mul, Nat.add_comm, ← hf y, putAt_left, hf]

/-! ### Lists of numbers and of bools. -/
def encI (n : Int) : Value := .int .i64 n
def encB (b : Bool) : Value := .bool b
theorem encI_one (l : List Int) : ∀ u ∈ l.map encI, u.oneCell' = true := by
  intro u hu
  obtain ⟨s, _, rfl⟩ := List.mem_map.1 hu
  rfl
theorem encB_one (l : List Bool) : ∀ u ∈ l.map encB, u.oneCell' = true := by
  intro u hu
  obtain ⟨s, _, rfl⟩ := List.mem_map.1 hu
  rfl
def Ints (w : World) (v : Value) (l : List Int) : Prop :=
  ∃ a cap, v = .slice a l.length cap ∧ l.length ≤ 140737488355328 ∧ ∀ i, i < l.length → ∃ b o, a = some ⟨b, o, none⟩ ∧ w.cell? ⟨b, o + i, none⟩ = some (.int .i64 (l.getD i 0))
def Bools (w : World) (v : Value) (l : List Bool) : Prop :=
  ∃ a cap, v = .slice a l.length cap ∧ l.length ≤ 140737488355328 ∧ ∀ i, i < l.length → ∃ b o, a = some ⟨b, o, none⟩ ∧ w.cell? ⟨b, o + i, none⟩ = some (.bool (l.getD i false))
theorem Ints.below {w w' : World} {v : Value} {l : List Int} (h : Ints w v l) (hb : Below w.heap.size w w') : Ints w' v l := by
  obtain ⟨a, cap, hv, hl, hc⟩ := h
  refine ⟨a, cap, hv, hl, fun i hi => ?_⟩
  obtain ⟨b, o, ha, hcell⟩ := hc i hi
  exact ⟨b, o, ha, by rw [hb.cell (p := ⟨b, o + i, none⟩) (lt_of_cell hcell)]; exact hcell⟩
theorem Bools.below {w w' : World} {v : Value} {l : List Bool} (h : Bools w v l) (hb : Below w.heap.size w w') : Bools w' v l := by
  obtain ⟨a, cap, hv, hl, hc⟩ := h
  refine ⟨a, cap, hv, hl, fun i hi => ?_⟩
  obtain ⟨b, o, ha, hcell⟩ := hc i hi
  exact ⟨b, o, ha, by rw [hb.cell (p := ⟨b, o + i, none⟩) (lt_of_cell hcell)]; exact hcell⟩
theorem Ints.row {w : World} {v : Value} {l : List Int} (h : Ints w v l) : RowAt w v l.length 1 (l.map encI) := by
  obtain ⟨a, cap, hv, hl, hc⟩ := h
  refine ⟨a, cap, hv, by simp, fun j u hj => ?_⟩
  have hj' : j < l.length := by have := (List.getElem?_eq_some_iff.1 hj).1; simpa using this
  obtain ⟨b, o, ha, hcell⟩ := hc j hj'
  refine ⟨⟨b, o, none⟩, ha, ?_⟩
  rw [add_plain, hcell]
  simp [hj'] at hj
  rw [← hj]
  simp [encI, List.getD, hj']
theorem Bools.row {w : World} {v : Value} {l : List Bool} (h : Bools w v l) : RowAt w v l.length 1 (l.map encB) := by
  obtain ⟨a, cap, hv, hl, hc⟩ := h
  refine ⟨a, cap, hv, by simp, fun j u hj => ?_⟩
  have hj' : j < l.length := by have := (List.getElem?_eq_some_iff.1 hj).1; simpa using this
  obtain ⟨b, o, ha, hcell⟩ := hc j hj'
  refine ⟨⟨b, o, none⟩, ha, ?_⟩
  rw [add_plain, hcell]
  simp [hj'] at hj
  rw [← hj]
  simp [encB, List.getD, hj']
theorem Ints.of_own {w : World} {base : Nat} {e : TypeId} {v : Value} {l : List Int} (h : w.ownsRow base e 1 v l.length (l.map encI)) (h1 : l.length ≤ 140737488355328) : Ints w v l := by
  obtain ⟨a, cap, hv⟩ := own_form h
  refine ⟨a, cap, hv, h1, fun i hi => ?_⟩
  obtain ⟨g, cap', hv', _, _, hc, _⟩ := own_cell h i hi
  rw [hv] at hv'
  cases hv'
  refine ⟨g, 0, rfl, ?_⟩
  rw [Nat.zero_add, hc]
  simp [hi, encI, List.getD]
theorem Bools.of_own {w : World} {base : Nat} {e : TypeId} {v : Value} {l : List Bool} (h : w.ownsRow base e 1 v l.length (l.map encB)) (h1 : l.length ≤ 140737488355328) : Bools w v l := by
  obtain ⟨a, cap, hv⟩ := own_form h
  refine ⟨a, cap, hv, h1, fun i hi => ?_⟩
  obtain ⟨g, cap', hv', _, _, hc, _⟩ := own_cell h i hi
  rw [hv] at hv'
  cases hv'
  refine ⟨g, 0, rfl, ?_⟩
  rw [Nat.zero_add, hc]
  simp [hi, encB, List.getD]

/-! ### Lists of what is kept. -/
def keptRow (p : KeptM × Value) : List Value := keptCells p.1 p.2
theorem keptRow_len (p : KeptM × Value) : (keptRow p).length = 5 := rfl
def KeptsAt (w : World) (v : Value) (l : List KeptM) : Prop :=
  ∃ a cap, v = .slice a l.length cap ∧ l.length * 56 ≤ 140737488355328 ∧ ∀ i, i < l.length → ∃ b o vl, a = some ⟨b, o, none⟩ ∧ (∀ j u, (keptCells (l.getD i zeroKept) vl)[j]? = some u → w.cell? ⟨b, o + i * 5 + j, none⟩ = some u) ∧ Strs w vl (l.getD i zeroKept).log
theorem KeptsAt.below {w w' : World} {v : Value} {l : List KeptM} (h : KeptsAt w v l) (hb : Below w.heap.size w w') : KeptsAt w' v l := by
  obtain ⟨a, cap, hv, hl, hc⟩ := h
  refine ⟨a, cap, hv, hl, fun i hi => ?_⟩
  obtain ⟨b, o, vl, ha, hcell, hs⟩ := hc i hi
  exact ⟨b, o, vl, ha, fun j u hj => by rw [hb.cell (p := ⟨b, o + i * 5 + j, none⟩) (lt_of_cell (hcell j u hj))]; exact hcell j u hj, hs.below hb⟩
/-- In memory of the call's own: ps, what is kept with the cells of its logs. -/
def KeptsNew (w : World) (B : Nat) (v : Value) (ps : List (KeptM × Value)) : Prop :=
  w.ownsRow B 25 5 v ps.length (ps.flatMap keptRow) ∧ ∀ p ∈ ps, w.ownsRow B 9 1 p.2 p.1.log.length (p.1.log.map enc)
def TextsIn (l : List (List UInt8)) : Prop := l.length * 16 ≤ 140737488355328 ∧ ∀ s ∈ l, s.length ≤ 140737488355328
theorem KeptsAt.of_own {w : World} {B : Nat} {v : Value} {ps : List (KeptM × Value)} (h : KeptsNew w B v ps) (h1 : ps.length * 56 ≤ 140737488355328) (h2 : ∀ p ∈ ps, TextsIn p.1.log) : KeptsAt w v (ps.map Prod.fst) := by
  obtain ⟨h, hs⟩ := h
  obtain ⟨a, cap, hv⟩ := own_formN h
  refine ⟨a, cap, by rw [List.length_map]; exact hv, by rw [List.length_map]; exact h1, fun i hi => ?_⟩
  rw [List.length_map] at hi
  have e1 : (ps.map Prod.fst).getD i zeroKept = ps[i].1 := by simp [List.getD, hi]
  have key : ∀ j, j < 5 → ∃ g, a = some ⟨g, 0, none⟩ ∧ w.cell? ⟨g, 0 + i * 5 + j, none⟩ = (keptRow ps[i])[j]? := fun j hj => by
    obtain ⟨g, cap', hv', _, _, hc, _⟩ := own_cellN h (by decide) (i * 5 + j) (by omega)
    rw [hv] at hv'
    cases hv'
    exact ⟨g, rfl, by rw [Nat.zero_add, hc, flat_get keptRow 5 keptRow_len ps i j ps[i] (List.getElem?_eq_getElem hi) hj]⟩
  obtain ⟨g, ha, _⟩ := key 0 (by decide)
  have hp : ps[i] ∈ ps := List.getElem_mem hi
  refine ⟨g, 0, ps[i].2, ha, fun j u hj => ?_, ?_⟩
  · rw [e1] at hj
    have hj5 : j < 5 := by have := (List.getElem?_eq_some_iff.1 hj).1; simpa [keptCells] using this
    obtain ⟨g', ha', hc⟩ := key j hj5
    rw [ha] at ha'
    cases ha'
    rw [hc]
    exact hj
  · rw [e1]
    have := h2 _ hp
    exact Strs.of_own (hs _ hp) (by have := this.1; omega) this.2

/-! ### Replicas. -/
def replCells (R : ReplM) (vl vh vw vg vn : Value) : List Value := [.int .i64 R.me, .int .i64 R.kept.view, .int .i64 R.kept.normal, .bool R.kept.calm, vl, .int .i64 R.kept.commit, vh, vw, vg, vn]
/-- The value is a replica. -/
def ReplAt (w : World) (v : Value) (R : ReplM) : Prop :=
  ∃ vl vh vw vg vn, v = .agg (replCells R vl vh vw vg vn).toArray ∧ Strs w vl R.kept.log ∧ Ints w vh R.hav ∧ Bools w vw R.wants ∧ KeptsAt w vg R.gives ∧ Bools w vn R.given
theorem ReplAt.below {w w' : World} {v : Value} {R : ReplM} (h : ReplAt w v R) (hb : Below w.heap.size w w') : ReplAt w' v R := by
  obtain ⟨vl, vh, vw, vg, vn, hv, h1, h2, h3, h4, h5⟩ := h
  exact ⟨vl, vh, vw, vg, vn, hv, h1.below hb, h2.below hb, h3.below hb, h4.below hb, h5.below hb⟩
structure ReplFits (R : ReplM) : Prop where
  log : TextsIn R.kept.log
  hav : R.hav.length * 8 ≤ 140737488355328
  wants : R.wants.length ≤ 140737488355328
  gives : R.gives.length * 56 ≤ 140737488355328
  each : ∀ k ∈ R.gives, TextsIn k.log
  given : R.given.length ≤ 140737488355328
/-- Two slices lie in different blocks, or one of them in none. -/
def Asunder (u v : Value) : Prop := ∀ k, u.ownBlock = some k → v.ownBlock ≠ some k
theorem Asunder.symm {u v : Value} (h : Asunder u v) : Asunder v u := fun k h1 h2 => h k h2 h1
/-- A replica in memory of the call's own, from block B on. -/
def ReplOwn (w : World) (B : Nat) (R : ReplM) (vl vh vw vg vn : Value) (ps : List (KeptM × Value)) : Prop :=
  R.gives = ps.map Prod.fst ∧ w.ownsRow B 9 1 vl R.kept.log.length (R.kept.log.map enc) ∧ w.ownsRow B 3 1 vh R.hav.length (R.hav.map encI) ∧ w.ownsRow B 4 1 vw R.wants.length (R.wants.map encB) ∧
  KeptsNew w B vg ps ∧ w.ownsRow B 4 1 vn R.given.length (R.given.map encB) ∧ Asunder vw vn ∧ ∀ p ∈ ps, Asunder vl p.2
def ReplNew (w : World) (B : Nat) (v : Value) (R : ReplM) : Prop := ∃ vl vh vw vg vn ps, v = .agg (replCells R vl vh vw vg vn).toArray ∧ ReplOwn w B R vl vh vw vg vn ps
theorem KeptsNew.map {w w' : World} {B B' : Nat} {v : Value} {ps : List (KeptM × Value)} (h : KeptsNew w B v ps)
    (f : ∀ (e : TypeId) (s : Nat) (x : Value) (m : Nat) (xs : List Value), (e = 9 ∨ e = 3 ∨ e = 4 ∨ e = 25) → w.ownsRow B e s x m xs → w'.ownsRow B' e s x m xs) : KeptsNew w' B' v ps :=
  ⟨f _ _ _ _ _ (by simp) h.1, fun p hp => f _ _ _ _ _ (by simp) (h.2 p hp)⟩
theorem ReplOwn.map {w w' : World} {B B' : Nat} {R : ReplM} {vl vh vw vg vn : Value} {ps : List (KeptM × Value)} (h : ReplOwn w B R vl vh vw vg vn ps)
    (f : ∀ (e : TypeId) (s : Nat) (x : Value) (m : Nat) (xs : List Value), (e = 9 ∨ e = 3 ∨ e = 4 ∨ e = 25) → w.ownsRow B e s x m xs → w'.ownsRow B' e s x m xs) : ReplOwn w' B' R vl vh vw vg vn ps :=
  ⟨h.1, f _ _ _ _ _ (by simp) h.2.1, f _ _ _ _ _ (by simp) h.2.2.1, f _ _ _ _ _ (by simp) h.2.2.2.1, h.2.2.2.2.1.map f, f _ _ _ _ _ (by simp) h.2.2.2.2.2.1, h.2.2.2.2.2.2⟩
theorem ReplOwn.other {w : World} {B : Nat} {R : ReplM} {vl vh vw vg vn : Value} {ps : List (KeptM × Value)} (h : ReplOwn w B R vl vh vw vg vn ps) {a : Addr} (ha : a.block < B) (x : Value) : ReplOwn (w.setCell a x) B R vl vh vw vg vn ps :=
  h.map fun _ _ _ _ _ _ r => ownsRow_setCell_below r ha x
theorem ReplOwn.base {w : World} {B B' : Nat} {R : ReplM} {vl vh vw vg vn : Value} {ps : List (KeptM × Value)} (h : ReplOwn w B R vl vh vw vg vn ps) (hb : B' ≤ B) : ReplOwn w B' R vl vh vw vg vn ps :=
  h.map fun _ _ _ _ _ _ r => own_base r hb
theorem ReplOwn.below {w w' : World} {B : Nat} {R : ReplM} {vl vh vw vg vn : Value} {ps : List (KeptM × Value)} (h : ReplOwn w B R vl vh vw vg vn ps) (hb : Below w.heap.size w w') : ReplOwn w' B R vl vh vw vg vn ps :=
  h.map fun _ _ _ _ _ _ r => own_below r hb (own_lt r)
/-- A store into a block of another type. -/
theorem ReplOwn.type {w : World} {B b : Nat} {R : ReplM} {vl vh vw vg vn : Value} {ps : List (KeptM × Value)} {t : TypeId} {cs : List Value} (h : ReplOwn w B R vl vh vw vg vn ps) (hb : Box w b t cs)
    (h1 : 9 ≠ t) (h2 : 3 ≠ t) (h3 : 4 ≠ t) (h4 : 25 ≠ t) (i : Nat) (x : Value) : ReplOwn (w.setCell ⟨b, i, none⟩ x) B R vl vh vw vg vn ps :=
  h.map fun e _ _ _ _ he r => own_other r (own_type r hb (by rcases he with rfl | rfl | rfl | rfl <;> assumption)) x
theorem ReplOwn.at {w : World} {B : Nat} {R : ReplM} {vl vh vw vg vn : Value} {ps : List (KeptM × Value)} (h : ReplOwn w B R vl vh vw vg vn ps) (hf : ReplFits R) : ReplAt w (.agg (replCells R vl vh vw vg vn).toArray) R := by
  obtain ⟨hg, h1, h2, h3, h4, h5, _⟩ := h
  refine ⟨vl, vh, vw, vg, vn, rfl, Strs.of_own h1 (by have := hf.log.1; omega) hf.log.2, Ints.of_own h2 (by have := hf.hav; omega), Bools.of_own h3 hf.wants, ?_, Bools.of_own h5 hf.given⟩
  rw [hg]
  have h6 := hf.gives
  have h7 := hf.each
  rw [hg] at h6 h7
  exact KeptsAt.of_own h4 (by simpa using h6) (fun p hp => h7 _ (List.mem_map.2 ⟨p, hp, rfl⟩))
theorem ReplNew.below {w w' : World} {B : Nat} {v : Value} {R : ReplM} (h : ReplNew w B v R) (hb : Below w.heap.size w w') : ReplNew w' B v R := by
  obtain ⟨vl, vh, vw, vg, vn, ps, hv, h⟩ := h
  exact ⟨vl, vh, vw, vg, vn, ps, hv, h.below hb⟩
theorem ReplNew.base {w : World} {B B' : Nat} {v : Value} {R : ReplM} (h : ReplNew w B v R) (hb : B' ≤ B) : ReplNew w B' v R := by
  obtain ⟨vl, vh, vw, vg, vn, ps, hv, h⟩ := h
  exact ⟨vl, vh, vw, vg, vn, ps, hv, h.base hb⟩
theorem ReplNew.other {w : World} {B : Nat} {v : Value} {R : ReplM} (h : ReplNew w B v R) {a : Addr} (ha : a.block < B) (x : Value) : ReplNew (w.setCell a x) B v R := by
  obtain ⟨vl, vh, vw, vg, vn, ps, hv, h⟩ := h
  exact ⟨vl, vh, vw, vg, vn, ps, hv, h.other ha x⟩
theorem ReplNew.at {w : World} {B : Nat} {v : Value} {R : ReplM} (h : ReplNew w B v R) (hf : ReplFits R) : ReplAt w v R := by
  obtain ⟨vl, vh, vw, vg, vn, ps, rfl, h⟩ := h
  exact h.at hf

/-! ### Messages. -/
def msgCells (M : MsgM) (vl : Value) : List Value := [.int .i64 M.kind, .int .i64 M.frm, .int .i64 M.dst, .int .i64 M.view, .int .i64 M.normal, .int .i64 M.commit, .int .i64 M.n, vl]
def MsgAt (w : World) (v : Value) (M : MsgM) : Prop := ∃ vl, v = .agg (msgCells M vl).toArray ∧ Strs w vl M.log
theorem MsgAt.below {w w' : World} {v : Value} {M : MsgM} (h : MsgAt w v M) (hb : Below w.heap.size w w') : MsgAt w' v M := by
  obtain ⟨vl, hv, hl⟩ := h
  exact ⟨vl, hv, hl.below hb⟩
def msgRow (p : MsgM × Value) : List Value := msgCells p.1 p.2
theorem msgRow_len (p : MsgM × Value) : (msgRow p).length = 8 := rfl
/-- Messages in memory of the call's own. -/
def MsgsOwn (w : World) (B : Nat) (v : Value) (ps : List (MsgM × Value)) : Prop :=
  w.ownsRow B 43 8 v ps.length (ps.flatMap msgRow) ∧ ∀ p ∈ ps, w.ownsRow B 9 1 p.2 p.1.log.length (p.1.log.map enc)
theorem MsgsOwn.map {w w' : World} {B B' : Nat} {v : Value} {ps : List (MsgM × Value)} (h : MsgsOwn w B v ps)
    (f : ∀ (e : TypeId) (s : Nat) (x : Value) (m : Nat) (xs : List Value), (e = 9 ∨ e = 43) → w.ownsRow B e s x m xs → w'.ownsRow B' e s x m xs) : MsgsOwn w' B' v ps :=
  ⟨f _ _ _ _ _ (by simp) h.1, fun p hp => f _ _ _ _ _ (by simp) (h.2 p hp)⟩
theorem MsgsOwn.other {w : World} {B : Nat} {v : Value} {ps : List (MsgM × Value)} (h : MsgsOwn w B v ps) {a : Addr} (ha : a.block < B) (x : Value) : MsgsOwn (w.setCell a x) B v ps :=
  h.map fun _ _ _ _ _ _ r => ownsRow_setCell_below r ha x
theorem MsgsOwn.base {w : World} {B B' : Nat} {v : Value} {ps : List (MsgM × Value)} (h : MsgsOwn w B v ps) (hb : B' ≤ B) : MsgsOwn w B' v ps :=
  h.map fun _ _ _ _ _ _ r => own_base r hb
theorem MsgsOwn.below {w w' : World} {B : Nat} {v : Value} {ps : List (MsgM × Value)} (h : MsgsOwn w B v ps) (hb : Below w.heap.size w w') : MsgsOwn w' B v ps :=
  h.map fun _ _ _ _ _ _ r => own_below r hb (own_lt r)
theorem MsgsOwn.type {w : World} {B b : Nat} {v : Value} {ps : List (MsgM × Value)} {t : TypeId} {cs : List Value} (h : MsgsOwn w B v ps) (hb : Box w b t cs)
    (h1 : 9 ≠ t) (h2 : 43 ≠ t) (i : Nat) (x : Value) : MsgsOwn (w.setCell ⟨b, i, none⟩ x) B v ps :=
  h.map fun e _ _ _ _ he r => own_other r (own_type r hb (by rcases he with rfl | rfl <;> assumption)) x

end Go.Proofs.YtmdgkjbiicaljagDoor
