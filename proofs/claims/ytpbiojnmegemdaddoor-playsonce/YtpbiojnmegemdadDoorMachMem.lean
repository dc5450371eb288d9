/- How requests, lists of lasts and states lie in memory. -/
import Derived.Test.YtpbiojnmegemdadDoorVolMem
import Derived.Test.YtpbiojnmegemdadDoorMachMath
namespace Go.Proofs.YtpbiojnmegemdadDoor
open Go.RowKit Go.WideShapes
set_option linter.unusedVariables false
set_option linter.unusedSimpArgs false

def reqCells (r : ReqM) : List Value := [.int .i64 r.client, .int .i64 r.num, .int .i64 r.op.kind, .int .i64 r.op.place, .int .i64 r.op.snap, .string ⟨r.op.data.toArray⟩]
def reqVal (r : ReqM) : Value := .agg #[.int .i64 r.client, .int .i64 r.num, .int .i64 r.op.kind, .int .i64 r.op.place, .int .i64 r.op.snap, .string ⟨r.op.data.toArray⟩]

def lastCells (x : LastM) : List Value := [.int .i64 x.num, .int .i64 x.rep.code, .int .i64 x.rep.n, .string ⟨x.rep.data.toArray⟩]
def lastsCells (l : List LastM) : List Value := l.flatMap lastCells

theorem lastsCells_cons (x : LastM) (l : List LastM) : lastsCells (x :: l) = lastCells x ++ lastsCells l := rfl
theorem lastsCells_len (l : List LastM) : (lastsCells l).length = l.length * 4 := by
  induction l with
  | nil => rfl
  | cons x l ih => rw [lastsCells_cons, List.length_append, ih]; simp [lastCells]; omega

theorem lastsCells_get : ∀ (l : List LastM) (i j : Nat), i < l.length → j < 4 → (lastsCells l)[i * 4 + j]? = (lastCells (l.getD i zeroLast))[j]?
  | x :: l, 0, j, _, hj => by
    rw [lastsCells_cons, List.getElem?_append_left (by simp [lastCells]; omega)]
    simp
  | x :: l, i + 1, j, hi, hj => by
    rw [lastsCells_cons, List.getElem?_append_right (by simp [lastCells]; omega)]
    have : (i + 1) * 4 + j - (lastCells x).length = i * 4 + j := by simp [lastCells]; omega
    rw [this, lastsCells_get l i j (by simpa using hi) hj]
    simp

theorem lastsCells_set : ∀ (l : List LastM) (i : Nat) (x : LastM), lastsCells (l.set i x) = ((((lastsCells l).set (i * 4) (.int .i64 x.num)).set (i * 4 + 1) (.int .i64 x.rep.code)).set (i * 4 + 2) (.int .i64 x.rep.n)).set (i * 4 + 3) (.string ⟨x.rep.data.toArray⟩)
  | [], i, x => by simp [lastsCells]
  | y :: l, 0, x => by simp [lastsCells_cons, lastCells]
  | y :: l, i + 1, x => by
    have e0 : (i + 1) * 4 = i * 4 + 4 := by omega
    rw [List.set_cons_succ, lastsCells_cons, lastsCells_cons, lastsCells_set l i x, e0]
    simp [lastCells, Nat.add_assoc, Nat.add_right_comm]

theorem lastsCells_one (l : List LastM) : ∀ u ∈ lastsCells l, u.oneCell' = true := by
  intro u hu
  obtain ⟨x, _, hx⟩ := List.mem_flatMap.1 hu
  simp [lastCells] at hx
  rcases hx with rfl | rfl | rfl | rfl <;> rfl

/-- The value is a slice over lasts. -/
def LastsAt (w : World) (v : Value) (l : List LastM) : Prop :=
  ∃ a cap, v = .slice a l.length cap ∧ l.length * 40 ≤ 140737488355328 ∧ ∀ i, i < l.length → ∃ b o, a = some ⟨b, o, none⟩ ∧ w.cell? ⟨b, o + i * 4, none⟩ = some (.int .i64 (l.getD i zeroLast).num) ∧
    w.cell? ⟨b, o + i * 4 + 1, none⟩ = some (.int .i64 (l.getD i zeroLast).rep.code) ∧ w.cell? ⟨b, o + i * 4 + 2, none⟩ = some (.int .i64 (l.getD i zeroLast).rep.n) ∧
    w.cell? ⟨b, o + i * 4 + 3, none⟩ = some (.string ⟨(l.getD i zeroLast).rep.data.toArray⟩) ∧ (l.getD i zeroLast).rep.data.length ≤ 140737488355328

theorem LastsAt.below {w w' : World} {v : Value} {l : List LastM} (h : LastsAt w v l) (hb : Below w.heap.size w w') : LastsAt w' v l := by
  obtain ⟨a, cap, hv, hl, hc⟩ := h
  refine ⟨a, cap, hv, hl, fun i hi => ?_⟩
  obtain ⟨b, o, ha, c0, c1, c2, c3, hs⟩ := hc i hi
  have lt := lt_of_cell c0
  exact ⟨b, o, ha, (hb.cell (p := ⟨b, _, none⟩) lt).trans c0, (hb.cell (p := ⟨b, _, none⟩) lt).trans c1, (hb.cell (p := ⟨b, _, none⟩) lt).trans c2, (hb.cell (p := ⟨b, _, none⟩) lt).trans c3, hs⟩

theorem lastsCells_inv (l : List LastM) {k : Nat} {u : Value} (h : (lastsCells l)[k]? = some u) : ∃ i j, k = i * 4 + j ∧ j < 4 ∧ i < l.length ∧ (lastCells (l.getD i zeroLast))[j]? = some u := by
  have hk := (List.getElem?_eq_some_iff.1 h).1
  rw [lastsCells_len] at hk
  refine ⟨k / 4, k % 4, by omega, by omega, by omega, ?_⟩
  rw [← lastsCells_get l (k / 4) (k % 4) (by omega) (by omega), show k / 4 * 4 + k % 4 = k by omega]
  exact h

theorem LastsAt.row {w : World} {v : Value} {l : List LastM} (h : LastsAt w v l) : RowAt w v l.length 4 (lastsCells l) := by
  obtain ⟨a, cap, hv, hl, hc⟩ := h
  refine ⟨a, cap, hv, lastsCells_len l, fun k u hk => ?_⟩
  obtain ⟨i, j, rfl, hj, hi, hu⟩ := lastsCells_inv l hk
  obtain ⟨b, o, ha, c0, c1, c2, c3, _⟩ := hc i hi
  refine ⟨⟨b, o, none⟩, ha, ?_⟩
  rw [add_plain, ← Nat.add_assoc]
  match j, hj with
  | 0, _ => rw [Nat.add_zero, c0]; simpa [lastCells] using hu
  | 1, _ => rw [c1]; simpa [lastCells] using hu
  | 2, _ => rw [c2]; simpa [lastCells] using hu
  | 3, _ => rw [c3]; simpa [lastCells] using hu

theorem own_formN {w : World} {base size : Nat} {e : TypeId} {v : Value} {n : Nat} {xs : List Value} (h : w.ownsRow base e size v n xs) : ∃ a cap, v = .slice a n cap := by
  rcases h.2 with ⟨rfl, rfl⟩ | ⟨g, cap, cur, rfl, _⟩
  · exact ⟨_, _, rfl⟩
  · exact ⟨_, _, rfl⟩

theorem own_cellN {w : World} {base size : Nat} {e : TypeId} {v : Value} {n : Nat} {xs : List Value} (h : w.ownsRow base e size v n xs) (hs : 0 < size) (k : Nat) (hk : k < n * size) :
    ∃ g cap, v = .slice (some ⟨g, 0, none⟩) n cap ∧ base ≤ g ∧ n ≤ cap ∧ w.cell? ⟨g, k, none⟩ = xs[k]? ∧ w.frozen? ⟨g, k, none⟩ = false := by
  rcases h.2 with ⟨_, rfl⟩ | ⟨g, cap, cur, rfl, hb, hg, hn, hm, hc, hx⟩
  · have := h.1; simp at hk
  · refine ⟨g, cap, rfl, hb, hn, ?_, by simp [World.frozen?, hg]⟩
    rw [← hx]
    simp [World.cell?, hg, hk]

theorem LastsAt.of_own {w : World} {base : Nat} {e : TypeId} {v : Value} {l : List LastM} (h : w.ownsRow base e 4 v l.length (lastsCells l)) (h1 : l.length * 40 ≤ 140737488355328) (h2 : ∀ x ∈ l, x.rep.data.length ≤ 140737488355328) : LastsAt w v l := by
  obtain ⟨a, cap, hv⟩ := own_formN h
  refine ⟨a, cap, hv, h1, fun i hi => ?_⟩
  have key : ∀ j, j < 4 → ∃ g, a = some ⟨g, 0, none⟩ ∧ w.cell? ⟨g, 0 + i * 4 + j, none⟩ = (lastCells (l.getD i zeroLast))[j]? := fun j hj => by
    obtain ⟨g, cap', hv', _, _, hc, _⟩ := own_cellN h (by decide) (i * 4 + j) (by omega)
    rw [hv] at hv'
    cases hv'
    exact ⟨g, rfl, by rw [Nat.zero_add, hc, lastsCells_get l i j hi hj]⟩
  obtain ⟨g, ha, c0⟩ := key 0 (by decide)
  obtain ⟨g1, ha1, c1⟩ := key 1 (by decide)
  obtain ⟨g2, ha2, c2⟩ := key 2 (by decide)
  obtain ⟨g3, ha3, c3⟩ := key 3 (by decide)
  rw [ha] at ha1 ha2 ha3
  cases ha1
  cases ha2
  cases ha3
  have e1 : l.getD i zeroLast = l[i] := by simp [List.getD, hi]
  exact ⟨g, 0, ha, by simpa [lastCells] using c0, by simpa [lastCells] using c1, by simpa [lastCells] using c2, by simpa [lastCells] using c3, by rw [e1]; exact h2 _ (List.getElem_mem hi)⟩

theorem LastsAt.texts {w : World} {v : Value} {l : List LastM} (h : LastsAt w v l) : l.length * 40 ≤ 140737488355328 ∧ ∀ x ∈ l, x.rep.data.length ≤ 140737488355328 := by
  obtain ⟨a, cap, hv, hl, hc⟩ := h
  refine ⟨hl, fun x hx => ?_⟩
  obtain ⟨i, hi, rfl⟩ := List.mem_iff_getElem.1 hx
  obtain ⟨_, _, _, _, _, _, _, hs⟩ := hc i hi
  simpa [List.getD, hi] using hs

/-- The value is a state. -/
def StAt (w : World) (v : Value) (S : StateM) : Prop := ∃ vn vs vl, v = .agg #[vn, vs, vl] ∧ VolAt w (.agg #[vn, vs]) S.vol ∧ LastsAt w vl S.lasts
theorem StAt.below {w w' : World} {v : Value} {S : StateM} (h : StAt w v S) (hb : Below w.heap.size w w') : StAt w' v S := by
  obtain ⟨vn, vs, vl, hv, h1, h2⟩ := h
  exact ⟨vn, vs, vl, hv, h1.below hb, h2.below hb⟩

/-- A state in memory of the call's own, from block B on. -/
def StNew (w : World) (B : Nat) (v : Value) (S : StateM) : Prop :=
  ∃ vn vs vl, v = .agg #[vn, vs, vl] ∧ VolNew w B (.agg #[vn, vs]) S.vol ∧ w.ownsRow B 51 4 vl S.lasts.length (lastsCells S.lasts)
theorem StNew.below {w w' : World} {B : Nat} {v : Value} {S : StateM} (h : StNew w B v S) (hb : Below w.heap.size w w') : StNew w' B v S := by
  obtain ⟨vn, vs, vl, hv, h1, h2⟩ := h
  exact ⟨vn, vs, vl, hv, h1.below hb, own_below h2 hb (own_lt h2)⟩
theorem StNew.base {w : World} {B B' : Nat} {v : Value} {S : StateM} (h : StNew w B v S) (hb : B' ≤ B) : StNew w B' v S := by
  obtain ⟨vn, vs, vl, hv, h1, h2⟩ := h
  exact ⟨vn, vs, vl, hv, h1.base hb, own_base h2 hb⟩
theorem StNew.other {w : World} {B : Nat} {v : Value} {S : StateM} (h : StNew w B v S) {a : Addr} (ha : a.block < B) (x : Value) : StNew (w.setCell a x) B v S := by
  obtain ⟨vn, vs, vl, hv, h1, h2⟩ := h
  exact ⟨vn, vs, vl, hv, h1.other ha x, ownsRow_setCell_below h2 ha x⟩
theorem StNew.drew {w : World} {B : Nat} {v : Value} {S : StateM} (h : StNew w B v S) : StNew w.drew B v S := h
theorem StNew.form {w : World} {B : Nat} {v : Value} {S : StateM} (h : StNew w B v S) : ∃ a c a' c' a'' c'', v = .agg #[.slice a S.vol.now.length c, .slice a' S.vol.snaps.length c', .slice a'' S.lasts.length c''] := by
  obtain ⟨vn, vs, vl, rfl, h1, h2⟩ := h
  obtain ⟨a, c, a', c', hv⟩ := h1.form
  cases hv
  obtain ⟨a'', c'', rfl⟩ := own_formN h2
  exact ⟨_, _, _, _, _, _, rfl⟩

/-- Sizes within the form's own reach. -/
structure StFits (S : StateM) : Prop where
  vol : VolFits S.vol
  now : ∀ s ∈ S.vol.now, s.length ≤ 140737488355328
  snaps : ∀ l ∈ S.vol.snaps, ∀ s ∈ l, s.length ≤ 140737488355328
  lasts : S.lasts.length * 40 ≤ 140737488355328
  texts : ∀ x ∈ S.lasts, x.rep.data.length ≤ 140737488355328

theorem StNew.at {w : World} {B : Nat} {v : Value} {S : StateM} (h : StNew w B v S) (hz : StFits S) : StAt w v S := by
  obtain ⟨vn, vs, vl, hv, h1, h2⟩ := h
  exact ⟨vn, vs, vl, hv, h1.at hz.vol hz.now hz.snaps, LastsAt.of_own h2 hz.lasts hz.texts⟩
theorem StAt.fits {w : World} {v : Value} {S : StateM} (h : StAt w v S) (hf : VolFits S.vol) : StFits S := by
  obtain ⟨vn, vs, vl, hv, h1, h2⟩ := h
  exact ⟨hf, h1.texts.1, h1.texts.2, h2.texts.1, h2.texts.2⟩
theorem zeroSt_fits : StFits zeroSt := ⟨⟨by decide, by decide, fun l hl => by simp [zeroSt] at hl⟩, fun l hl => by simp [zeroSt] at hl, fun l hl => by simp [zeroSt] at hl, by decide, fun l hl => by simp [zeroSt] at hl⟩
theorem StNew.nil (w : World) (B : Nat) : StNew w B (.agg #[.slice none 0 0, .slice none 0 0, .slice none 0 0]) zeroSt :=
  ⟨_, _, _, rfl, VolNew.nil w B, World.ownsRow_nil _ _ _ _⟩

def newSt : StateM := ⟨newVol, List.replicate 4 zeroLast⟩
theorem newSt_fits : StFits newSt := ⟨newVol_fits, fun s hs => by simp [newSt, newVol] at hs; simp [hs], fun l hl => by simp [newSt, newVol] at hl, by decide, fun x hx => by simp [newSt, zeroLast] at hx; simp [hx]⟩

end Go.Proofs.YtpbiojnmegemdadDoor
