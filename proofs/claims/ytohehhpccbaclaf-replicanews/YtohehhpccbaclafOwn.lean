/- Lists of strings that lie in memory of the call's own. -/
import Derived.Test.YtohehhpccbaclafRowlaw
import Derived.Deep.AppendLies
import Derived.Test.YtohehhpccbaclafMem
namespace Go.Proofs.Ytohehhpccbaclaf
open Go.RowKit Go.WideShapes

def enc (s : List UInt8) : Value := .string ⟨s.toArray⟩

theorem enc_one (l : List (List UInt8)) : ∀ u ∈ l.map enc, u.oneCell' = true := by
  intro u hu
  obtain ⟨s, _, rfl⟩ := List.mem_map.1 hu
  rfl

theorem Strs.row {w : World} {v : Value} {l : List (List UInt8)} (h : Strs w v l) : RowAt w v l.length 1 (l.map enc) := by
  obtain ⟨a, cap, hv, hl, hc⟩ := h
  refine ⟨a, cap, hv, by simp, fun j u hj => ?_⟩
  have hj' : j < l.length := by have := (List.getElem?_eq_some_iff.1 hj).1; simpa using this
  obtain ⟨b, o, ha, hcell, _⟩ := hc j hj'
  refine ⟨⟨b, o, none⟩, ha, ?_⟩
  rw [add_plain, hcell]
  simp [hj'] at hj
  rw [← hj]
  simp [enc, List.getD, hj']

theorem Strs.bounds {w : World} {v : Value} {l : List (List UInt8)} (h : Strs w v l) : l.length ≤ 140737488355328 ∧ ∀ s ∈ l, s.length ≤ 140737488355328 := by
  obtain ⟨a, cap, hv, hl, hc⟩ := h
  refine ⟨hl, fun s hs => ?_⟩
  obtain ⟨i, hi, rfl⟩ := List.mem_iff_getElem.1 hs
  obtain ⟨_, _, _, _, h2⟩ := hc i hi
  simpa [List.getD, hi] using h2

theorem own_cell {w : World} {base : Nat} {e : TypeId} {v : Value} {n : Nat} {xs : List Value} (h : w.ownsRow base e 1 v n xs) (i : Nat) (hi : i < n) :
    ∃ g cap, v = .slice (some ⟨g, 0, none⟩) n cap ∧ base ≤ g ∧ n ≤ cap ∧ w.cell? ⟨g, i, none⟩ = xs[i]? ∧ w.frozen? ⟨g, i, none⟩ = false := by
  rcases h.2 with ⟨_, h0⟩ | ⟨g, cap, cur, rfl, hb, hg, hn, hm, hc, hx⟩
  · omega
  · refine ⟨g, cap, rfl, hb, hn, ?_, by simp [World.frozen?, hg]⟩
    rw [← hx]
    simp [World.cell?, hg, hi]

theorem own_form {w : World} {base : Nat} {e : TypeId} {v : Value} {n : Nat} {xs : List Value} (h : w.ownsRow base e 1 v n xs) : ∃ a cap, v = .slice a n cap := by
  rcases h.2 with ⟨rfl, rfl⟩ | ⟨g, cap, cur, rfl, _⟩
  · exact ⟨_, _, rfl⟩
  · exact ⟨_, _, rfl⟩

theorem Strs.of_own {w : World} {base : Nat} {e : TypeId} {v : Value} {l : List (List UInt8)} (h : w.ownsRow base e 1 v l.length (l.map enc)) (h1 : l.length ≤ 140737488355328) (h2 : ∀ s ∈ l, s.length ≤ 140737488355328) : Strs w v l := by
  obtain ⟨a, cap, hv⟩ := own_form h
  refine ⟨a, cap, hv, h1, fun i hi => ?_⟩
  obtain ⟨g, cap', hv', _, _, hc, _⟩ := own_cell h i hi
  rw [hv] at hv'
  cases hv'
  have e1 : l.getD i [] = l[i] := by simp [List.getD, hi]
  refine ⟨g, 0, rfl, ?_, by rw [e1]; exact h2 _ (List.getElem_mem hi)⟩
  rw [Nat.zero_add, hc, e1]
  simp [hi, enc]

/-- What a call owns stays while nothing but new memory, or another block, is written. -/
theorem own_below {w w' : World} {base B : Nat} {e : TypeId} {size : Nat} {v : Value} {n : Nat} {xs : List Value} (h : w.ownsRow base e size v n xs) (hb : Below B w w') (hlt : ∀ k, v.ownBlock = some k → k < B) : w'.ownsRow base e size v n xs := by
  refine ⟨h.1, ?_⟩
  rcases h.2 with h2 | ⟨g, cap, cur, rfl, h3, hg, r⟩
  · exact Or.inl h2
  · exact Or.inr ⟨g, cap, cur, rfl, h3, by rw [hb.block g (hlt g rfl)]; exact hg, r⟩

theorem own_lt {w : World} {base : Nat} {e : TypeId} {size : Nat} {v : Value} {n : Nat} {xs : List Value} (h : w.ownsRow base e size v n xs) (k : Nat) (hk : v.ownBlock = some k) : k < w.heap.size := by
  rcases h.2 with ⟨rfl, _⟩ | ⟨g, cap, cur, rfl, h3, hg, r⟩
  · cases hk
  · cases hk
    exact (Array.getElem?_eq_some_iff.1 hg).1

theorem own_base {w : World} {base base' : Nat} {e : TypeId} {size : Nat} {v : Value} {n : Nat} {xs : List Value} (h : w.ownsRow base e size v n xs) (hb : base' ≤ base) : w.ownsRow base' e size v n xs := by
  refine ⟨h.1, ?_⟩
  rcases h.2 with h2 | ⟨g, cap, cur, rfl, h3, hg, r⟩
  · exact Or.inl h2
  · exact Or.inr ⟨g, cap, cur, rfl, by omega, hg, r⟩

theorem own_ge {w : World} {base : Nat} {e : TypeId} {size : Nat} {v : Value} {n : Nat} {xs : List Value} (h : w.ownsRow base e size v n xs) (k : Nat) (hk : v.ownBlock = some k) : base ≤ k := by
  rcases h.2 with ⟨rfl, _⟩ | ⟨g, cap, cur, rfl, h3, hg, r⟩
  · cases hk
  · cases hk; exact h3

/-- A block below the base is none of an owned row's. -/
theorem own_far {w : World} {base : Nat} {e : TypeId} {size : Nat} {v : Value} {n : Nat} {xs : List Value} (h : w.ownsRow base e size v n xs) (b : Nat) (hb : b < base) : some b ≠ v.ownBlock := fun e => by
  have := own_ge h b e.symm; omega

/-- One value in a block of its own, as a slice of one. -/
theorem RowAt.one (w : World) (u : Value) (t : TypeId) : RowAt (w.alloc (.cells #[u] t)) (.slice (some ⟨w.heap.size, 0, none⟩) 1 1) 1 1 [u] := by
  refine ⟨_, _, rfl, rfl, fun j x hj => ⟨_, rfl, ?_⟩⟩
  have hj0 : j = 0 := by have := (List.getElem?_eq_some_iff.1 hj).1; simpa using this
  subst hj0
  simp at hj
  subst hj
  rw [add_plain, World.cell?_alloc_new]
  rfl

/-- A store into an owned row. -/
theorem own_set {w : World} {base : Nat} {e : TypeId} {size g n cap : Nat} {xs : List Value} (h : w.ownsRow base e size (.slice (some ⟨g, 0, none⟩) n cap) n xs) (i : Nat) (u : Value) :
    (w.setCell ⟨g, i, none⟩ u).ownsRow base e size (.slice (some ⟨g, 0, none⟩) n cap) n (xs.set i u) := by
  refine ⟨by rw [List.length_set]; exact h.1, ?_⟩
  rcases h.2 with ⟨hx, _⟩ | ⟨g', cap', cur, hv, hb, hg, hn, hm, hc, hx⟩
  · cases hx
  · cases hv
    refine Or.inr ⟨g, cap, cur.set! i u, rfl, hb, ?_, hn, hm, by simp [hc], ?_⟩
    · simp [World.setCell, Array.getElem?_modify, hg]
    · rw [← hx]
      simp [List.take_set]

theorem own_other {w : World} {base : Nat} {e : TypeId} {size : Nat} {v : Value} {n : Nat} {xs : List Value} (h : w.ownsRow base e size v n xs) {a : Addr} (ha : v.ownBlock ≠ some a.block) (u : Value) : (w.setCell a u).ownsRow base e size v n xs := by
  refine ⟨h.1, ?_⟩
  rcases h.2 with h2 | ⟨g, cap, cur, rfl, h3, hg, r⟩
  · exact Or.inl h2
  · exact Or.inr ⟨g, cap, cur, rfl, h3, by rw [Below.heap_setCell _ _ _ _ (fun e => ha (by rw [e]; rfl))]; exact hg, r⟩

theorem own_drew {w : World} {base : Nat} {e : TypeId} {size : Nat} {v : Value} {n : Nat} {xs : List Value} (h : w.ownsRow base e size v n xs) : w.drew.ownsRow base e size v n xs := h

/-- A block known whole, as a slice of all of it. -/
theorem own_box {w : World} {g base : Nat} {e : TypeId} {xs : List Value} (h : Box w g e xs) (hb : base ≤ g) (n size : Nat) (hl : xs.length = n * size) (hm : n ≤ maxLen) : w.ownsRow base e size (.slice (some ⟨g, 0, none⟩) n n) n xs :=
  ⟨hl, Or.inr ⟨g, n, xs.toArray, rfl, hb, h, Nat.le_refl _, hm, by simpa using hl, by rw [← hl]; simp⟩⟩

end Go.Proofs.Ytohehhpccbaclaf
