/- How lists of strings lie in memory, and what keeps them there. -/
import Derived.Test.YtmdgkjbiicaljagDoorJointRegRow
import Derived.Test.YtmdgkjbiicaljagDoorRowlaw
import Derived.Deep.AppendLies
import Derived.Deep.RegionLaw
import Derived.BigRegion
import Derived.Test.YtmdgkjbiicaljagDoorStageMath
namespace Go.Proofs.YtmdgkjbiicaljagDoor
open Go.RowKit

/-- The value is a slice over the strings l. -/
def Strs (w : World) (v : Value) (l : List (List UInt8)) : Prop :=
  ∃ a cap, v = .slice a l.length cap ∧ l.length ≤ 140737488355328 ∧ ∀ i, i < l.length → ∃ b o, a = some ⟨b, o, none⟩ ∧ w.cell? ⟨b, o + i, none⟩ = some (.string ⟨(l.getD i []).toArray⟩) ∧ (l.getD i []).length ≤ 140737488355328

theorem Strs.drewN {w : World} {v : Value} {l : List (List UInt8)} (h : Strs w v l) (n : Nat) : Strs (w.drewN n) v l := h

theorem lt_of_cell {w : World} {b o : Nat} {v : Value} (h : w.cell? ⟨b, o, none⟩ = some v) : b < w.heap.size := by
  unfold World.cell? at h
  by_cases hb : b < w.heap.size
  · exact hb
  · simp [Array.getElem?_eq_none (Nat.le_of_not_lt hb)] at h

theorem Strs.below {w w' : World} {v : Value} {l : List (List UInt8)} (h : Strs w v l) (hb : Below w.heap.size w w') : Strs w' v l := by
  obtain ⟨a, cap, hv, hl, hc⟩ := h
  refine ⟨a, cap, hv, hl, fun i hi => ?_⟩
  obtain ⟨b, o, ha, hcell, hs⟩ := hc i hi
  exact ⟨b, o, ha, by rw [hb.cell (p := ⟨b, o + i, none⟩) (lt_of_cell hcell)]; exact hcell, hs⟩

/-- The value is a slice over lists of strings. -/
def Strss (w : World) (v : Value) (ll : List (List (List UInt8))) : Prop :=
  ∃ a cap, v = .slice a ll.length cap ∧ ll.length ≤ 140737488355328 ∧ ∀ i, i < ll.length → ∃ b o u, a = some ⟨b, o, none⟩ ∧ w.cell? ⟨b, o + i, none⟩ = some u ∧ Strs w u (ll.getD i [])

theorem Strss.below {w w' : World} {v : Value} {l : List (List (List UInt8))} (h : Strss w v l) (hb : Below w.heap.size w w') : Strss w' v l := by
  obtain ⟨a, cap, hv, hl, hc⟩ := h
  refine ⟨a, cap, hv, hl, fun i hi => ?_⟩
  obtain ⟨b, o, u, ha, hcell, hs⟩ := hc i hi
  exact ⟨b, o, u, ha, by rw [hb.cell (p := ⟨b, o + i, none⟩) (lt_of_cell hcell)]; exact hcell, hs.below hb⟩

theorem take_next {α : Type} {x y : List α} {k : Nat} {d : α} (h : x.take k = y.take k) (hx : k < x.length) (hy : k < y.length) (e : x.getD k d = y.getD k d) : x.take (k + 1) = y.take (k + 1) := by
  rw [List.take_succ_eq_append_getElem hx, List.take_succ_eq_append_getElem hy, h]
  simp [List.getD, hx, hy] at e
  rw [e]

end Go.Proofs.YtmdgkjbiicaljagDoor

/- Lists of strings that lie in memory of the call's own. -/
namespace Go.Proofs.YtmdgkjbiicaljagDoor
open Go.RowKit Go.WideShapes

def enc (s : List UInt8) : Value := .string ⟨s.toArray⟩

theorem enc_one (l : List (List UInt8)) : ∀ u ∈ l.map enc, u.oneCell' = true := by
  intro u hu
  obtain ⟨s, _, rfl⟩ := List.mem_map.1 hu
  rfl

theorem Strs.row {w : World} {v : Value} {l : List (List UInt8)} (h : Strs w v l) : RowAt w v l.length 1 (l.map enc) := by
  obtain ⟨a, cap, hv, hl, hc⟩ := h
  refine ⟨a, cap, hv, by simp, fun j u hj => ?_⟩
  have hj' : j < l.length := by have := (List.getElem?_eq_some_iff.1 hj).1; simpa using this
  obtain ⟨b, o, ha, hcell, _⟩ := hc j hj'
  refine ⟨⟨b, o, none⟩, ha, ?_⟩
  rw [add_plain, hcell]
  simp [hj'] at hj
  rw [← hj]
  simp [enc, List.getD, hj']

theorem Strs.bounds {w : World} {v : Value} {l : List (List UInt8)} (h : Strs w v l) : l.length ≤ 140737488355328 ∧ ∀ s ∈ l, s.length ≤ 140737488355328 := by
  obtain ⟨a, cap, hv, hl, hc⟩ := h
  refine ⟨hl, fun s hs => ?_⟩
  obtain ⟨i, hi, rfl⟩ := List.mem_iff_getElem.1 hs
  obtain ⟨_, _, _, _, h2⟩ := hc i hi
  simpa [List.getD, hi] using h2

theorem own_cell {w : World} {base : Nat} {e : TypeId} {v : Value} {n : Nat} {xs : List Value} (h : w.ownsRow base e 1 v n xs) (i : Nat) (hi : i < n) :
    ∃ g cap, v = .slice (some ⟨g, 0, none⟩) n cap ∧ base ≤ g ∧ n ≤ cap ∧ w.cell? ⟨g, i, none⟩ = xs[i]? ∧ w.frozen? ⟨g, i, none⟩ = false := by
  rcases h.2 with ⟨_, h0⟩ | ⟨g, cap, cur, rfl, hb, hg, hn, hm, hc, hx⟩
  · omega
  · refine ⟨g, cap, rfl, hb, hn, ?_, by simp [World.frozen?, hg]⟩
    rw [← hx]
    simp [World.cell?, hg, hi]

theorem own_form {w : World} {base : Nat} {e : TypeId} {v : Value} {n : Nat} {xs : List Value} (h : w.ownsRow base e 1 v n xs) : ∃ a cap, v = .slice a n cap := by
  rcases h.2 with ⟨rfl, rfl⟩ | ⟨g, cap, cur, rfl, _⟩
  · exact ⟨_, _, rfl⟩
  · exact ⟨_, _, rfl⟩

theorem Strs.of_own {w : World} {base : Nat} {e : TypeId} {v : Value} {l : List (List UInt8)} (h : w.ownsRow base e 1 v l.length (l.map enc)) (h1 : l.length ≤ 140737488355328) (h2 : ∀ s ∈ l, s.length ≤ 140737488355328) : Strs w v l := by
  obtain ⟨a, cap, hv⟩ := own_form h
  refine ⟨a, cap, hv, h1, fun i hi => ?_⟩
  obtain ⟨g, cap', hv', _, _, hc, _⟩ := own_cell h i hi
  rw [hv] at hv'
  cases hv'
  have e1 : l.getD i [] = l[i] := by simp [List.getD, hi]
  refine ⟨g, 0, rfl, ?_, by rw [e1]; exact h2 _ (List.getElem_mem hi)⟩
  rw [Nat.zero_add, hc, e1]
  simp [hi, enc]

/-- What a call owns stays while nothing but new memory, or another block, is written. -/
theorem own_below {w w' : World} {base B : Nat} {e : TypeId} {size : Nat} {v : Value} {n : Nat} {xs : List Value} (h : w.ownsRow base e size v n xs) (hb : Below B w w') (hlt : ∀ k, v.ownBlock = some k → k < B) : w'.ownsRow base e size v n xs := by
  refine ⟨h.1, ?_⟩
  rcases h.2 with h2 | ⟨g, cap, cur, rfl, h3, hg, r⟩
  · exact Or.inl h2
  · exact Or.inr ⟨g, cap, cur, rfl, h3, by rw [hb.block g (hlt g rfl)]; exact hg, r⟩

theorem own_lt {w : World} {base : Nat} {e : TypeId} {size : Nat} {v : Value} {n : Nat} {xs : List Value} (h : w.ownsRow base e size v n xs) (k : Nat) (hk : v.ownBlock = some k) : k < w.heap.size := by
  rcases h.2 with ⟨rfl, _⟩ | ⟨g, cap, cur, rfl, h3, hg, r⟩
  · cases hk
  · cases hk
    exact (Array.getElem?_eq_some_iff.1 hg).1

theorem own_base {w : World} {base base' : Nat} {e : TypeId} {size : Nat} {v : Value} {n : Nat} {xs : List Value} (h : w.ownsRow base e size v n xs) (hb : base' ≤ base) : w.ownsRow base' e size v n xs := by
  refine ⟨h.1, ?_⟩
  rcases h.2 with h2 | ⟨g, cap, cur, rfl, h3, hg, r⟩
  · exact Or.inl h2
  · exact Or.inr ⟨g, cap, cur, rfl, by omega, hg, r⟩

theorem own_ge {w : World} {base : Nat} {e : TypeId} {size : Nat} {v : Value} {n : Nat} {xs : List Value} (h : w.ownsRow base e size v n xs) (k : Nat) (hk : v.ownBlock = some k) : base ≤ k := by
  rcases h.2 with ⟨rfl, _⟩ | ⟨g, cap, cur, rfl, h3, hg, r⟩
  · cases hk
  · cases hk; exact h3

/-- A block below the base is none of an owned row's. -/
theorem own_far {w : World} {base : Nat} {e : TypeId} {size : Nat} {v : Value} {n : Nat} {xs : List Value} (h : w.ownsRow base e size v n xs) (b : Nat) (hb : b < base) : some b ≠ v.ownBlock := fun e => by
  have := own_ge h b e.symm; omega

/-- One value in a block of its own, as a slice of one. -/
theorem RowAt.one (w : World) (u : Value) (t : TypeId) : RowAt (w.alloc (.cells #[u] t)) (.slice (some ⟨w.heap.size, 0, none⟩) 1 1) 1 1 [u] := by
  refine ⟨_, _, rfl, rfl, fun j x hj => ⟨_, rfl, ?_⟩⟩
  have hj0 : j = 0 := by have := (List.getElem?_eq_some_iff.1 hj).1; simpa using this
  subst hj0
  simp at hj
  subst hj
  rw [add_plain, World.cell?_alloc_new]
  rfl

/-- A store into an owned row. -/
theorem own_set {w : World} {base : Nat} {e : TypeId} {size g n cap : Nat} {xs : List Value} (h : w.ownsRow base e size (.slice (some ⟨g, 0, none⟩) n cap) n xs) (i : Nat) (u : Value) :
    (w.setCell ⟨g, i, none⟩ u).ownsRow base e size (.slice (some ⟨g, 0, none⟩) n cap) n (xs.set i u) := by
  refine ⟨by rw [List.length_set]; exact h.1, ?_⟩
  rcases h.2 with ⟨hx, _⟩ | ⟨g', cap', cur, hv, hb, hg, hn, hm, hc, hx⟩
  · cases hx
  · cases hv
    refine Or.inr ⟨g, cap, cur.set! i u, rfl, hb, ?_, hn, hm, by simp [hc], ?_⟩
    · simp [World.setCell, Array.getElem?_modify, hg]
    · rw [← hx]
      simp [List.take_set]

theorem own_other {w : World} {base : Nat} {e : TypeId} {size : Nat} {v : Value} {n : Nat} {xs : List Value} (h : w.ownsRow base e size v n xs) {a : Addr} (ha : v.ownBlock ≠ some a.block) (u : Value) : (w.setCell a u).ownsRow base e size v n xs := by
  refine ⟨h.1, ?_⟩
  rcases h.2 with h2 | ⟨g, cap, cur, rfl, h3, hg, r⟩
  · exact Or.inl h2
  · exact Or.inr ⟨g, cap, cur, rfl, h3, by rw [Below.heap_setCell _ _ _ _ (fun e => ha (by rw [e]; rfl))]; exact hg, r⟩

theorem own_drew {w : World} {base : Nat} {e : TypeId} {size : Nat} {v : Value} {n : Nat} {xs : List Value} (h : w.ownsRow base e size v n xs) : w.drew.ownsRow base e size v n xs := h

/-- A block known whole, as a slice of all of it. -/
theorem own_box {w : World} {g base : Nat} {e : TypeId} {xs : List Value} (h : Box w g e xs) (hb : base ≤ g) (n size : Nat) (hl : xs.length = n * size) (hm : n ≤ maxLen) : w.ownsRow base e size (.slice (some ⟨g, 0, none⟩) n n) n xs :=
  ⟨hl, Or.inr ⟨g, n, xs.toArray, rfl, hb, h, Nat.le_refl _, hm, by simpa using hl, by rw [← hl]; simp⟩⟩

end Go.Proofs.YtmdgkjbiicaljagDoor

/- Blocks laid by a call at its start; rows of a call's own; calls inside regions that draw their order. -/
namespace Go.Proofs.YtmdgkjbiicaljagDoor
open Go.RowKit
set_option linter.unusedVariables false
set_option linter.unusedSimpArgs false

theorem infoStr : Tryd.prog.info? 9 = some Tryd.t9 := by kernel_rfl

theorem zeroStr : Tryd.t9.zero = some (.string ⟨#[]⟩) := by kernel_rfl

theorem sizeStr : Tryd.t9.size = 1 := by kernel_rfl

theorem bytesStr : Tryd.t9.bytes = 16 := by kernel_rfl

theorem boxes2 (w : World) (t0 t1 : TypeId) (c0 c1 : List Value) :
    Box ((w.alloc (.cells c0.toArray t0)).alloc (.cells c1.toArray t1)) w.heap.size t0 c0 ∧
    Box ((w.alloc (.cells c0.toArray t0)).alloc (.cells c1.toArray t1)) (w.heap.size + 1) t1 c1 ∧
    Below w.heap.size w ((w.alloc (.cells c0.toArray t0)).alloc (.cells c1.toArray t1)) := by
  refine ⟨(Box.new w _ _).alloc _, ?_, below_alloc2 w _ _⟩
  have := Box.new (w.alloc (.cells c0.toArray t0)) t1 c1
  simp at this
  exact this

theorem boxes3 (w : World) (t0 t1 t2 : TypeId) (c0 c1 c2 : List Value) :
    Box (((w.alloc (.cells c0.toArray t0)).alloc (.cells c1.toArray t1)).alloc (.cells c2.toArray t2)) w.heap.size t0 c0 ∧
    Box (((w.alloc (.cells c0.toArray t0)).alloc (.cells c1.toArray t1)).alloc (.cells c2.toArray t2)) (w.heap.size + 1) t1 c1 ∧
    Box (((w.alloc (.cells c0.toArray t0)).alloc (.cells c1.toArray t1)).alloc (.cells c2.toArray t2)) (w.heap.size + 1 + 1) t2 c2 ∧
    Below w.heap.size w (((w.alloc (.cells c0.toArray t0)).alloc (.cells c1.toArray t1)).alloc (.cells c2.toArray t2)) := by
  refine ⟨((Box.new w _ _).alloc _).alloc _, ?_, ?_, ?_⟩
  · have := Box.new (w.alloc (.cells c0.toArray t0)) t1 c1
    simp at this
    exact this.alloc _
  · have := Box.new ((w.alloc (.cells c0.toArray t0)).alloc (.cells c1.toArray t1)) t2 c2
    simp at this
    exact this
  · exact (below_alloc2 w _ _).alloc (by simp; omega) _

/-- Four blocks laid by a call at its start. -/
theorem boxes4 (w : World) (t0 t1 t2 t3 : TypeId) (c0 c1 c2 c3 : List Value) :
    Box ((((w.alloc (.cells c0.toArray t0)).alloc (.cells c1.toArray t1)).alloc (.cells c2.toArray t2)).alloc (.cells c3.toArray t3)) w.heap.size t0 c0 ∧
    Box ((((w.alloc (.cells c0.toArray t0)).alloc (.cells c1.toArray t1)).alloc (.cells c2.toArray t2)).alloc (.cells c3.toArray t3)) (w.heap.size + 1) t1 c1 ∧
    Box ((((w.alloc (.cells c0.toArray t0)).alloc (.cells c1.toArray t1)).alloc (.cells c2.toArray t2)).alloc (.cells c3.toArray t3)) (w.heap.size + 1 + 1) t2 c2 ∧
    Box ((((w.alloc (.cells c0.toArray t0)).alloc (.cells c1.toArray t1)).alloc (.cells c2.toArray t2)).alloc (.cells c3.toArray t3)) (w.heap.size + 1 + 1 + 1) t3 c3 ∧
    Below w.heap.size w ((((w.alloc (.cells c0.toArray t0)).alloc (.cells c1.toArray t1)).alloc (.cells c2.toArray t2)).alloc (.cells c3.toArray t3)) := by
  refine ⟨(((Box.new w _ _).alloc _).alloc _).alloc _, ?_, ?_, ?_, ?_⟩
  · have := Box.new (w.alloc (.cells c0.toArray t0)) t1 c1
    simp at this
    exact (this.alloc _).alloc _
  · have := Box.new ((w.alloc (.cells c0.toArray t0)).alloc (.cells c1.toArray t1)) t2 c2
    simp at this
    exact this.alloc _
  · have := Box.new (((w.alloc (.cells c0.toArray t0)).alloc (.cells c1.toArray t1)).alloc (.cells c2.toArray t2)) t3 c3
    simp at this
    exact this
  · exact (((below_alloc2 w _ _).alloc (by simp; omega) _).alloc (by simp; omega) _)

theorem own_formN {w : World} {base size : Nat} {e : TypeId} {v : Value} {n : Nat} {xs : List Value} (h : w.ownsRow base e size v n xs) : ∃ a cap, v = .slice a n cap := by
  rcases h.2 with ⟨rfl, rfl⟩ | ⟨g, cap, cur, rfl, _⟩
  · exact ⟨_, _, rfl⟩
  · exact ⟨_, _, rfl⟩

theorem own_cellN {w : World} {base size : Nat} {e : TypeId} {v : Value} {n : Nat} {xs : List Value} (h : w.ownsRow base e size v n xs) (hs : 0 < size) (k : Nat) (hk : k < n * size) :
    ∃ g cap, v = .slice (some ⟨g, 0, none⟩) n cap ∧ base ≤ g ∧ n ≤ cap ∧ w.cell? ⟨g, k, none⟩ = xs[k]? ∧ w.frozen? ⟨g, k, none⟩ = false := by
  rcases h.2 with ⟨_, rfl⟩ | ⟨g, cap, cur, rfl, hb, hg, hn, hm, hc, hx⟩
  · have := h.1; simp at hk
  · refine ⟨g, cap, rfl, hb, hn, ?_, by simp [World.frozen?, hg]⟩
    rw [← hx]
    simp [World.cell?, hg, hk]

/-- A call of a Go function at a step of a region that draws its order. -/
theorem step_go {P : Program} (w : World) {ops : Array Oper} {o : Oper} {a : Act} {K : Act → World → Prop} {Q : Exit → Act → World → Prop} {E : Prop} (hgd : o.guard = none) (f : FuncId) (args : List Operand) (ts : Array TypeId)
    (ho : o.op = .call { callee := .value (.func f), args := args.toArray, argTypes := ts }) (vs : List Value) (hv : args.map a.eval = vs) (hcf : ∀ us w, (callFunc f us).run P w = .ok (.enter f us) w) (R : Value → World → Prop)
    (hc : Calls P f vs.toArray w fun e w' => ∃ v', e = .returned v' ∧ R v' w') (h : ∀ v' w', R v' w' → K (a.put o.dst v') w') :
    if Region.wanted o (yielded ops a.tmps) = true then Oper.wp P o a w K Q else E := by
  rw [if_pos (by simp [Region.wanted, hgd])]
  unfold Oper.wp execOp
  simp only [ho, resolve, invoke, Act.eval, go_sem, Sem.run_bind, Sem.run_pure, Result.andThen_ok, List.map_toArray, hv]
  rw [hcf]
  unfold Oper.upon
  simp only [Array.empty_append, Array.append_empty]
  refine hc.mono ?_
  rintro e w' ⟨v', rfl, hr⟩
  exact h v' w' hr

theorem Below.up {w w' : World} (h : Below w.heap.size w w') (o : Obj) : Below w.heap.size w (w'.alloc o) := h.alloc h.size o

theorem Below.far {w w' w'' : World} (h : Below w.heap.size w w') (k : Below w'.heap.size w' w'') : Below w.heap.size w w'' := h.trans (k.mono h.size)

theorem own_type {w : World} {base : Nat} {e t : TypeId} {size : Nat} {v : Value} {n b : Nat} {xs cs : List Value} (h : w.ownsRow base e size v n xs) (hb : Box w b t cs) (hne : e ≠ t) : v.ownBlock ≠ some b := fun hv => by
  rcases h.2 with ⟨rfl, _⟩ | ⟨g, cap, cur, rfl, h3, hg, r⟩
  · cases hv
  · cases hv
    unfold Box at hb
    rw [hb] at hg
    injection hg with hg
    injection hg with _ h2
    exact hne h2.symm

theorem own_types {w : World} {base base' : Nat} {e e' : TypeId} {size size' : Nat} {v v' : Value} {n n' g : Nat} {xs xs' : List Value} (h : w.ownsRow base e size v n xs) (h' : w.ownsRow base' e' size' v' n' xs') (hne : e ≠ e') (hg : v'.ownBlock = some g) : v.ownBlock ≠ some g := fun hv => by
  rcases h.2 with ⟨rfl, _⟩ | ⟨g1, cap, cur, rfl, h3, hg1, r⟩
  · cases hv
  · cases hv
    rcases h'.2 with ⟨rfl, _⟩ | ⟨g2, cap2, cur2, rfl, h4, hg2, r2⟩
    · cases hg
    · cases hg
      rw [hg1] at hg2
      injection hg2 with hg2
      injection hg2 with _ h2
      exact hne h2

end Go.Proofs.YtmdgkjbiicaljagDoor

/- How what is kept lies in memory. -/
namespace Go.Proofs.YtmdgkjbiicaljagDoor
open Go.RowKit Go.WideShapes
set_option linter.unusedVariables false
set_option linter.unusedSimpArgs false

def keptCells (K : KeptM) (vl : Value) : List Value := [.int .i64 K.view, .int .i64 K.normal, .bool K.calm, vl, .int .i64 K.commit]
/-- The value is what is kept. -/
def KeptAt (w : World) (v : Value) (K : KeptM) : Prop := ∃ vl, v = .agg #[.int .i64 K.view, .int .i64 K.normal, .bool K.calm, vl, .int .i64 K.commit] ∧ Strs w vl K.log
theorem KeptAt.below {w w' : World} {v : Value} {K : KeptM} (h : KeptAt w v K) (hb : Below w.heap.size w w') : KeptAt w' v K := by
  obtain ⟨vl, hv, hl⟩ := h
  exact ⟨vl, hv, hl.below hb⟩
/-- In memory of the call's own, from block B on. -/
def KeptNew (w : World) (B : Nat) (v : Value) (K : KeptM) : Prop := ∃ vl, v = .agg #[.int .i64 K.view, .int .i64 K.normal, .bool K.calm, vl, .int .i64 K.commit] ∧ w.ownsRow B 9 1 vl K.log.length (K.log.map enc)
theorem KeptNew.below {w w' : World} {B : Nat} {v : Value} {K : KeptM} (h : KeptNew w B v K) (hb : Below w.heap.size w w') : KeptNew w' B v K := by
  obtain ⟨vl, hv, hl⟩ := h
  exact ⟨vl, hv, own_below hl hb (own_lt hl)⟩
theorem KeptNew.base {w : World} {B B' : Nat} {v : Value} {K : KeptM} (h : KeptNew w B v K) (hb : B' ≤ B) : KeptNew w B' v K := by
  obtain ⟨vl, hv, hl⟩ := h
  exact ⟨vl, hv, own_base hl hb⟩
theorem KeptNew.other {w : World} {B : Nat} {v : Value} {K : KeptM} (h : KeptNew w B v K) {a : Addr} (ha : a.block < B) (x : Value) : KeptNew (w.setCell a x) B v K := by
  obtain ⟨vl, hv, hl⟩ := h
  exact ⟨vl, hv, ownsRow_setCell_below hl ha x⟩
theorem KeptNew.nil (w : World) (B : Nat) : KeptNew w B (.agg #[.int .i64 0, .int .i64 0, .bool false, .slice none 0 0, .int .i64 0]) zeroKept := ⟨_, rfl, World.ownsRow_nil _ _ _ _⟩
theorem KeptNew.at {w : World} {B : Nat} {v : Value} {K : KeptM} (h : KeptNew w B v K) (h1 : K.log.length ≤ 140737488355328) (h2 : ∀ s ∈ K.log, s.length ≤ 140737488355328) : KeptAt w v K := by
  obtain ⟨vl, hv, hl⟩ := h
  exact ⟨vl, hv, Strs.of_own hl h1 h2⟩
theorem KeptAt.bounds {w : World} {v : Value} {K : KeptM} (h : KeptAt w v K) : K.log.length ≤ 140737488355328 ∧ ∀ s ∈ K.log, s.length ≤ 140737488355328 := by
  obtain ⟨vl, hv, hl⟩ := h
  exact hl.bounds
theorem KeptNew.form {w : World} {B : Nat} {v : Value} {K : KeptM} (h : KeptNew w B v K) : ∃ a c, v = .agg #[.int .i64 K.view, .int .i64 K.normal, .bool K.calm, .slice a K.log.length c, .int .i64 K.commit] := by
  obtain ⟨vl, hv, hl⟩ := h
  rcases hl.2 with ⟨rfl, h0⟩ | ⟨g, cap, cur, rfl, _⟩
  · exact ⟨none, 0, by rw [hv, h0]⟩
  · exact ⟨_, _, hv⟩
/-- A store into a block of another type. -/
theorem KeptNew.type {w : World} {B b : Nat} {v : Value} {K : KeptM} {t : TypeId} {cs : List Value} (h : KeptNew w B v K) (hb : Box w b t cs) (h1 : 9 ≠ t) (i : Nat) (x : Value) : KeptNew (w.setCell ⟨b, i, none⟩ x) B v K := by
  obtain ⟨vl, hv, hl⟩ := h
  exact ⟨vl, hv, own_other hl (own_type hl hb h1) x⟩

end Go.Proofs.YtmdgkjbiicaljagDoor
