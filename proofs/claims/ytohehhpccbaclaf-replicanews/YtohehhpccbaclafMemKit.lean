/- Blocks laid by a call at its start; rows of a call's own; calls inside regions that draw their order. -/
import Derived.Test.YtohehhpccbaclafOwn
import Derived.Deep.RegionLaw
import Derived.BigRegion
namespace Go.Proofs.Ytohehhpccbaclaf
open Go.RowKit
set_option linter.unusedVariables false
set_option linter.unusedSimpArgs false

theorem infoStr : Try.prog.info? 9 = some Try.t9 := by kernel_rfl

theorem zeroStr : Try.t9.zero = some (.string ⟨#[]⟩) := by kernel_rfl

theorem sizeStr : Try.t9.size = 1 := by kernel_rfl

theorem bytesStr : Try.t9.bytes = 16 := by kernel_rfl

theorem boxes2 (w : World) (t0 t1 : TypeId) (c0 c1 : List Value) :
    Box ((w.alloc (.cells c0.toArray t0)).alloc (.cells c1.toArray t1)) w.heap.size t0 c0 ∧
    Box ((w.alloc (.cells c0.toArray t0)).alloc (.cells c1.toArray t1)) (w.heap.size + 1) t1 c1 ∧
    Below w.heap.size w ((w.alloc (.cells c0.toArray t0)).alloc (.cells c1.toArray t1)) := by
  refine ⟨(Box.new w _ _).alloc _, ?_, below_alloc2 w _ _⟩
  have := Box.new (w.alloc (.cells c0.toArray t0)) t1 c1
  simp at this
  exact this

theorem boxes3 (w : World) (t0 t1 t2 : TypeId) (c0 c1 c2 : List Value) :
    Box (((w.alloc (.cells c0.toArray t0)).alloc (.cells c1.toArray t1)).alloc (.cells c2.toArray t2)) w.heap.size t0 c0 ∧
    Box (((w.alloc (.cells c0.toArray t0)).alloc (.cells c1.toArray t1)).alloc (.cells c2.toArray t2)) (w.heap.size + 1) t1 c1 ∧
    Box (((w.alloc (.cells c0.toArray t0)).alloc (.cells c1.toArray t1)).alloc (.cells c2.toArray t2)) (w.heap.size + 1 + 1) t2 c2 ∧
    Below w.heap.size w (((w.alloc (.cells c0.toArray t0)).alloc (.cells c1.toArray t1)).alloc (.cells c2.toArray t2)) := by
  refine ⟨((Box.new w _ _).alloc _).alloc _, ?_, ?_, ?_⟩
  · have := Box.new (w.alloc (.cells c0.toArray t0)) t1 c1
    simp at this
    exact this.alloc _
  · have := Box.new ((w.alloc (.cells c0.toArray t0)).alloc (.cells c1.toArray t1)) t2 c2
    simp at this
    exact this
  · exact (below_alloc2 w _ _).alloc (by simp; omega) _

/-- Four blocks laid by a call at its start. -/
theorem boxes4 (w : World) (t0 t1 t2 t3 : TypeId) (c0 c1 c2 c3 : List Value) :
    Box ((((w.alloc (.cells c0.toArray t0)).alloc (.cells c1.toArray t1)).alloc (.cells c2.toArray t2)).alloc (.cells c3.toArray t3)) w.heap.size t0 c0 ∧
    Box ((((w.alloc (.cells c0.toArray t0)).alloc (.cells c1.toArray t1)).alloc (.cells c2.toArray t2)).alloc (.cells c3.toArray t3)) (w.heap.size + 1) t1 c1 ∧
    Box ((((w.alloc (.cells c0.toArray t0)).alloc (.cells c1.toArray t1)).alloc (.cells c2.toArray t2)).alloc (.cells c3.toArray t3)) (w.heap.size + 1 + 1) t2 c2 ∧
    Box ((((w.alloc (.cells c0.toArray t0)).alloc (.cells c1.toArray t1)).alloc (.cells c2.toArray t2)).alloc (.cells c3.toArray t3)) (w.heap.size + 1 + 1 + 1) t3 c3 ∧
    Below w.heap.size w ((((w.alloc (.cells c0.toArray t0)).alloc (.cells c1.toArray t1)).alloc (.cells c2.toArray t2)).alloc (.cells c3.toArray t3)) := by
  refine ⟨(((Box.new w _ _).alloc _).alloc _).alloc _, ?_, ?_, ?_, ?_⟩
  · have := Box.new (w.alloc (.cells c0.toArray t0)) t1 c1
    simp at this
    exact (this.alloc _).alloc _
  · have := Box.new ((w.alloc (.cells c0.toArray t0)).alloc (.cells c1.toArray t1)) t2 c2
    simp at this
    exact this.alloc _
  · have := Box.new (((w.alloc (.cells c0.toArray t0)).alloc (.cells c1.toArray t1)).alloc (.cells c2.toArray t2)) t3 c3
    simp at this
    exact this
  · exact (((below_alloc2 w _ _).alloc (by simp; omega) _).alloc (by simp; omega) _)

theorem own_formN {w : World} {base size : Nat} {e : TypeId} {v : Value} {n : Nat} {xs : List Value} (h : w.ownsRow base e size v n xs) : ∃ a cap, v = .slice a n cap := by
  rcases h.2 with ⟨rfl, rfl⟩ | ⟨g, cap, cur, rfl, _⟩
  · exact ⟨_, _, rfl⟩
  · exact ⟨_, _, rfl⟩

theorem own_cellN {w : World} {base size : Nat} {e : TypeId} {v : Value} {n : Nat} {xs : List Value} (h : w.ownsRow base e size v n xs) (hs : 0 < size) (k : Nat) (hk : k < n * size) :
    ∃ g cap, v = .slice (some ⟨g, 0, none⟩) n cap ∧ base ≤ g ∧ n ≤ cap ∧ w.cell? ⟨g, k, none⟩ = xs[k]? ∧ w.frozen? ⟨g, k, none⟩ = false := by
  rcases h.2 with ⟨_, rfl⟩ | ⟨g, cap, cur, rfl, hb, hg, hn, hm, hc, hx⟩
  · have := h.1; simp at hk
  · refine ⟨g, cap, rfl, hb, hn, ?_, by simp [World.frozen?, hg]⟩
    rw [← hx]
    simp [World.cell?, hg, hk]

/-- A call of a Go function at a step of a region that draws its order. -/
theorem step_go {P : Program} (w : World) {ops : Array Oper} {o : Oper} {a : Act} {K : Act → World → Prop} {Q : Exit → Act → World → Prop} {E : Prop} (hgd : o.guard = none) (f : FuncId) (args : List Operand) (ts : Array TypeId)
    (ho : o.op = .call { callee := .value (.func f), args := args.toArray, argTypes := ts }) (vs : List Value) (hv : args.map a.eval = vs) (hcf : ∀ us w, (callFunc f us).run P w = .ok (.enter f us) w) (R : Value → World → Prop)
    (hc : Calls P f vs.toArray w fun e w' => ∃ v', e = .returned v' ∧ R v' w') (h : ∀ v' w', R v' w' → K (a.put o.dst v') w') :
    if Region.wanted o (yielded ops a.tmps) = true then Oper.wp P o a w K Q else E := by
  rw [if_pos (by simp [Region.wanted, hgd])]
  unfold Oper.wp execOp
  simp only [ho, resolve, invoke, Act.eval, go_sem, Sem.run_bind, Sem.run_pure, Result.andThen_ok, List.map_toArray, hv]
  rw [hcf]
  unfold Oper.upon
  simp only [Array.empty_append, Array.append_empty]
  refine hc.mono ?_
  rintro e w' ⟨v', rfl, hr⟩
  exact h v' w' hr

theorem Below.up {w w' : World} (h : Below w.heap.size w w') (o : Obj) : Below w.heap.size w (w'.alloc o) := h.alloc h.size o

theorem Below.far {w w' w'' : World} (h : Below w.heap.size w w') (k : Below w'.heap.size w' w'') : Below w.heap.size w w'' := h.trans (k.mono h.size)

theorem own_type {w : World} {base : Nat} {e t : TypeId} {size : Nat} {v : Value} {n b : Nat} {xs cs : List Value} (h : w.ownsRow base e size v n xs) (hb : Box w b t cs) (hne : e ≠ t) : v.ownBlock ≠ some b := fun hv => by
  rcases h.2 with ⟨rfl, _⟩ | ⟨g, cap, cur, rfl, h3, hg, r⟩
  · cases hv
  · cases hv
    unfold Box at hb
    rw [hb] at hg
    injection hg with hg
    injection hg with _ h2
    exact hne h2.symm

theorem own_types {w : World} {base base' : Nat} {e e' : TypeId} {size size' : Nat} {v v' : Value} {n n' g : Nat} {xs xs' : List Value} (h : w.ownsRow base e size v n xs) (h' : w.ownsRow base' e' size' v' n' xs') (hne : e ≠ e') (hg : v'.ownBlock = some g) : v.ownBlock ≠ some g := fun hv => by
  rcases h.2 with ⟨rfl, _⟩ | ⟨g1, cap, cur, rfl, h3, hg1, r⟩
  · cases hv
  · cases hv
    rcases h'.2 with ⟨rfl, _⟩ | ⟨g2, cap2, cur2, rfl, h4, hg2, r2⟩
    · cases hg
    · cases hg
      rw [hg1] at hg2
      injection hg2 with hg2
      injection hg2 with _ h2
      exact hne h2

end Go.Proofs.Ytohehhpccbaclaf
