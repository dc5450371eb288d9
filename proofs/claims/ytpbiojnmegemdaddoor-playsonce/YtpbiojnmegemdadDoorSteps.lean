/- Laws for calls inside regions that draw their order; blocks told apart by their types. -/
import Derived.Test.YtpbiojnmegemdadDoorVolMem
import Derived.Deep.RegionLaw
import Derived.BigRegion
namespace Go.Proofs.YtpbiojnmegemdadDoor
open Go.RowKit
set_option linter.unusedVariables false
set_option linter.unusedSimpArgs false

/-- A call of a Go function at a step of a region that draws its order. -/
theorem step_go {P : Program} (w : World) {ops : Array Oper} {o : Oper} {a : Act} {K : Act → World → Prop} {Q : Exit → Act → World → Prop} {E : Prop} (hgd : o.guard = none) (f : FuncId) (args : List Operand) (ts : Array TypeId)
    (ho : o.op = .call { callee := .value (.func f), args := args.toArray, argTypes := ts }) (vs : List Value) (hv : args.map a.eval = vs) (hcf : ∀ us w, (callFunc f us).run P w = .ok (.enter f us) w) (R : Value → World → Prop)
    (hc : Calls P f vs.toArray w fun e w' => ∃ v', e = .returned v' ∧ R v' w') (h : ∀ v' w', R v' w' → K (a.put o.dst v') w') :
    if Region.wanted o (yielded ops a.tmps) = true then Oper.wp P o a w K Q else E := by
  rw [if_pos (by simp [Region.wanted, hgd])]
  unfold Oper.wp execOp
  simp only [ho, resolve, invoke, Act.eval, go_sem, Sem.run_bind, Sem.run_pure, Result.andThen_ok, List.map_toArray, hv]
  rw [hcf]
  unfold Oper.upon
  simp only [Array.empty_append, Array.append_empty]
  refine hc.mono ?_
  rintro e w' ⟨v', rfl, hr⟩
  exact h v' w' hr

theorem Below.up {w w' : World} (h : Below w.heap.size w w') (o : Obj) : Below w.heap.size w (w'.alloc o) := h.alloc h.size o
theorem Below.far {w w' w'' : World} (h : Below w.heap.size w w') (k : Below w'.heap.size w' w'') : Below w.heap.size w w'' := h.trans (k.mono h.size)

theorem own_type {w : World} {base : Nat} {e t : TypeId} {size : Nat} {v : Value} {n b : Nat} {xs cs : List Value} (h : w.ownsRow base e size v n xs) (hb : Box w b t cs) (hne : e ≠ t) : v.ownBlock ≠ some b := fun hv => by
  rcases h.2 with ⟨rfl, _⟩ | ⟨g, cap, cur, rfl, h3, hg, r⟩
  · cases hv
  · cases hv
    unfold Box at hb
    rw [hb] at hg
    injection hg with hg
    injection hg with _ h2
    exact hne h2.symm

theorem own_types {w : World} {base base' : Nat} {e e' : TypeId} {size size' : Nat} {v v' : Value} {n n' g : Nat} {xs xs' : List Value} (h : w.ownsRow base e size v n xs) (h' : w.ownsRow base' e' size' v' n' xs') (hne : e ≠ e') (hg : v'.ownBlock = some g) : v.ownBlock ≠ some g := fun hv => by
  rcases h.2 with ⟨rfl, _⟩ | ⟨g1, cap, cur, rfl, h3, hg1, r⟩
  · cases hv
  · cases hv
    rcases h'.2 with ⟨rfl, _⟩ | ⟨g2, cap2, cur2, rfl, h4, hg2, r2⟩
    · cases hg
    · cases hg
      rw [hg1] at hg2
      injection hg2 with hg2
      injection hg2 with _ h2
      exact hne h2

/-- A store into a block that none of a volume's is. -/
theorem VolNew.apart {w : World} {B b : Nat} {v : Value} {V : VolM} (h : VolNew w B v V) (hne : ∀ (e : TypeId) (x : Value) (m : Nat) (xs : List Value), e = 9 ∨ e = 36 → w.ownsRow B e 1 x m xs → x.ownBlock ≠ some b) (i : Nat) (x : Value) : VolNew (w.setCell ⟨b, i, none⟩ x) B v V := by
  obtain ⟨vn, vs, us, rfl, hn, hs, k1, k2, k3⟩ := h
  exact ⟨vn, vs, us, rfl, own_other hn (hne _ _ _ _ (Or.inl rfl) hn) x, own_other hs (hne _ _ _ _ (Or.inr rfl) hs) x, ⟨k1.1, fun i u hu => ⟨own_other (k1.2 i u hu).1 (hne _ _ _ _ (Or.inl rfl) (k1.2 i u hu).1) x, (k1.2 i u hu).2⟩⟩, ⟨k2.1, fun i u hu => ⟨own_other (k1.2 i u hu).1 (hne _ _ _ _ (Or.inl rfl) (k1.2 i u hu).1) x, (k2.2 i u hu).2⟩⟩, k3⟩

/-- A store into a block of another type turns nothing of a volume. -/
theorem VolNew.type {w : World} {B b : Nat} {v : Value} {V : VolM} {t : TypeId} {cs : List Value} (h : VolNew w B v V) (hb : Box w b t cs) (h1 : 9 ≠ t) (h2 : 36 ≠ t) (i : Nat) (x : Value) : VolNew (w.setCell ⟨b, i, none⟩ x) B v V :=
  h.apart (fun e y m xs he hy => own_type hy hb (by rcases he with rfl | rfl; exact h1; exact h2)) i x

end Go.Proofs.YtpbiojnmegemdadDoor
