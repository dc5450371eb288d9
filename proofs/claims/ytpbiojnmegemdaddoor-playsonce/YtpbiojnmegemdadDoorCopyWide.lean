/- 'copy' into a row of the call's own that it fills, elements of more than one cell. -/
import Derived.Test.YtpbiojnmegemdadDoorRowlaw
import Derived.Laws.CopyOwn
namespace Go.Proofs.YtpbiojnmegemdadDoor
open Go.RowKit
set_option linter.unusedVariables false
set_option linter.unusedSimpArgs false

theorem run_copy_full {P : Program} (w : World) (dT sT ty elem : TypeId) (size : Nat) (hu : P.underlying dT = some (.slice elem)) (hsz : (P.info? elem).map (·.size) = some size) (hpos : 0 < size)
    (g n dCap : Nat) (y : Value) (cur cs : List Value) (t : TypeId) (hg : w.heap[g]? = some (.cells cur.toArray t (0, 0))) (hfit : cur.length = n * size) (hrow : RowAt w y n size cs) (h1 : ∀ v ∈ cs, v.oneCell' = true) :
    (Builtin.copy_ #[dT, sT] ty #[.slice (some ⟨g, 0, none⟩) n dCap, y]).run P w = .ok (goInt n) (w.setRow g cs.toArray) := by
  obtain ⟨a, c, rfl, hl, hc⟩ := hrow
  cases hq : P.info? elem with
  | none => simp [hq] at hsz
  | some i =>
    have hi : i.size = size := by simpa [hq] using hsz
    have hst := run_storeCells_at P g 0 t cs 0 cur.toArray w hg (by simp; omega) h1
    have hcut : (cur.toArray.toList.take (0 + 0) ++ cs ++ cur.toArray.toList.drop (0 + 0 + cs.length)) = cs := by
      simp [List.drop_of_length_le (show cur.length ≤ cs.length by omega)]
    rw [hcut] at hst
    cases a with
    | some ad =>
      have hld := run_loadCells_list (P := P) w ad cs (fun j u hj => by
        obtain ⟨ad', e1, e2⟩ := hc j u hj
        cases e1
        exact e2)
      rw [hl] at hld
      simp [Builtin.copy_, run_underlying hu, Builtin.lenOf, Builtin.firstCells, sizeOf, typeInfo, hq, hi, hld, hst]
    | none =>
      have hm : cs = [] := by
        cases cs with
        | nil => rfl
        | cons u r => obtain ⟨ad', e1, _⟩ := hc 0 u rfl; cases e1
      subst hm
      simp [Builtin.copy_, run_underlying hu, Builtin.lenOf, Builtin.firstCells, sizeOf, typeInfo, hq, hi, hst]

theorem wpList_copy_full {P : Program} {w : World} {ops : Array Oper} {rest : List Oper} {o : Oper} {a : Act} {Q : Exit → Act → World → Prop} (hgd : o.guard = none) (d s : Operand) (dT sT : TypeId)
    (ho : o.op = .call { callee := .builtin .copy, args := #[d, s], argTypes := #[dT, sT] }) (elem : TypeId) (size : Nat) (hu : P.underlying dT = some (.slice elem)) (hsz : (P.info? elem).map (·.size) = some size) (hpos : 0 < size)
    (g n dCap : Nat) (y : Value) (hd : a.eval d = .slice (some ⟨g, 0, none⟩) n dCap) (hs : a.eval s = y) (cur cs : List Value) (t : TypeId) (hg : w.heap[g]? = some (.cells cur.toArray t (0, 0))) (hfit : cur.length = n * size)
    (hrow : RowAt w y n size cs) (h1 : ∀ v ∈ cs, v.oneCell' = true) (B : Nat) (w0 : World) (hb : Below B w0 w) (hBg : B ≤ g)
    (h : ∀ w', Hid (w'.heap[g]? = some (.cells cs.toArray t (0, 0))) → Below B w0 w' → wpList P ops Q rest (a.put o.dst (goInt n)) w') : wpList P ops Q (o :: rest) a w := by
  refine wpList_plain hgd fun K hK => ?_
  have hrun := run_copy_full (P := P) w dT sT o.type elem size hu hsz hpos g n dCap y cur cs t hg hfit hrow h1
  unfold Oper.wp
  simp [execOp, ho, resolve, invoke, builtin, hd, hs, hrun, Result.andThen]
  exact hK _ _ (h _ (setRow_heap w g _ _ t _ hg) (below_setRow hb hBg _))

end Go.Proofs.YtpbiojnmegemdadDoor
