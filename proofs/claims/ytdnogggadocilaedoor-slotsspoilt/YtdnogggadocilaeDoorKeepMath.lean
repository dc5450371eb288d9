/- The plain mathematics of the raw things that the laws draw: operations. -/
import Derived.Test.YtdnogggadocilaeDoorVolMath
import Derived.Test.YtdnogggadocilaeDoorMath
import Derived.Lib.ItoaNum
namespace Go.Proofs.YtdnogggadocilaeDoor

structure RawM where
  kind : Int
  a : Int
  b : Int
  c : Int

/-- What the laws' function Op makes of a raw thing. -/
def opOf (r : RawM) : OpM :=
  if pickN r.kind 12 < 5 then ⟨1, pickN r.a 6, 0, 119 :: Go.Lib.itoa (pickN r.b 1000)⟩
  else if pickN r.kind 12 = 5 then ⟨2, pickN r.a 6, 0, []⟩
  else if pickN r.kind 12 = 6 then ⟨4, 0, 0, []⟩
  else ⟨3, pickN r.a 6, max 0 (pickN r.b 6 - 2), []⟩

theorem decDigits_len (u : Nat) (h : u < 1000) : (Go.Lib.decDigits u).length ≤ 3 := by
  rw [Go.Lib.decDigits]
  split
  · simp
  · rw [Go.Lib.decDigits]
    split
    · simp
    · rw [Go.Lib.decDigits]
      split
      · simp
      · omega

theorem itoa_len (n : Int) (h0 : 0 ≤ n) (h1 : n < 1000) : (Go.Lib.itoa n).length ≤ 3 := by
  unfold Go.Lib.itoa
  rw [if_neg (by omega)]
  exact decDigits_len _ (by omega)

theorem opOf_ok (r : RawM) : opFault (opOf r) = 0 := by
  have h1 := pickN_bd r.a 6 (by omega)
  have h2 := pickN_bd r.b 1000 (by omega)
  have h3 := pickN_bd r.b 6 (by omega)
  have h4 := itoa_len _ h2.1 h2.2
  unfold opOf opFault
  split
  · simp only [List.length_cons]
    unfold opFaultN
    repeat' split
    all_goals first | rfl | (exfalso; omega)
  split
  · unfold opFaultN
    simp only [List.length_nil]
    repeat' split
    all_goals first | rfl | (exfalso; omega)
  split
  · rfl
  · unfold opFaultN
    simp only [List.length_nil]
    repeat' split
    all_goals first | rfl | (exfalso; omega)

end Go.Proofs.YtdnogggadocilaeDoor
