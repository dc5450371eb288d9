/- codec.ReadNumber and codec.ReadText, whole. -/
import Derived.Test.YtohehhpccbaclafCodecRd
import Derived.Test.YtohehhpccbaclafMachMath
namespace Go.Proofs.Ytohehhpccbaclaf
open Go.RowKit
set_option linter.unusedVariables false
set_option linter.unusedSimpArgs false

theorem readNumber_is (l : List UInt8) (w : World) (hl : l.length ≤ 281474976710656) :
    Calls Try.prog 37 #[.string ⟨l.toArray⟩] w fun e w' => e = .returned (.tuple #[.int .i64 (numV l), .string ⟨(numR l).toArray⟩, .int .i64 (numE l)]) ∧ Below w.heap.size w w' := by
  by_cases h : l.length < 4
  · have e : numE l = 5 := by simp [numE, h]
    refine (readNumber_short l w h).mono ?_
    rintro e' w' ⟨rfl, hb⟩
    exact ⟨by simp [numV, numR, e], hb⟩
  · refine (readNumber_any l w (by omega) hl).mono ?_
    rintro e' w' ⟨rfl, hb⟩
    refine ⟨?_, hb⟩
    by_cases h2 : valN l 4 ≤ 1073741824
    · have e : numE l = 0 := by simp [numE, h, h2]
      rw [if_pos h2]
      simp [numV, numR, e]
    · have e : numE l = 4 := by simp [numE, h, h2]
      rw [if_neg h2]
      simp [numV, numR, e]

theorem readText_is (l : List UInt8) (w : World) (hl : l.length ≤ 281474976710656) :
    Calls Try.prog 38 #[.string ⟨l.toArray⟩] w fun e w' => e = .returned (.tuple #[.string ⟨(txtD l).toArray⟩, .string ⟨(txtR l).toArray⟩, .int .i64 (txtE l)]) ∧ Below w.heap.size w w' := by
  cases l with
  | nil => exact readText_nil w
  | cons c r =>
    by_cases h : r.length < c.toNat
    · refine (readText_short c r w h).mono ?_
      rintro e' w' ⟨rfl, hb⟩
      exact ⟨by simp [txtD, txtR, txtE, h], hb⟩
    · refine (readText_ok c r w (by omega) (by simp at hl; omega)).mono ?_
      rintro e' w' ⟨rfl, hb⟩
      exact ⟨by simp [txtD, txtR, txtE, h], hb⟩

end Go.Proofs.Ytohehhpccbaclaf
