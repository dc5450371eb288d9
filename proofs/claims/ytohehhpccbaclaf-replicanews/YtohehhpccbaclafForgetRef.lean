/- The document's forgotten and ReplicaOf. -/
import Derived.Test.YtohehhpccbaclafBeside
import Derived.Test.YtohehhpccbaclafKeptRef
import Derived.Test.YtohehhpccbaclafKeptCopy
import Derived.Test.YtohehhpccbaclafRefIn
namespace Go.Proofs.Ytohehhpccbaclaf
open Go.RowKit
set_option linter.unusedVariables false
set_option linter.unusedSimpArgs false
attribute [local go_sem] mkInts mkBools mkKepts

theorem mk_store {w : World} {b : Nat} {cs : List Value} (t : TypeId) (zs : List Value) (i : Nat) (hx : Box w b 29 cs) :
    Box ((w.setCell ⟨b, i, none⟩ (.slice (some ⟨w.heap.size, 0, none⟩) 3 3)).alloc (.cells zs.toArray t)) b 29 (cs.set i (row3 w.heap.size)) ∧ Box ((w.setCell ⟨b, i, none⟩ (.slice (some ⟨w.heap.size, 0, none⟩) 3 3)).alloc (.cells zs.toArray t)) w.heap.size t zs ∧
    ((w.setCell ⟨b, i, none⟩ (.slice (some ⟨w.heap.size, 0, none⟩) 3 3)).alloc (.cells zs.toArray t)).heap.size > w.heap.size ∧ Beside w.heap.size b w ((w.setCell ⟨b, i, none⟩ (.slice (some ⟨w.heap.size, 0, none⟩) 3 3)).alloc (.cells zs.toArray t)) := by
  have lb := hx.lt
  have hn := Box.new (w.setCell ⟨b, i, none⟩ (.slice (some ⟨w.heap.size, 0, none⟩) 3 3)) t zs
  rw [show (w.setCell ⟨b, i, none⟩ (.slice (some ⟨w.heap.size, 0, none⟩) 3 3)).heap.size = w.heap.size from by simp] at hn
  exact ⟨(hx.set i _).alloc _, hn, by simp, ((Beside.refl w.heap.size b w).setCell (Or.inl rfl) _).alloc (Nat.le_refl _) _⟩

set_option maxRecDepth 4000 in
set_option maxHeartbeats 2000000 in
theorem forgotten_any (b : Nat) (c0 c1 c2 c3 c4 c5 c6 c7 c8 c9 : Value) (w : World) (hx : Box w b 29 [c0, c1, c2, c3, c4, c5, c6, c7, c8, c9]) :
    Calls Try.prog 27 #[.pointer (some ⟨b, 0, none⟩)] w fun e w' => ∃ bh bw bg bn, e = .returned (.tuple #[]) ∧ Four w.heap.size w' bh bw bg bn ∧ Box w' b 29 [c0, c1, c2, c3, c4, c5, row3 bh, row3 bw, row3 bg, row3 bn] ∧ Beside w.heap.size b w w' := by
  have lb := hx.lt
  have x6 := hx.cell 6 _ rfl
  have f6 := hx.frozen 6
  have n0 : ¬ b = w.heap.size := by omega
  have m1 := mk_store 3 [.int .i64 0, .int .i64 0, .int .i64 0] 6 hx
  obtain ⟨w1, hw1⟩ : ∃ w1, w1 = (w.setCell ⟨b, 6, none⟩ (.slice (some ⟨w.heap.size, 0, none⟩) 3 3)).alloc (.cells #[.int .i64 0, .int .i64 0, .int .i64 0] 3) := ⟨_, rfl⟩
  have M1 : Hid _ := m1
  clear m1
  have HX : Hid (Box w b _ _) := hx
  clear hx
  go_enter Try.func27, Try.ntmps27
  go_upto_region 1 with fail
  rw [← hw1]
  have m1 := M1.out
  rw [show (w.setCell ⟨b, 6, none⟩ (.slice (some ⟨w.heap.size, 0, none⟩) 3 3)).alloc (.cells [.int .i64 0, .int .i64 0, .int .i64 0].toArray 3) = w1 from hw1.symm] at m1
  clear hw1 M1 x6 f6
  obtain ⟨p1, q1, z1, s1⟩ := m1
  have p1 : Box w1 b 29 [c0, c1, c2, c3, c4, c5, row3 w.heap.size, c7, c8, c9] := p1
  have x7 := p1.cell 7 _ rfl
  have f7 := p1.frozen 7
  have n1 : ¬ b = w1.heap.size := by omega
  have lb1 : b < w1.heap.size := by omega
  have m2 := mk_store 4 [.bool false, .bool false, .bool false] 7 p1
  obtain ⟨w2, hw2⟩ : ∃ w2, w2 = (w1.setCell ⟨b, 7, none⟩ (.slice (some ⟨w1.heap.size, 0, none⟩) 3 3)).alloc (.cells #[.bool false, .bool false, .bool false] 4) := ⟨_, rfl⟩
  have M2 : Hid _ := m2
  have Z1 : Hid (w1.heap.size > w.heap.size) := z1
  have P1 : Hid (Box w1 b _ _) := p1
  have Q1 : Hid (Box w1 w.heap.size _ _) := q1
  have S1 : Hid (Beside w.heap.size b w w1) := s1
  clear m2 z1 p1 q1 s1
  go_upto_region 2 with fail
  rw [← hw2]
  have m2 := M2.out
  rw [show (w1.setCell ⟨b, 7, none⟩ (.slice (some ⟨w1.heap.size, 0, none⟩) 3 3)).alloc (.cells [.bool false, .bool false, .bool false].toArray 4) = w2 from hw2.symm] at m2
  clear hw2 M2 x7 f7
  obtain ⟨p2, q2, z2, s2⟩ := m2
  have p2 : Box w2 b 29 [c0, c1, c2, c3, c4, c5, row3 w.heap.size, row3 w1.heap.size, c8, c9] := p2
  have x8 := p2.cell 8 _ rfl
  have f8 := p2.frozen 8
  have hz1 := Z1.out
  have n2 : ¬ b = w2.heap.size := by omega
  have lb2 : b < w2.heap.size := by omega
  have m3 := mk_store 24 zK 8 p2
  obtain ⟨w3, hw3⟩ : ∃ w3, w3 = (w2.setCell ⟨b, 8, none⟩ (.slice (some ⟨w2.heap.size, 0, none⟩) 3 3)).alloc (.cells #[.int .i64 0, .int .i64 0, .bool false, .slice none 0 0, .int .i64 0, .int .i64 0, .int .i64 0, .bool false, .slice none 0 0, .int .i64 0, .int .i64 0, .int .i64 0, .bool false, .slice none 0 0, .int .i64 0] 24) := ⟨_, rfl⟩
  have M3 : Hid _ := m3
  have Z2 : Hid (w2.heap.size > w1.heap.size) := z2
  have P2 : Hid (Box w2 b _ _) := p2
  have Q2 : Hid (Box w2 w1.heap.size _ _) := q2
  have S2 : Hid (Beside w1.heap.size b w1 w2) := s2
  clear m3 z2 p2 q2 s2 hz1
  go_upto_region 3 with fail
  rw [← hw3]
  have m3 := M3.out
  rw [show (w2.setCell ⟨b, 8, none⟩ (.slice (some ⟨w2.heap.size, 0, none⟩) 3 3)).alloc (.cells zK.toArray 24) = w3 from hw3.symm] at m3
  clear hw3 M3 x8 f8
  obtain ⟨p3, q3, z3, s3⟩ := m3
  have p3 : Box w3 b 29 [c0, c1, c2, c3, c4, c5, row3 w.heap.size, row3 w1.heap.size, row3 w2.heap.size, c9] := p3
  have x9 := p3.cell 9 _ rfl
  have f9 := p3.frozen 9
  have hz1 := Z1.out
  have hz2 := Z2.out
  have n3 : ¬ b = w3.heap.size := by omega
  have lb3 : b < w3.heap.size := by omega
  have M4 : Hid _ := mk_store 4 [.bool false, .bool false, .bool false] 9 p3
  have Z3 : Hid (w3.heap.size > w2.heap.size) := z3
  have Q3 : Hid (Box w3 w2.heap.size _ _) := q3
  have S3 : Hid (Beside w2.heap.size b w2 w3) := s3
  clear z3 p3 q3 s3 hz1 hz2
  go_wp2_with fail
  go_end0
  obtain ⟨p4, q4, z4, s4⟩ := M4.out
  have hz1 := Z1.out
  have hz2 := Z2.out
  have hz3 := Z3.out
  refine ⟨w.heap.size, w1.heap.size, w2.heap.size, w3.heap.size, rfl, ⟨by omega, Nat.le_refl _, by omega, by omega, by omega, ?_, ?_, ?_, q4⟩, p4, ?_⟩
  · exact ((Q1.out.beside S2.out (by omega) (by omega)).beside S3.out (by omega) (by omega)).beside s4 (by omega) (by omega)
  · exact (Q2.out.beside S3.out (by omega) (by omega)).beside s4 (by omega) (by omega)
  · exact Q3.out.beside s4 (by omega) (by omega)
  · exact ((S1.out.trans (S2.out.mono (by omega))).trans (S3.out.mono (by omega))).trans (s4.mono (by omega))

end Go.Proofs.Ytohehhpccbaclaf
