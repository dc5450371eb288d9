/- Bytes just laid and turned into a string. -/
import Derived.Test.YtdnogggadocilaeDoorBase
import Derived.Laws.BytesString
namespace Go.Proofs.YtdnogggadocilaeDoor
open Go.RowKit

theorem foldl_push_bytes : ∀ (l : List Int) (r : ByteArray), l.foldl (fun r n => r.push (UInt8.ofNat n.toNat)) r = ⟨r.data ++ (l.map fun n => UInt8.ofNat n.toNat).toArray⟩
  | [], r => by simp
  | b :: l, r => by
    simp only [List.foldl_cons]
    rw [foldl_push_bytes l]
    simp [ByteArray.push]

theorem conv_new (w : World) (g : Nat) (ns : List Int) (cap : Nat) (hg : g = w.heap.size) :
    (convert 40 9 (.slice (some ⟨g, 0, none⟩) ns.length cap)).run Tryd.prog (w.alloc (.cells (ns.map (Value.int .u8)).toArray 5)) = .ok (.string ⟨(ns.map fun n => UInt8.ofNat n.toNat).toArray⟩) (w.alloc (.cells (ns.map (Value.int .u8)).toArray 5)) := by
  subst hg
  rw [run_convert_bytes_string _ 40 9 5 _ _ _ Tryd.underlying40 Tryd.underlying5 Tryd.underlying9]
  have hl := run_loadCells_list (P := Tryd.prog) (w.alloc (.cells (ns.map (Value.int .u8)).toArray 5)) ⟨w.heap.size, 0, none⟩ (ns.map (Value.int .u8)) (fun j v hj => by
    have e : (Addr.add ⟨w.heap.size, 0, none⟩ j) = ⟨w.heap.size, j, none⟩ := by simp [Addr.add]; omega
    rw [e, World.cell?_alloc_new]
    simpa using hj)
  simp only [List.length_map] at hl
  rw [run_bytesToString _ _ ns.length cap _ hl, foldl_push_bytes]
  have he0 : ByteArray.empty.data = #[] := rfl
  rw [he0]
  simp

theorem conv1 (w : World) (g : Nat) (a : Int) (hg : g = w.heap.size) :
    (convert 40 9 (.slice (some ⟨g, 0, none⟩) 1 1)).run Tryd.prog (w.alloc (.cells #[.int .u8 a] 5)) = .ok (.string ⟨#[UInt8.ofNat a.toNat]⟩) (w.alloc (.cells #[.int .u8 a] 5)) := by
  have := conv_new w g [a] 1 hg
  simpa using this

theorem conv2 (w : World) (g : Nat) (a b : Int) (hg : g = w.heap.size) :
    (convert 40 9 (.slice (some ⟨g, 0, none⟩) 2 2)).run Tryd.prog (w.alloc (.cells #[.int .u8 a, .int .u8 b] 5)) = .ok (.string ⟨#[UInt8.ofNat a.toNat, UInt8.ofNat b.toNat]⟩) (w.alloc (.cells #[.int .u8 a, .int .u8 b] 5)) := by
  have := conv_new w g [a, b] 2 hg
  simpa using this

theorem conv4 (w : World) (g : Nat) (a b c d : Int) (hg : g = w.heap.size) :
    (convert 40 9 (.slice (some ⟨g, 0, none⟩) 4 4)).run Tryd.prog (w.alloc (.cells #[.int .u8 a, .int .u8 b, .int .u8 c, .int .u8 d] 5)) = .ok (.string ⟨#[UInt8.ofNat a.toNat, UInt8.ofNat b.toNat, UInt8.ofNat c.toNat, UInt8.ofNat d.toNat]⟩) (w.alloc (.cells #[.int .u8 a, .int .u8 b, .int .u8 c, .int .u8 d] 5)) := by
  have := conv_new w g [a, b, c, d] 4 hg
  simpa using this

end Go.Proofs.YtdnogggadocilaeDoor
