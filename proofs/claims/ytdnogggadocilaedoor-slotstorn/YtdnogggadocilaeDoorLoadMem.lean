/- What holds in memory while slots are looked at. -/
import Derived.Test.YtdnogggadocilaeDoorStageMem
namespace Go.Proofs.YtdnogggadocilaeDoor
open Go.RowKit
set_option linter.unusedVariables false

structure LoadInv (w : World) (b6 : Nat) (K : KeptM) (vl : Value) (wr : World) : Prop where
  below : Below w.heap.size w wr
  res : Box wr w.heap.size 25 [.int .i64 0, .int .i64 0, .bool false, .slice none 0 0, .int .i64 0]
  best : Box wr b6 25 [.int .i64 K.view, .int .i64 K.normal, .bool K.calm, vl, .int .i64 K.commit]
  row : wr.ownsRow w.heap.size 9 1 vl K.log.length (K.log.map enc)
  gt : w.heap.size < b6
theorem LoadInv.next {w wr wx : World} {b6 : Nat} {K : KeptM} {vl : Value} (I : LoadInv w b6 K vl wr) (hb : Below wr.heap.size wr wx) : LoadInv w b6 K vl wx :=
  ⟨Below.far I.below hb, I.res.below hb I.res.lt, I.best.below hb I.best.lt, own_below I.row hb (own_lt I.row), I.gt⟩
theorem LoadInv.take {w wr : World} {b6 : Nat} {K K' : KeptM} {vl vl' : Value} (I : LoadInv w b6 K vl wr) (hn : wr.ownsRow w.heap.size 9 1 vl' K'.log.length (K'.log.map enc)) :
    LoadInv w b6 K' vl' (((((wr.setCell ⟨b6, 0, none⟩ (.int .i64 K'.view)).setCell ⟨b6, 1, none⟩ (.int .i64 K'.normal)).setCell ⟨b6, 2, none⟩ (.bool K'.calm)).setCell ⟨b6, 3, none⟩ vl').setCell ⟨b6, 4, none⟩ (.int .i64 K'.commit)) := by
  have hgt := I.gt
  have s0 := I.best.set 0 (.int .i64 K'.view)
  have s1 := s0.set 1 (.int .i64 K'.normal)
  have s2 := s1.set 2 (.bool K'.calm)
  have s3 := s2.set 3 vl'
  have s4 := s3.set 4 (.int .i64 K'.commit)
  have o0 := own_other hn (own_type hn I.best (by decide)) (.int .i64 K'.view) (a := ⟨b6, 0, none⟩)
  have o1 := own_other o0 (own_type o0 s0 (by decide)) (.int .i64 K'.normal) (a := ⟨b6, 1, none⟩)
  have o2 := own_other o1 (own_type o1 s1 (by decide)) (.bool K'.calm) (a := ⟨b6, 2, none⟩)
  have o3 := own_other o2 (own_type o2 s2 (by decide)) vl' (a := ⟨b6, 3, none⟩)
  have o4 := own_other o3 (own_type o3 s3 (by decide)) (.int .i64 K'.commit) (a := ⟨b6, 4, none⟩)
  refine ⟨?_, ?_, s4, o4, hgt⟩
  · exact ((((I.below.setCell (by simp; omega) _).setCell (by simp; omega) _).setCell (by simp; omega) _).setCell (by simp; omega) _).setCell (by simp; omega) _
  · exact ((((I.res.other _ (by simp; omega)).other _ (by simp; omega)).other _ (by simp; omega)).other _ (by simp; omega)).other _ (by simp; omega)
theorem LoadInv.kept {w wr : World} {b6 : Nat} {K : KeptM} {vl : Value} (I : LoadInv w b6 K vl wr) :
    KeptNew (((((wr.setCell ⟨w.heap.size, 0, none⟩ (.int .i64 K.view)).setCell ⟨w.heap.size, 1, none⟩ (.int .i64 K.normal)).setCell ⟨w.heap.size, 2, none⟩ (.bool K.calm)).setCell ⟨w.heap.size, 3, none⟩ vl).setCell ⟨w.heap.size, 4, none⟩ (.int .i64 K.commit)) w.heap.size (.agg #[.int .i64 K.view, .int .i64 K.normal, .bool K.calm, vl, .int .i64 K.commit]) K := by
  have h : KeptNew wr w.heap.size (.agg #[.int .i64 K.view, .int .i64 K.normal, .bool K.calm, vl, .int .i64 K.commit]) K := ⟨vl, rfl, I.row⟩
  exact ((((h.type I.res (by decide) 0 (.int .i64 K.view)).type (I.res.set 0 _) (by decide) 1 (.int .i64 K.normal)).type ((I.res.set 0 _).set 1 _) (by decide) 2 (.bool K.calm)).type (((I.res.set 0 _).set 1 _).set 2 _) (by decide) 3 vl).type ((((I.res.set 0 _).set 1 _).set 2 _).set 3 _) (by decide) 4 (.int .i64 K.commit)

end Go.Proofs.YtdnogggadocilaeDoor
