/- From what a row reads of an argument to how it lies in memory: numbers, bools, strings, structs, slices of any of them. -/
import Derived.Test.YtmdgkjbiicaljagDoorJointStageMem
import Derived.SizedLaws
import Derived.OpenShut
import Derived.ShutString
import Derived.ChangeOld
import Derived.Deep.Slices
import Derived.Test.YtmdgkjbiicaljagDoorJointRawMem
import Derived.WalkKit
import Derived.ProofKit
import Derived.Lib.LaidTab
namespace Go.Proofs.YtmdgkjbiicaljagDoor
open Go.ChangeShapes Go.WideShapes Go.ChangeAt Go.RowKit Go.Deep
set_option linter.unusedVariables false
set_option linter.unusedSimpArgs false

section
variable {H : Type} {enc : TypeId × Value → H} {P : Program} {W : World}

/-- Within the form's own reach. -/
def Within (P : Program) (t : TypeId) (d : DataW H) : Prop := ∀ n ∈ d.weights P t, n ≤ 140737488351232

theorem within_of {ts : List TypeId} {ds : List (DataW H)} (h : (DataW.weightsEach P ts ds).all (· ≤ reachBytes) = true) {j : Nat} {t : TypeId} {d : DataW H} (ht : ts[j]? = some t) (hd : ds[j]? = some d) : Within P t d := by
  intro n hn
  have := List.all_eq_true.1 h _ (DataW.weights_mem_each ht hd n hn)
  have h2 := of_decide_eq_true this
  unfold reachBytes at h2
  exact h2

theorem weights_mem_all {e : TypeId} : ∀ {ds : List (DataW H)} {d : DataW H}, d ∈ ds → ∀ n ∈ d.weights P e, n ∈ DataW.weightsAll P e ds
  | d0 :: ds, d, hd, n, hn => by
    simp only [DataW.weightsAll, List.mem_append]
    rcases List.mem_cons.1 hd with rfl | h
    · exact Or.inl hn
    · exact Or.inr (weights_mem_all h n hn)

theorem read_int {t : TypeId} {fuel : Nat} {cs : List Value} {x : DataW H × List MemPlace} (hu : P.underlying t = some (.int .i64)) (h : DataW.trod enc P W 0 (fun _ => true) true fuel t cs = some x) :
    ∃ n : Int, cs = [.int .i64 n] ∧ -9223372036854775808 ≤ n ∧ n ≤ 9223372036854775807 := by
  obtain ⟨n, h1, _, h3⟩ := DataW.trod_int hu h
  exact ⟨n, h1, (bounds_i64 h3).1, (bounds_i64 h3).2⟩

theorem read_bool {t : TypeId} {fuel : Nat} {cs : List Value} {x : DataW H × List MemPlace} (hu : P.underlying t = some .bool) (h : DataW.trod enc P W 0 (fun _ => true) true fuel t cs = some x) :
    ∃ b : Bool, cs = [.bool b] := by
  obtain ⟨b, h1, _⟩ := DataW.trod_bool hu h
  exact ⟨b, h1⟩

theorem read_str {t : TypeId} {fuel : Nat} {cs : List Value} {x : DataW H × List MemPlace} (hu : P.underlying t = some .string) (h : DataW.trod enc P W 0 (fun _ => true) true fuel t cs = some x) (hw : Within P t x.1) :
    ∃ l : List UInt8, cs = [.string ⟨l.toArray⟩] ∧ l.length ≤ 140737488351232 := by
  obtain ⟨s, h1, h2, _⟩ := DataW.trod_string hu h
  subst h2
  refine ⟨s.data.toList, by rw [h1], hw _ (by simp [DataW.weights])⟩

/-- A struct: field i reads its own part of the cells, within the reach. -/
theorem read_struct {t : TypeId} {fs : Array Field} {fuel : Nat} {cs : List Value} {x : DataW H × List MemPlace} (hu : P.underlying t = some (.struct fs)) (h : DataW.trod enc P W 0 (fun _ => true) true fuel t cs = some x) (hw : Within P t x.1) :
    cs.length = P.cellsOf t ∧ ∀ (i : Nat) (f : Field), fs[i]? = some f → ∃ n y, DataW.trod enc P W 0 (fun _ => true) true n f.type ((cs.drop f.offset).take (P.cellsOf f.type)) = some y ∧ Within P f.type y.1 := by
  obtain ⟨xs, n, _, hx, hl, hlen, hf⟩ := DataW.trod_struct hu h
  refine ⟨hl, fun i f hi => ?_⟩
  have hi' : i < fs.size := (Array.getElem?_eq_some_iff.1 hi).1
  have hxi : xs[i]? = some xs[i] := List.getElem?_eq_getElem (by omega)
  refine ⟨n, xs[i], (hf i f hi).trans hxi, fun m hm => hw m ?_⟩
  subst hx
  simp only [DataW.weights, hu]
  refine DataW.weights_mem_each (j := i) (t := f.type) (d := xs[i].1) ?_ ?_ m hm
  · simp [hi]
  · simp [hxi]

theorem read_slice {α : Type} [Inhabited α] {t e : TypeId} {fuel : Nat} {cs : List Value} {x : DataW H × List MemPlace} (RE : List Value → α → Prop) (hu : P.underlying t = some (.slice e)) (hpos : 0 < P.cellsOf e)
    (hel : ∀ fuel cs x, DataW.trod enc P W 0 (fun _ => true) true fuel e cs = some x → Within P e x.1 → ∃ y, RE cs y)
    (h : DataW.trod enc P W 0 (fun _ => true) true fuel t cs = some x) (hw : Within P t x.1) :
    ∃ (a : Option Addr) (cap : Nat) (l : List α), cs = [.slice a l.length cap] ∧ l.length * P.bytesOf e ≤ 140737488351232 ∧
      ∀ i, i < l.length → ∃ b o C, a = some ⟨b, o, none⟩ ∧ C.length = P.cellsOf e ∧ RE C (l.getD i default) ∧ ∀ j u, C[j]? = some u → W.cell? ⟨b, o + i * P.cellsOf e + j, none⟩ = some u := by
  rcases open_slice hu h with ⟨rfl, rfl⟩ | ⟨a, len, cap, m, n, D, Pl, rfl, _, hl, hm, hmm, rfl, hx⟩
  · exact ⟨none, 0, [], rfl, by simp, fun i hi => by simp at hi⟩
  · have hlm : len ≤ m := by rw [hmm]; split <;> omega
    have each : ∀ i, i < len → ∃ y : α, ∃ C, W.cells? 0 (a.add (i * P.cellsOf e)) (P.cellsOf e) = some C ∧ RE C y := fun i hi => by
      obtain ⟨C, h1, h2⟩ := hx i (by omega)
      obtain ⟨y, hy⟩ := hel _ _ _ h2 (fun w' hw' => hw w' (by
        simp only [DataW.weights, hu, List.mem_cons, List.mem_append]
        refine Or.inr (Or.inl (weights_mem_all ?_ w' hw'))
        exact List.mem_map.2 ⟨i, List.mem_range.2 hi, rfl⟩))
      exact ⟨y, C, h1, hy⟩
    obtain ⟨f, hf⟩ := choose_lt each
    refine ⟨some a, cap, (List.range len).map f, by simp, ?_, fun i hi => ?_⟩
    · have := hw _ (by simp only [DataW.weights, hu, List.mem_cons]; exact Or.inl rfl)
      simp only [List.length_map, List.length_range] at this ⊢
      exact Nat.le_trans (Nat.mul_le_mul_right _ (by omega)) this
    · simp only [List.length_map, List.length_range] at hi
      obtain ⟨C, h1, h2⟩ := hf i hi
      obtain ⟨_, hlen, hc⟩ := World.cells?_some h1
      obtain ⟨C0, h10, _⟩ := hf 0 (by omega)
      obtain ⟨_, hlen0, hcc0⟩ := World.cells?_some h10
      have hc0 := hcc0 0 hpos
      have : (0 : Nat) < C0.length := by omega
      rw [List.getElem?_eq_getElem this] at hc0
      obtain ⟨b, o, sp⟩ := a
      have hs : sp = none := by simpa [Addr.add] using World.cell?_spot hc0
      subst hs
      refine ⟨b, o, C, rfl, hlen, by simpa [List.getD, hi] using h2, fun j u hj => ?_⟩
      have hj' : j < P.cellsOf e := by have := (List.getElem?_eq_some_iff.1 hj).1; omega
      have := hc j hj'
      rw [add_plain, add_plain] at this
      rw [this, hj]
end

/-- A slice of strings. -/
theorem read_strs {H : Type} {enc : TypeId × Value → H} {W : World} {fuel : Nat} {cs : List Value} {x : DataW H × List MemPlace}
    (h : DataW.trod enc Tryd.prog W 0 (fun _ => true) true fuel 23 cs = some x) (hw : Within Tryd.prog 23 x.1) : ∃ v l, cs = [v] ∧ Strs W v l ∧ l.length * 16 ≤ 140737488351232 := by
  have c1 : Tryd.prog.cellsOf 9 = 1 := by kernel_rfl
  have b1 : Tryd.prog.bytesOf 9 = 16 := by kernel_rfl
  obtain ⟨a, cap, l, rfl, hb, hc⟩ := read_slice (fun C (y : List UInt8) => C = [.string ⟨y.toArray⟩] ∧ y.length ≤ 140737488351232) Tryd.underlying23 (by rw [c1]; decide) (fun fuel cs x h1 h2 => read_str Tryd.underlying9 h1 h2) h hw
  rw [b1] at hb
  refine ⟨_, l, rfl, ⟨a, cap, rfl, by omega, fun i hi => ?_⟩, hb⟩
  obtain ⟨b, o, C, ha, _, ⟨hC, hl⟩, hcell⟩ := hc i hi
  have hd : (default : List UInt8) = [] := rfl
  rw [hd] at hC hl
  refine ⟨b, o, ha, ?_, by omega⟩
  have := hcell 0 _ (by rw [hC]; rfl)
  rw [c1, Nat.mul_one, Nat.add_zero] at this
  exact this

theorem arg_strs {H : Type} {enc : TypeId × Value → H} {W : World} {fuel : Nat} {a : Option Addr} {n c : Nat} {x : DataW H × List MemPlace}
    (h : DataW.trod enc Tryd.prog W 0 (fun _ => true) true fuel 23 (Value.slice a n c).cells.toList = some x) (hw : Within Tryd.prog 23 x.1) : ∃ l, Strs W (.slice a n c) l ∧ l.length * 16 ≤ 140737488351232 := by
  obtain ⟨v, l, e, hs, hz⟩ := read_strs h hw
  have e1 : [Value.slice a n c] = [v] := e
  injection e1 with e1
  subst e1
  exact ⟨l, hs, hz⟩

end Go.Proofs.YtmdgkjbiicaljagDoor

/- How lists of raw things are read off an argument; the tables of the library's own packages. -/
namespace Go.Proofs.YtmdgkjbiicaljagDoor
open Go.ChangeShapes Go.WideShapes Go.ChangeAt Go.RowKit Go.Deep
set_option linter.unusedVariables false
set_option linter.unusedSimpArgs false

theorem cellsIntD : Tryd.prog.cellsOf 3 = 1 := by kernel_rfl
theorem cellsRaw : Tryd.prog.cellsOf 63 = 4 := by kernel_rfl
theorem bytesRaw : Tryd.prog.bytesOf 63 = 32 := by kernel_rfl

set_option maxRecDepth 4000 in
theorem read_raw {H : Type} {enc : TypeId × Value → H} {W : World} {fuel : Nat} {cs : List Value} {x : DataW H × List MemPlace}
    (h : DataW.trod enc Tryd.prog W 0 (fun _ => true) true fuel 63 cs = some x) (hw : Within Tryd.prog 63 x.1) : ∃ r : RawM, cs = rawCells r ∧ RawIn r := by
  obtain ⟨hl, hf⟩ := read_struct Tryd.underlying63 h hw
  rw [cellsRaw] at hl
  match cs, hl with
  | [c0, c1, c2, c3], _ =>
    obtain ⟨n0, y0, h0, _⟩ := hf 0 _ rfl
    obtain ⟨n1, y1, h1, _⟩ := hf 1 _ rfl
    obtain ⟨n2, y2, h2, _⟩ := hf 2 _ rfl
    obtain ⟨n3, y3, h3, _⟩ := hf 3 _ rfl
    simp [cellsIntD] at h0 h1 h2 h3
    obtain ⟨k, e0, i0⟩ := read_int Tryd.underlying3 h0
    obtain ⟨a, e1, i1⟩ := read_int Tryd.underlying3 h1
    obtain ⟨b, e2, i2⟩ := read_int Tryd.underlying3 h2
    obtain ⟨c, e3, i3⟩ := read_int Tryd.underlying3 h3
    simp at e0 e1 e2 e3
    subst e0 e1 e2 e3
    exact ⟨⟨k, a, b, c⟩, rfl, ⟨i0.1, i0.2, i1.1, i1.2, i2.1, i2.2, i3.1, i3.2⟩⟩

set_option maxRecDepth 4000 in
theorem read_raws {H : Type} {enc : TypeId × Value → H} {W : World} {fuel : Nat} {v : Value} {x : DataW H × List MemPlace}
    (h : DataW.trod enc Tryd.prog W 0 (fun _ => true) true fuel 22 [v] = some x) (hw : Within Tryd.prog 22 x.1) : ∃ l, Raws W v l := by
  letI : Inhabited RawM := ⟨⟨0, 0, 0, 0⟩⟩
  obtain ⟨a, cap, l, hv, hb, hc⟩ := read_slice (fun C (y : RawM) => C = rawCells y ∧ RawIn y) Tryd.underlying22 (by rw [cellsRaw]; decide) (fun fuel cs x h1 h2 => read_raw h1 h2) h hw
  rw [bytesRaw] at hb
  refine ⟨l, a, cap, by simpa using hv, by omega, fun i hi => ?_⟩
  obtain ⟨b, o, C, ha, _, ⟨hC, hr⟩, hcell⟩ := hc i hi
  rw [cellsRaw] at hcell
  subst hC
  exact ⟨b, o, ha, hr, hcell 0 _ rfl, hcell 1 _ rfl, hcell 2 _ rfl, hcell 3 _ rfl⟩

theorem gPow : Tryd.prog.globalNamed "internal/strconv.uint64pow10" = some 0 := by kernel_rfl
theorem gPowType : (Tryd.prog.globals[0]?).map (·.type) = some 104 := by kernel_rfl
theorem cellsPow : Tryd.prog.cellsOf 104 = 20 := by kernel_rfl
theorem cellsU64 : Tryd.prog.cellsOf 98 = 1 := by kernel_rfl

def laying (cs : Array Value) : Obj → Obj
  | .cells _ t frozen => .cells cs t frozen
  | o => o

end Go.Proofs.YtmdgkjbiicaljagDoor
