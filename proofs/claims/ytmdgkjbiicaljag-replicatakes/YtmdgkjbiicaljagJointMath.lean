/- Small laws of the walk that every text here uses: 'Below' over what a call makes; strings as lists of bytes. -/
import Derived.Test.YtmdgkjbiicaljagRows
import Derived.WalkKit
import Derived.ProofKit
import Derived.WalkSpells
import Derived.WalkLawsBesides
import Derived.Outline
import Derived.Below
import Derived.SizedLaws
import Derived.OpenShut
import Derived.ShutString
import Derived.ChangeOld
import Derived.Deep.Slices
namespace Go.Proofs.Ytmdgkjbiicaljag
open Go.RowKit

theorem below_alloc (w : World) (o : Obj) : Below w.heap.size w (w.alloc o) := (Below.refl _ _).alloc (Nat.le_refl _) _

theorem below_alloc2 (w : World) (o1 o2 : Obj) : Below w.heap.size w ((w.alloc o1).alloc o2) := (below_alloc w o1).alloc (by simp) o2

theorem cell?_alloc_below (w : World) (o : Obj) (p : Addr) (h : p.block < w.heap.size) : (w.alloc o).cell? p = w.cell? p := (below_alloc w o).cell h

theorem undrew {B : Nat} {w w' : World} (h : Below B w.drew w') : Below B w w' := ⟨h.os, h.tape, h.output, h.size, h.block⟩

/-- Two calls behind one another. -/
theorem Below.seq {a b c : World} (h : Below a.heap.size a b) (k : Below b.heap.size b c) : Below a.heap.size a c := h.trans (k.mono h.size)

theorem wrap_in {n : Int} (h0 : -9223372036854775808 ≤ n) (h1 : n ≤ 9223372036854775807) : wrap64 n = n := by
  rw [← IntWalk.i64_left]; exact IntWalk.i64_in _ ⟨h0, h1⟩

/-! Strings as lists of bytes: how a sum, a cut and a byte of one are spelt. -/
theorem app_list (a b : List UInt8) : (⟨a.toArray⟩ : ByteArray) ++ ⟨b.toArray⟩ = ⟨(a ++ b).toArray⟩ := by
  apply ByteArray.ext; simp
theorem ext_list (l : List UInt8) (a b : Nat) : (⟨l.toArray⟩ : ByteArray).extract a b = ⟨((l.take b).drop a).toArray⟩ := by
  apply ByteArray.ext; simp [ByteArray.data_extract, List.drop_take]
/-- Byte k of a list, as a number; 0 behind its end. -/
def byteAt (l : List UInt8) (k : Nat) : Int := ((l.getD k 0).toNat : Int)
theorem byteAt_bd (l : List UInt8) (k : Nat) : 0 ≤ byteAt l k ∧ byteAt l k ≤ 255 := by
  unfold byteAt; have := UInt8.toNat_lt (l.getD k 0); omega
theorem get_list (l : List UInt8) (k : Nat) (h : k < (⟨l.toArray⟩ : ByteArray).size) : (((⟨l.toArray⟩ : ByteArray)[k]'h).toNat : Int) = byteAt l k := by
  have h' : k < l.length := h
  unfold byteAt
  have e : l.getD k 0 = l[k] := by simp [List.getD, h']
  rw [e]; rfl

theorem byteAt_zero (c : UInt8) (r : List UInt8) : byteAt (c :: r) 0 = (c.toNat : Int) := rfl
theorem below_drew_n (w : World) (n : Nat) : Below w.heap.size w (w.drewN n) := ⟨rfl, rfl, rfl, Nat.le_refl _, fun _ _ => rfl⟩

theorem ret_eq {a b : Value} (h : a = b) : Ending.returned a = .returned b := by rw [h]
end Go.Proofs.Ytmdgkjbiicaljag

/- How lists of strings lie in memory, and what keeps them there. -/
namespace Go.Proofs.Ytmdgkjbiicaljag
open Go.RowKit

/-- The value is a slice over the strings l. -/
def Strs (w : World) (v : Value) (l : List (List UInt8)) : Prop :=
  ∃ a cap, v = .slice a l.length cap ∧ l.length ≤ 140737488355328 ∧ ∀ i, i < l.length → ∃ b o, a = some ⟨b, o, none⟩ ∧ w.cell? ⟨b, o + i, none⟩ = some (.string ⟨(l.getD i []).toArray⟩) ∧ (l.getD i []).length ≤ 140737488355328

theorem Strs.drewN {w : World} {v : Value} {l : List (List UInt8)} (h : Strs w v l) (n : Nat) : Strs (w.drewN n) v l := h

theorem lt_of_cell {w : World} {b o : Nat} {v : Value} (h : w.cell? ⟨b, o, none⟩ = some v) : b < w.heap.size := by
  unfold World.cell? at h
  by_cases hb : b < w.heap.size
  · exact hb
  · simp [Array.getElem?_eq_none (Nat.le_of_not_lt hb)] at h

theorem Strs.below {w w' : World} {v : Value} {l : List (List UInt8)} (h : Strs w v l) (hb : Below w.heap.size w w') : Strs w' v l := by
  obtain ⟨a, cap, hv, hl, hc⟩ := h
  refine ⟨a, cap, hv, hl, fun i hi => ?_⟩
  obtain ⟨b, o, ha, hcell, hs⟩ := hc i hi
  exact ⟨b, o, ha, by rw [hb.cell (p := ⟨b, o + i, none⟩) (lt_of_cell hcell)]; exact hcell, hs⟩

/-- The value is a slice over lists of strings. -/
def Strss (w : World) (v : Value) (ll : List (List (List UInt8))) : Prop :=
  ∃ a cap, v = .slice a ll.length cap ∧ ll.length ≤ 140737488355328 ∧ ∀ i, i < ll.length → ∃ b o u, a = some ⟨b, o, none⟩ ∧ w.cell? ⟨b, o + i, none⟩ = some u ∧ Strs w u (ll.getD i [])

theorem Strss.below {w w' : World} {v : Value} {l : List (List (List UInt8))} (h : Strss w v l) (hb : Below w.heap.size w w') : Strss w' v l := by
  obtain ⟨a, cap, hv, hl, hc⟩ := h
  refine ⟨a, cap, hv, hl, fun i hi => ?_⟩
  obtain ⟨b, o, u, ha, hcell, hs⟩ := hc i hi
  exact ⟨b, o, u, ha, by rw [hb.cell (p := ⟨b, o + i, none⟩) (lt_of_cell hcell)]; exact hcell, hs.below hb⟩

theorem take_next {α : Type} {x y : List α} {k : Nat} {d : α} (h : x.take k = y.take k) (hx : k < x.length) (hy : k < y.length) (e : x.getD k d = y.getD k d) : x.take (k + 1) = y.take (k + 1) := by
  rw [List.take_succ_eq_append_getElem hx, List.take_succ_eq_append_getElem hy, h]
  simp [List.getD, hx, hy] at e
  rw [e]

end Go.Proofs.Ytmdgkjbiicaljag

/- From what a row reads of an argument to how it lies in memory: numbers, bools, strings, structs, slices of any of them. -/
namespace Go.Proofs.Ytmdgkjbiicaljag
open Go.ChangeShapes Go.WideShapes Go.ChangeAt Go.RowKit Go.Deep
set_option linter.unusedVariables false
set_option linter.unusedSimpArgs false

section
variable {H : Type} {enc : TypeId × Value → H} {P : Program} {W : World}

/-- Within the form's own reach. -/
def Within (P : Program) (t : TypeId) (d : DataW H) : Prop := ∀ n ∈ d.weights P t, n ≤ 140737488351232

theorem within_of {ts : List TypeId} {ds : List (DataW H)} (h : (DataW.weightsEach P ts ds).all (· ≤ reachBytes) = true) {j : Nat} {t : TypeId} {d : DataW H} (ht : ts[j]? = some t) (hd : ds[j]? = some d) : Within P t d := by
  intro n hn
  have := List.all_eq_true.1 h _ (DataW.weights_mem_each ht hd n hn)
  have h2 := of_decide_eq_true this
  unfold reachBytes at h2
  exact h2

theorem weights_mem_all {e : TypeId} : ∀ {ds : List (DataW H)} {d : DataW H}, d ∈ ds → ∀ n ∈ d.weights P e, n ∈ DataW.weightsAll P e ds
  | d0 :: ds, d, hd, n, hn => by
    simp only [DataW.weightsAll, List.mem_append]
    rcases List.mem_cons.1 hd with rfl | h
    · exact Or.inl hn
    · exact Or.inr (weights_mem_all h n hn)

theorem read_int {t : TypeId} {fuel : Nat} {cs : List Value} {x : DataW H × List MemPlace} (hu : P.underlying t = some (.int .i64)) (h : DataW.trod enc P W 0 (fun _ => true) true fuel t cs = some x) :
    ∃ n : Int, cs = [.int .i64 n] ∧ -9223372036854775808 ≤ n ∧ n ≤ 9223372036854775807 := by
  obtain ⟨n, h1, _, h3⟩ := DataW.trod_int hu h
  exact ⟨n, h1, (bounds_i64 h3).1, (bounds_i64 h3).2⟩

theorem read_bool {t : TypeId} {fuel : Nat} {cs : List Value} {x : DataW H × List MemPlace} (hu : P.underlying t = some .bool) (h : DataW.trod enc P W 0 (fun _ => true) true fuel t cs = some x) :
    ∃ b : Bool, cs = [.bool b] := by
  obtain ⟨b, h1, _⟩ := DataW.trod_bool hu h
  exact ⟨b, h1⟩

theorem read_str {t : TypeId} {fuel : Nat} {cs : List Value} {x : DataW H × List MemPlace} (hu : P.underlying t = some .string) (h : DataW.trod enc P W 0 (fun _ => true) true fuel t cs = some x) (hw : Within P t x.1) :
    ∃ l : List UInt8, cs = [.string ⟨l.toArray⟩] ∧ l.length ≤ 140737488351232 := by
  obtain ⟨s, h1, h2, _⟩ := DataW.trod_string hu h
  subst h2
  refine ⟨s.data.toList, by rw [h1], hw _ (by simp [DataW.weights])⟩

/-- A struct: field i reads its own part of the cells, within the reach. -/
theorem read_struct {t : TypeId} {fs : Array Field} {fuel : Nat} {cs : List Value} {x : DataW H × List MemPlace} (hu : P.underlying t = some (.struct fs)) (h : DataW.trod enc P W 0 (fun _ => true) true fuel t cs = some x) (hw : Within P t x.1) :
    cs.length = P.cellsOf t ∧ ∀ (i : Nat) (f : Field), fs[i]? = some f → ∃ n y, DataW.trod enc P W 0 (fun _ => true) true n f.type ((cs.drop f.offset).take (P.cellsOf f.type)) = some y ∧ Within P f.type y.1 := by
  obtain ⟨xs, n, _, hx, hl, hlen, hf⟩ := DataW.trod_struct hu h
  refine ⟨hl, fun i f hi => ?_⟩
  have hi' : i < fs.size := (Array.getElem?_eq_some_iff.1 hi).1
  have hxi : xs[i]? = some xs[i] := List.getElem?_eq_getElem (by omega)
  refine ⟨n, xs[i], (hf i f hi).trans hxi, fun m hm => hw m ?_⟩
  subst hx
  simp only [DataW.weights, hu]
  refine DataW.weights_mem_each (j := i) (t := f.type) (d := xs[i].1) ?_ ?_ m hm
  · simp [hi]
  · simp [hxi]

theorem read_slice {α : Type} [Inhabited α] {t e : TypeId} {fuel : Nat} {cs : List Value} {x : DataW H × List MemPlace} (RE : List Value → α → Prop) (hu : P.underlying t = some (.slice e)) (hpos : 0 < P.cellsOf e)
    (hel : ∀ fuel cs x, DataW.trod enc P W 0 (fun _ => true) true fuel e cs = some x → Within P e x.1 → ∃ y, RE cs y)
    (h : DataW.trod enc P W 0 (fun _ => true) true fuel t cs = some x) (hw : Within P t x.1) :
    ∃ (a : Option Addr) (cap : Nat) (l : List α), cs = [.slice a l.length cap] ∧ l.length * P.bytesOf e ≤ 140737488351232 ∧
      ∀ i, i < l.length → ∃ b o C, a = some ⟨b, o, none⟩ ∧ C.length = P.cellsOf e ∧ RE C (l.getD i default) ∧ ∀ j u, C[j]? = some u → W.cell? ⟨b, o + i * P.cellsOf e + j, none⟩ = some u := by
  rcases open_slice hu h with ⟨rfl, rfl⟩ | ⟨a, len, cap, m, n, D, Pl, rfl, _, hl, hm, hmm, rfl, hx⟩
  · exact ⟨none, 0, [], rfl, by simp, fun i hi => by simp at hi⟩
  · have hlm : len ≤ m := by rw [hmm]; split <;> omega
    have each : ∀ i, i < len → ∃ y : α, ∃ C, W.cells? 0 (a.add (i * P.cellsOf e)) (P.cellsOf e) = some C ∧ RE C y := fun i hi => by
      obtain ⟨C, h1, h2⟩ := hx i (by omega)
      obtain ⟨y, hy⟩ := hel _ _ _ h2 (fun w' hw' => hw w' (by
        simp only [DataW.weights, hu, List.mem_cons, List.mem_append]
        refine Or.inr (Or.inl (weights_mem_all ?_ w' hw'))
        exact List.mem_map.2 ⟨i, List.mem_range.2 hi, rfl⟩))
      exact ⟨y, C, h1, hy⟩
    obtain ⟨f, hf⟩ := choose_lt each
    refine ⟨some a, cap, (List.range len).map f, by simp, ?_, fun i hi => ?_⟩
    · have := hw _ (by simp only [DataW.weights, hu, List.mem_cons]; exact Or.inl rfl)
      simp only [List.length_map, List.length_range] at this ⊢
      exact Nat.le_trans (Nat.mul_le_mul_right _ (by omega)) this
    · simp only [List.length_map, List.length_range] at hi
      obtain ⟨C, h1, h2⟩ := hf i hi
      obtain ⟨_, hlen, hc⟩ := World.cells?_some h1
      obtain ⟨C0, h10, _⟩ := hf 0 (by omega)
      obtain ⟨_, hlen0, hcc0⟩ := World.cells?_some h10
      have hc0 := hcc0 0 hpos
      have : (0 : Nat) < C0.length := by omega
      rw [List.getElem?_eq_getElem this] at hc0
      obtain ⟨b, o, sp⟩ := a
      have hs : sp = none := by simpa [Addr.add] using World.cell?_spot hc0
      subst hs
      refine ⟨b, o, C, rfl, hlen, by simpa [List.getD, hi] using h2, fun j u hj => ?_⟩
      have hj' : j < P.cellsOf e := by have := (List.getElem?_eq_some_iff.1 hj).1; omega
      have := hc j hj'
      rw [add_plain, add_plain] at this
      rw [this, hj]
end

/-- A slice of strings. -/
theorem read_strs {H : Type} {enc : TypeId × Value → H} {W : World} {fuel : Nat} {cs : List Value} {x : DataW H × List MemPlace}
    (h : DataW.trod enc Try.prog W 0 (fun _ => true) true fuel 22 cs = some x) (hw : Within Try.prog 22 x.1) : ∃ v l, cs = [v] ∧ Strs W v l ∧ l.length * 16 ≤ 140737488351232 := by
  have c1 : Try.prog.cellsOf 9 = 1 := by kernel_rfl
  have b1 : Try.prog.bytesOf 9 = 16 := by kernel_rfl
  obtain ⟨a, cap, l, rfl, hb, hc⟩ := read_slice (fun C (y : List UInt8) => C = [.string ⟨y.toArray⟩] ∧ y.length ≤ 140737488351232) Try.underlying22 (by rw [c1]; decide) (fun fuel cs x h1 h2 => read_str Try.underlying9 h1 h2) h hw
  rw [b1] at hb
  refine ⟨_, l, rfl, ⟨a, cap, rfl, by omega, fun i hi => ?_⟩, hb⟩
  obtain ⟨b, o, C, ha, _, ⟨hC, hl⟩, hcell⟩ := hc i hi
  have hd : (default : List UInt8) = [] := rfl
  rw [hd] at hC hl
  refine ⟨b, o, ha, ?_, by omega⟩
  have := hcell 0 _ (by rw [hC]; rfl)
  rw [c1, Nat.mul_one, Nat.add_zero] at this
  exact this

theorem arg_strs {H : Type} {enc : TypeId × Value → H} {W : World} {fuel : Nat} {a : Option Addr} {n c : Nat} {x : DataW H × List MemPlace}
    (h : DataW.trod enc Try.prog W 0 (fun _ => true) true fuel 22 (Value.slice a n c).cells.toList = some x) (hw : Within Try.prog 22 x.1) : ∃ l, Strs W (.slice a n c) l ∧ l.length * 16 ≤ 140737488351232 := by
  obtain ⟨v, l, e, hs, hz⟩ := read_strs h hw
  have e1 : [Value.slice a n c] = [v] := e
  injection e1 with e1
  subst e1
  exact ⟨l, hs, hz⟩

end Go.Proofs.Ytmdgkjbiicaljag

/- The plain mathematics of the codec: what each of its functions answers, as a function on lists of bytes. -/
namespace Go.Proofs.Ytmdgkjbiicaljag

def b8 (n : Int) : UInt8 := UInt8.ofNat (n % 256).toNat

/-- Four bytes, the highest first. -/
def numBytes (n : Int) : List UInt8 := [b8 (n / 16777216), b8 (n / 65536), b8 (n / 256), b8 n]

/-- The first k bytes as a number, the highest first. -/
def valN (l : List UInt8) : Nat → Int
  | 0 => 0
  | k + 1 => 256 * valN l k + ((l.getD k 0).toNat : Int)

theorem valN_bd (l : List UInt8) : ∀ k, 0 ≤ valN l k ∧ valN l k < 256 ^ k
  | 0 => by simp [valN]
  | k + 1 => by
    have := valN_bd l k
    have h2 : ((l.getD k 0).toNat : Int) < 256 := by have := UInt8.toNat_lt (l.getD k 0); omega
    simp only [valN]
    have : (256 : Int) ^ (k + 1) = 256 * 256 ^ k := by rw [Int.pow_succ]; omega
    omega

theorem valN_lt4 (l : List UInt8) (k : Nat) (h : k ≤ 4) : 0 ≤ valN l k ∧ valN l k < 4294967296 := by
  have := valN_bd l k
  refine ⟨this.1, ?_⟩
  match k, h with
  | 0, _ => simp at this; omega
  | 1, _ => simp at this; omega
  | 2, _ => have e : (256 : Int) ^ 2 = 65536 := by decide
            rw [e] at this; omega
  | 3, _ => have e : (256 : Int) ^ 3 = 16777216 := by decide
            rw [e] at this; omega
  | 4, _ => have e : (256 : Int) ^ 4 = 4294967296 := by decide
            rw [e] at this; omega

theorem valN_lt3 (l : List UInt8) (k : Nat) (h : k < 4) : 0 ≤ valN l k ∧ valN l k < 16777216 := by
  have := valN_bd l k
  refine ⟨this.1, ?_⟩
  match k, h with
  | 0, _ => simp at this; omega
  | 1, _ => simp at this; omega
  | 2, _ => have e : (256 : Int) ^ 2 = 65536 := by decide
            rw [e] at this; omega
  | 3, _ => have e : (256 : Int) ^ 3 = 16777216 := by decide
            rw [e] at this; omega

/-- The seal's two numbers. -/
def sealStep (p : Int × Int) (c : UInt8) : Int × Int := ((p.1 + (c.toNat : Int)) % 65521, (p.2 + (p.1 + (c.toNat : Int)) % 65521) % 65521)
def sealTo (l : List UInt8) : Int × Int := l.foldl sealStep (1, 0)
def sealBytes (l : List UInt8) : List UInt8 := [b8 ((sealTo l).2 / 256), b8 (sealTo l).2, b8 ((sealTo l).1 / 256), b8 (sealTo l).1]

theorem sealTo_snoc (l : List UInt8) (c : UInt8) : sealTo (l ++ [c]) = sealStep (sealTo l) c := by simp [sealTo]

theorem sealTo_bd (l : List UInt8) : (0 ≤ (sealTo l).1 ∧ (sealTo l).1 < 65521) ∧ (0 ≤ (sealTo l).2 ∧ (sealTo l).2 < 65521) := by
  have h : ∀ (l : List UInt8) (p : Int × Int), (0 ≤ p.1 ∧ p.1 < 65521) ∧ (0 ≤ p.2 ∧ p.2 < 65521) → (0 ≤ (l.foldl sealStep p).1 ∧ (l.foldl sealStep p).1 < 65521) ∧ (0 ≤ (l.foldl sealStep p).2 ∧ (l.foldl sealStep p).2 < 65521) := by
    intro l
    induction l with
    | nil => intro p h; exact h
    | cons c l ih =>
      intro p h
      apply ih
      simp only [sealStep]
      omega
  exact h l (1, 0) (by simp)

theorem take_snoc' (l : List UInt8) (k : Nat) (h : k < l.length) : l.take (k + 1) = l.take k ++ [l[k]] := by
  rw [List.take_succ_eq_append_getElem h]

theorem b8_toNat (n : Int) : ((b8 n).toNat : Int) = n % 256 := by
  unfold b8
  have h : (n % 256).toNat < 256 := by omega
  simp [UInt8.toNat_ofNat']
  omega

/-- Four bytes read back. -/
theorem valN_num (k : Int) (h0 : 0 ≤ k) (h1 : k ≤ 1073741824) (s : List UInt8) : valN (numBytes k ++ s) 4 = k := by
  have e0 := b8_toNat (k / 16777216)
  have e1 := b8_toNat (k / 65536)
  have e2 := b8_toNat (k / 256)
  have e3 := b8_toNat k
  simp only [valN, numBytes, List.cons_append, List.getD_cons_zero, List.getD_cons_succ]
  omega

theorem drop_num (k : Int) (s : List UInt8) : (numBytes k ++ s).drop 4 = s := rfl
theorem length_num (k : Int) : (numBytes k).length = 4 := rfl

theorem b8_len (t : List UInt8) (h : t.length ≤ 255) : (b8 t.length).toNat = t.length := by
  have := b8_toNat t.length; omega
theorem take_len (t s : List UInt8) (h : t.length ≤ 255) : (t ++ s).take (b8 t.length).toNat = t := by
  rw [b8_len t h]; exact List.take_left
theorem drop_len (t s : List UInt8) (h : t.length ≤ 255) : (t ++ s).drop (b8 t.length).toNat = s := by
  rw [b8_len t h]; exact List.drop_left

def pickN (n m : Int) : Int := (if n < 0 then -(n + 1) else n) % m
theorem pickN_bd (n m : Int) (h : 0 < m) : 0 ≤ pickN n m ∧ pickN n m < m := ⟨Int.emod_nonneg _ (by omega), Int.emod_lt_of_pos _ h⟩

end Go.Proofs.Ytmdgkjbiicaljag
