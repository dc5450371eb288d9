/- The plain mathematics of the codec: what each of its functions answers, as a function on lists of bytes. -/
namespace Go.Proofs.Ytohehhpccbaclaf

def b8 (n : Int) : UInt8 := UInt8.ofNat (n % 256).toNat

/-- Four bytes, the highest first. -/
def numBytes (n : Int) : List UInt8 := [b8 (n / 16777216), b8 (n / 65536), b8 (n / 256), b8 n]

/-- The first k bytes as a number, the highest first. -/
def valN (l : List UInt8) : Nat → Int
  | 0 => 0
  | k + 1 => 256 * valN l k + ((l.getD k 0).toNat : Int)

theorem valN_bd (l : List UInt8) : ∀ k, 0 ≤ valN l k ∧ valN l k < 256 ^ k
  | 0 => by simp [valN]
  | k + 1 => by
    have := valN_bd l k
    have h2 : ((l.getD k 0).toNat : Int) < 256 := by have := UInt8.toNat_lt (l.getD k 0); omega
    simp only [valN]
    have : (256 : Int) ^ (k + 1) = 256 * 256 ^ k := by rw [Int.pow_succ]; omega
    omega

theorem valN_lt4 (l : List UInt8) (k : Nat) (h : k ≤ 4) : 0 ≤ valN l k ∧ valN l k < 4294967296 := by
  have := valN_bd l k
  refine ⟨this.1, ?_⟩
  match k, h with
  | 0, _ => simp at this; omega
  | 1, _ => simp at this; omega
  | 2, _ => have e : (256 : Int) ^ 2 = 65536 := by decide
            rw [e] at this; omega
  | 3, _ => have e : (256 : Int) ^ 3 = 16777216 := by decide
            rw [e] at this; omega
  | 4, _ => have e : (256 : Int) ^ 4 = 4294967296 := by decide
            rw [e] at this; omega

theorem valN_lt3 (l : List UInt8) (k : Nat) (h : k < 4) : 0 ≤ valN l k ∧ valN l k < 16777216 := by
  have := valN_bd l k
  refine ⟨this.1, ?_⟩
  match k, h with
  | 0, _ => simp at this; omega
  | 1, _ => simp at this; omega
  | 2, _ => have e : (256 : Int) ^ 2 = 65536 := by decide
            rw [e] at this; omega
  | 3, _ => have e : (256 : Int) ^ 3 = 16777216 := by decide
            rw [e] at this; omega

/-- The seal's two numbers. -/
def sealStep (p : Int × Int) (c : UInt8) : Int × Int := ((p.1 + (c.toNat : Int)) % 65521, (p.2 + (p.1 + (c.toNat : Int)) % 65521) % 65521)
def sealTo (l : List UInt8) : Int × Int := l.foldl sealStep (1, 0)
def sealBytes (l : List UInt8) : List UInt8 := [b8 ((sealTo l).2 / 256), b8 (sealTo l).2, b8 ((sealTo l).1 / 256), b8 (sealTo l).1]

theorem sealTo_snoc (l : List UInt8) (c : UInt8) : sealTo (l ++ [c]) = sealStep (sealTo l) c := by simp [sealTo]

theorem sealTo_bd (l : List UInt8) : (0 ≤ (sealTo l).1 ∧ (sealTo l).1 < 65521) ∧ (0 ≤ (sealTo l).2 ∧ (sealTo l).2 < 65521) := by
  have h : ∀ (l : List UInt8) (p : Int × Int), (0 ≤ p.1 ∧ p.1 < 65521) ∧ (0 ≤ p.2 ∧ p.2 < 65521) → (0 ≤ (l.foldl sealStep p).1 ∧ (l.foldl sealStep p).1 < 65521) ∧ (0 ≤ (l.foldl sealStep p).2 ∧ (l.foldl sealStep p).2 < 65521) := by
    intro l
    induction l with
    | nil => intro p h; exact h
    | cons c l ih =>
      intro p h
      apply ih
      simp only [sealStep]
      omega
  exact h l (1, 0) (by simp)

theorem take_snoc' (l : List UInt8) (k : Nat) (h : k < l.length) : l.take (k + 1) = l.take k ++ [l[k]] := by
  rw [List.take_succ_eq_append_getElem h]

theorem b8_toNat (n : Int) : ((b8 n).toNat : Int) = n % 256 := by
  unfold b8
  have h : (n % 256).toNat < 256 := by omega
  simp [UInt8.toNat_ofNat']
  omega

/-- Four bytes read back. -/
theorem valN_num (k : Int) (h0 : 0 ≤ k) (h1 : k ≤ 1073741824) (s : List UInt8) : valN (numBytes k ++ s) 4 = k := by
  have e0 := b8_toNat (k / 16777216)
  have e1 := b8_toNat (k / 65536)
  have e2 := b8_toNat (k / 256)
  have e3 := b8_toNat k
  simp only [valN, numBytes, List.cons_append, List.getD_cons_zero, List.getD_cons_succ]
  omega

theorem drop_num (k : Int) (s : List UInt8) : (numBytes k ++ s).drop 4 = s := rfl
theorem length_num (k : Int) : (numBytes k).length = 4 := rfl

theorem b8_len (t : List UInt8) (h : t.length ≤ 255) : (b8 t.length).toNat = t.length := by
  have := b8_toNat t.length; omega
theorem take_len (t s : List UInt8) (h : t.length ≤ 255) : (t ++ s).take (b8 t.length).toNat = t := by
  rw [b8_len t h]; exact List.take_left
theorem drop_len (t s : List UInt8) (h : t.length ≤ 255) : (t ++ s).drop (b8 t.length).toNat = s := by
  rw [b8_len t h]; exact List.drop_left

def pickN (n m : Int) : Int := (if n < 0 then -(n + 1) else n) % m
theorem pickN_bd (n m : Int) (h : 0 < m) : 0 ≤ pickN n m ∧ pickN n m < m := ⟨Int.emod_nonneg _ (by omega), Int.emod_lt_of_pos _ h⟩

end Go.Proofs.Ytohehhpccbaclaf
