/- What a call through a pointer leaves as it was: all blocks below B but one. -/
import Derived.Test.YtohehhpccbaclafReplMem
import Derived.Test.YtohehhpccbaclafKnowGo
namespace Go.Proofs.Ytohehhpccbaclaf
open Go.RowKit
set_option linter.unusedVariables false
set_option linter.unusedSimpArgs false

/-- Below block number B the world w' is as w was, block b aside. -/
structure Beside (B b : Nat) (w w' : World) : Prop where
  os : w'.os = w.os
  tape : w'.tape = w.tape
  output : w'.output = w.output
  size : w.heap.size ≤ w'.heap.size
  block : ∀ k, k < B → k ≠ b → w'.heap[k]? = w.heap[k]?
theorem Beside.refl (B b : Nat) (w : World) : Beside B b w w := ⟨rfl, rfl, rfl, Nat.le_refl _, fun _ _ _ => rfl⟩
theorem Beside.trans {B b : Nat} {u v w : World} (h : Beside B b u v) (k : Beside B b v w) : Beside B b u w :=
  ⟨k.os.trans h.os, k.tape.trans h.tape, k.output.trans h.output, Nat.le_trans h.size k.size, fun i hi hb => (k.block i hi hb).trans (h.block i hi hb)⟩
theorem Beside.mono {B B' b : Nat} {w w' : World} (h : Beside B b w w') (hB : B' ≤ B) : Beside B' b w w' := ⟨h.os, h.tape, h.output, h.size, fun k hk => h.block k (Nat.lt_of_lt_of_le hk hB)⟩
theorem Beside.of {B b : Nat} {w w' : World} (h : Below B w w') : Beside B b w w' := ⟨h.os, h.tape, h.output, h.size, fun k hk _ => h.block k hk⟩
theorem Beside.far {B b : Nat} {u v w : World} (h : Beside B b u v) (hB : B ≤ u.heap.size) (k : Below v.heap.size v w) : Beside B b u w :=
  h.trans (Beside.of (k.mono (Nat.le_trans hB h.size)))
theorem Beside.alloc {B b : Nat} {u w : World} (h : Beside B b u w) (hB : B ≤ u.heap.size) (o : Obj) : Beside B b u (w.alloc o) := h.far hB (below_alloc w o)
theorem Beside.setCell {B b : Nat} {u w : World} (h : Beside B b u w) {a : Addr} (ha : a.block = b ∨ B ≤ a.block) (x : Value) : Beside B b u (w.setCell a x) :=
  h.trans ⟨rfl, rfl, rfl, by simp [World.setCell], fun k hk hb => Below.heap_setCell _ _ _ _ (by omega)⟩
/-- The block itself lies above. -/
theorem Beside.below {B B' b : Nat} {w w' : World} (h : Beside B b w w') (h1 : B' ≤ B) (h2 : B' ≤ b) : Below B' w w' :=
  ⟨h.os, h.tape, h.output, h.size, fun k hk => h.block k (by omega) (by omega)⟩
theorem Box.beside {B b k : Nat} {w w' : World} {t : TypeId} {cs : List Value} (h : Box w k t cs) (hb : Beside B b w w') (h1 : k < B) (h2 : k ≠ b) : Box w' k t cs := by
  have := hb.block k h1 h2
  unfold Box at h ⊢
  rw [this]
  exact h
theorem own_beside {w w' : World} {base B b : Nat} {e : TypeId} {size : Nat} {v : Value} {n : Nat} {xs : List Value} (h : w.ownsRow base e size v n xs) (hb : Beside B b w w') (hlt : ∀ k, v.ownBlock = some k → k < B ∧ k ≠ b) : w'.ownsRow base e size v n xs := by
  refine ⟨h.1, ?_⟩
  rcases h.2 with h2 | ⟨g, cap, cur, rfl, h3, hg, r⟩
  · exact Or.inl h2
  · have := hlt g rfl
    exact Or.inr ⟨g, cap, cur, rfl, h3, by rw [hb.block g this.1 this.2]; exact hg, r⟩

/-! ### A replica that knows nothing, in memory of the call's own. -/
theorem four_own {B : Nat} {W : World} {bh bw bg bn : Nat} (h : Four B W bh bw bg bn) (me : Int) (K : KeptM) (vl : Value) (hl : W.ownsRow B 9 1 vl K.log.length (K.log.map enc)) (ha : List Int) (wb na : List Bool) (ga : List KeptM) :
    ReplOwn W B (forgot ⟨me, K, ha, wb, ga, na⟩) vl (row3 bh) (row3 bw) (row3 bg) (row3 bn) [(zeroKept, .slice none 0 0), (zeroKept, .slice none 0 0), (zeroKept, .slice none 0 0)] := by
  obtain ⟨h0, h1, h2, h3, h4, h5, h6, h7, h8⟩ := h
  refine ⟨rfl, hl, own_box h5 h1 3 1 rfl (by decide), own_box h6 h2 3 1 rfl (by decide), ⟨own_box h7 h3 3 5 rfl (by decide), fun p hp => ?_⟩, own_box h8 h4 3 1 rfl (by decide), fun k k1 k2 => ?_, fun p hp k k1 k2 => ?_⟩
  · have : p = (zeroKept, .slice none 0 0) := by simpa using hp
    subst this
    exact World.ownsRow_nil _ _ _ _
  · have e1 : some bw = some k := k1
    have e2 : some bn = some k := k2
    rw [← e1] at e2
    injection e2 with e2
    exact h0 e2.symm
  · have : p = (zeroKept, .slice none 0 0) := by simpa using hp
    subst this
    cases k2
theorem replNil (w : World) (B : Nat) : ReplNew w B (.agg #[.int .i64 0, .int .i64 0, .int .i64 0, .bool false, .slice none 0 0, .int .i64 0, .slice none 0 0, .slice none 0 0, .slice none 0 0, .slice none 0 0]) zeroRepl :=
  ⟨_, _, _, _, _, [], rfl, rfl, World.ownsRow_nil _ _ _ _, World.ownsRow_nil _ _ _ _, World.ownsRow_nil _ _ _ _, ⟨World.ownsRow_nil _ _ _ _, fun p hp => by simp at hp⟩, World.ownsRow_nil _ _ _ _, fun k h => (by cases h), fun p hp => by simp at hp⟩
theorem ReplNew.form {w : World} {B : Nat} {v : Value} {R : ReplM} (h : ReplNew w B v R) : ∃ al cl ah ch aw cw ag cg an cn, v = .agg #[.int .i64 R.me, .int .i64 R.kept.view, .int .i64 R.kept.normal, .bool R.kept.calm, .slice al R.kept.log.length cl, .int .i64 R.kept.commit, .slice ah R.hav.length ch, .slice aw R.wants.length cw, .slice ag R.gives.length cg, .slice an R.given.length cn] := by
  obtain ⟨vl, vh, vw, vg, vn, ps, rfl, h1, h2, h3, h4, h5, h6, _⟩ := h
  obtain ⟨al, cl, rfl⟩ := own_form h2
  obtain ⟨ah, ch, rfl⟩ := own_form h3
  obtain ⟨aw, cw, rfl⟩ := own_form h4
  obtain ⟨ag, cg, rfl⟩ := own_formN h5.1
  obtain ⟨an, cn, rfl⟩ := own_form h6
  have e : R.gives.length = ps.length := by rw [h1, List.length_map]
  exact ⟨al, cl, ah, ch, aw, cw, ag, cg, an, cn, by rw [e]; rfl⟩

/-! ### A struct stored whole into a block. -/
def setAll (w : World) (b : Nat) : Nat → List Value → World
  | _, [] => w
  | i, x :: xs => setAll (w.setCell ⟨b, i, none⟩ x) b (i + 1) xs
theorem setAll_put {t : TypeId} {b : Nat} : ∀ (xs : List Value) (w : World) (cs : List Value) (i : Nat), Box w b t cs → Box (setAll w b i xs) b t (putAt cs i xs)
  | [], _, _, _, h => h
  | x :: xs, w, cs, i, h => setAll_put xs _ _ (i + 1) (h.set i x)
theorem setAll_box {w : World} {b : Nat} {t : TypeId} {cs : List Value} (h : Box w b t cs) (xs : List Value) (hl : xs.length = cs.length) : Box (setAll w b 0 xs) b t xs := by
  have h1 := setAll_put xs w cs 0 h
  have h2 := putAt_all xs cs [] [] hl
  simp at h2
  rw [h2] at h1
  exact h1
theorem setAll_beside {B b : Nat} : ∀ (xs : List Value) (u w : World) (i : Nat), Beside B b u w → Beside B b u (setAll w b i xs)
  | [], _, _, _, h => h
  | x :: xs, u, w, i, h => setAll_beside xs u _ (i + 1) (h.setCell (Or.inl rfl) x)
theorem setAll_size {b : Nat} : ∀ (xs : List Value) (w : World) (i : Nat), (setAll w b i xs).heap.size = w.heap.size
  | [], _, _ => rfl
  | x :: xs, w, i => by
    have := setAll_size (b := b) xs (w.setCell ⟨b, i, none⟩ x) (i + 1)
    simp only [setAll]
    rw [this]
    simp
theorem setAll_own {b : Nat} {base : Nat} {e : TypeId} {size : Nat} {v : Value} {n : Nat} {ys : List Value} : ∀ (xs : List Value) (w : World) (i : Nat), w.ownsRow base e size v n ys → v.ownBlock ≠ some b → (setAll w b i xs).ownsRow base e size v n ys
  | [], _, _, h, _ => h
  | x :: xs, w, i, h, hb => setAll_own xs _ (i + 1) (own_other h hb x) hb
theorem ReplOwn.setAll {w : World} {B b : Nat} {R : ReplM} {vl vh vw vg vn : Value} {ps : List (KeptM × Value)} {t : TypeId} {cs : List Value} (h : ReplOwn w B R vl vh vw vg vn ps) (hb : Box w b t cs)
    (h1 : 9 ≠ t) (h2 : 3 ≠ t) (h3 : 4 ≠ t) (h4 : 24 ≠ t) (i : Nat) (xs : List Value) : ReplOwn (setAll w b i xs) B R vl vh vw vg vn ps :=
  h.map fun e _ _ _ _ he r => setAll_own xs w i r (own_type r hb (by rcases he with rfl | rfl | rfl | rfl <;> assumption))
theorem MsgsOwn.setAll {w : World} {B b : Nat} {v : Value} {ps : List (MsgM × Value)} {t : TypeId} {cs : List Value} (h : MsgsOwn w B v ps) (hb : Box w b t cs)
    (h1 : 9 ≠ t) (h2 : 41 ≠ t) (i : Nat) (xs : List Value) : MsgsOwn (setAll w b i xs) B v ps :=
  h.map fun e _ _ _ _ he r => setAll_own xs w i r (own_type r hb (by rcases he with rfl | rfl <;> assumption))

end Go.Proofs.Ytohehhpccbaclaf
