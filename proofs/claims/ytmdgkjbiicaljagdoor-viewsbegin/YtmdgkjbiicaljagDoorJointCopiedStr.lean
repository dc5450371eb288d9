/- What a call through a pointer leaves as it was: all blocks below B but one. -/
import Derived.Test.YtmdgkjbiicaljagDoorReplMem
import Derived.Test.YtmdgkjbiicaljagDoorKnowGo
import Derived.Laws.CopyOwn
import Derived.Laws.EntriesVeiled
import Derived.Deep.DeepCutAuto
namespace Go.Proofs.YtmdgkjbiicaljagDoor
open Go.RowKit
set_option linter.unusedVariables false
set_option linter.unusedSimpArgs false

/-- Below block number B the world w' is as w was, block b aside. -/
structure Beside (B b : Nat) (w w' : World) : Prop where
  os : w'.os = w.os
  tape : w'.tape = w.tape
  output : w'.output = w.output
  size : w.heap.size ≤ w'.heap.size
  block : ∀ k, k < B → k ≠ b → w'.heap[k]? = w.heap[k]?
theorem Beside.refl (B b : Nat) (w : World) : Beside B b w w := ⟨rfl, rfl, rfl, Nat.le_refl _, fun _ _ _ => rfl⟩
theorem Beside.trans {B b : Nat} {u v w : World} (h : Beside B b u v) (k : Beside B b v w) : Beside B b u w :=
  ⟨k.os.trans h.os, k.tape.trans h.tape, k.output.trans h.output, Nat.le_trans h.size k.size, fun i hi hb => (k.block i hi hb).trans (h.block i hi hb)⟩
theorem Beside.mono {B B' b : Nat} {w w' : World} (h : Beside B b w w') (hB : B' ≤ B) : Beside B' b w w' := ⟨h.os, h.tape, h.output, h.size, fun k hk => h.block k (Nat.lt_of_lt_of_le hk hB)⟩
theorem Beside.of {B b : Nat} {w w' : World} (h : Below B w w') : Beside B b w w' := ⟨h.os, h.tape, h.output, h.size, fun k hk _ => h.block k hk⟩
theorem Beside.far {B b : Nat} {u v w : World} (h : Beside B b u v) (hB : B ≤ u.heap.size) (k : Below v.heap.size v w) : Beside B b u w :=
  h.trans (Beside.of (k.mono (Nat.le_trans hB h.size)))
theorem Beside.alloc {B b : Nat} {u w : World} (h : Beside B b u w) (hB : B ≤ u.heap.size) (o : Obj) : Beside B b u (w.alloc o) := h.far hB (below_alloc w o)
theorem Beside.setCell {B b : Nat} {u w : World} (h : Beside B b u w) {a : Addr} (ha : a.block = b ∨ B ≤ a.block) (x : Value) : Beside B b u (w.setCell a x) :=
  h.trans ⟨rfl, rfl, rfl, by simp [World.setCell], fun k hk hb => Below.heap_setCell _ _ _ _ (by omega)⟩
/-- The block itself lies above. -/
theorem Beside.below {B B' b : Nat} {w w' : World} (h : Beside B b w w') (h1 : B' ≤ B) (h2 : B' ≤ b) : Below B' w w' :=
  ⟨h.os, h.tape, h.output, h.size, fun k hk => h.block k (by omega) (by omega)⟩
theorem Box.beside {B b k : Nat} {w w' : World} {t : TypeId} {cs : List Value} (h : Box w k t cs) (hb : Beside B b w w') (h1 : k < B) (h2 : k ≠ b) : Box w' k t cs := by
  have := hb.block k h1 h2
  unfold Box at h ⊢
  rw [this]
  exact h
theorem own_beside {w w' : World} {base B b : Nat} {e : TypeId} {size : Nat} {v : Value} {n : Nat} {xs : List Value} (h : w.ownsRow base e size v n xs) (hb : Beside B b w w') (hlt : ∀ k, v.ownBlock = some k → k < B ∧ k ≠ b) : w'.ownsRow base e size v n xs := by
  refine ⟨h.1, ?_⟩
  rcases h.2 with h2 | ⟨g, cap, cur, rfl, h3, hg, r⟩
  · exact Or.inl h2
  · have := hlt g rfl
    exact Or.inr ⟨g, cap, cur, rfl, h3, by rw [hb.block g this.1 this.2]; exact hg, r⟩

/-! ### A replica that knows nothing, in memory of the call's own. -/
theorem four_own {B : Nat} {W : World} {bh bw bg bn : Nat} (h : Four B W bh bw bg bn) (me : Int) (K : KeptM) (vl : Value) (hl : W.ownsRow B 9 1 vl K.log.length (K.log.map enc)) (ha : List Int) (wb na : List Bool) (ga : List KeptM) :
    ReplOwn W B (forgot ⟨me, K, ha, wb, ga, na⟩) vl (row3 bh) (row3 bw) (row3 bg) (row3 bn) [(zeroKept, .slice none 0 0), (zeroKept, .slice none 0 0), (zeroKept, .slice none 0 0)] := by
  obtain ⟨h0, h1, h2, h3, h4, h5, h6, h7, h8⟩ := h
  refine ⟨rfl, hl, own_box h5 h1 3 1 rfl (by decide), own_box h6 h2 3 1 rfl (by decide), ⟨own_box h7 h3 3 5 rfl (by decide), fun p hp => ?_⟩, own_box h8 h4 3 1 rfl (by decide), fun k k1 k2 => ?_, fun p hp k k1 k2 => ?_⟩
  · have : p = (zeroKept, .slice none 0 0) := by simpa using hp
    subst this
    exact World.ownsRow_nil _ _ _ _
  · have e1 : some bw = some k := k1
    have e2 : some bn = some k := k2
    rw [← e1] at e2
    injection e2 with e2
    exact h0 e2.symm
  · have : p = (zeroKept, .slice none 0 0) := by simpa using hp
    subst this
    cases k2
theorem replNil (w : World) (B : Nat) : ReplNew w B (.agg #[.int .i64 0, .int .i64 0, .int .i64 0, .bool false, .slice none 0 0, .int .i64 0, .slice none 0 0, .slice none 0 0, .slice none 0 0, .slice none 0 0]) zeroRepl :=
  ⟨_, _, _, _, _, [], rfl, rfl, World.ownsRow_nil _ _ _ _, World.ownsRow_nil _ _ _ _, World.ownsRow_nil _ _ _ _, ⟨World.ownsRow_nil _ _ _ _, fun p hp => by simp at hp⟩, World.ownsRow_nil _ _ _ _, fun k h => (by cases h), fun p hp => by simp at hp⟩
theorem ReplNew.form {w : World} {B : Nat} {v : Value} {R : ReplM} (h : ReplNew w B v R) : ∃ al cl ah ch aw cw ag cg an cn, v = .agg #[.int .i64 R.me, .int .i64 R.kept.view, .int .i64 R.kept.normal, .bool R.kept.calm, .slice al R.kept.log.length cl, .int .i64 R.kept.commit, .slice ah R.hav.length ch, .slice aw R.wants.length cw, .slice ag R.gives.length cg, .slice an R.given.length cn] := by
  obtain ⟨vl, vh, vw, vg, vn, ps, rfl, h1, h2, h3, h4, h5, h6, _⟩ := h
  obtain ⟨al, cl, rfl⟩ := own_form h2
  obtain ⟨ah, ch, rfl⟩ := own_form h3
  obtain ⟨aw, cw, rfl⟩ := own_form h4
  obtain ⟨ag, cg, rfl⟩ := own_formN h5.1
  obtain ⟨an, cn, rfl⟩ := own_form h6
  have e : R.gives.length = ps.length := by rw [h1, List.length_map]
  exact ⟨al, cl, ah, ch, aw, cw, ag, cg, an, cn, by rw [e]; rfl⟩

/-! ### A struct stored whole into a block. -/
def setAll (w : World) (b : Nat) : Nat → List Value → World
  | _, [] => w
  | i, x :: xs => setAll (w.setCell ⟨b, i, none⟩ x) b (i + 1) xs
theorem setAll_put {t : TypeId} {b : Nat} : ∀ (xs : List Value) (w : World) (cs : List Value) (i : Nat), Box w b t cs → Box (setAll w b i xs) b t (putAt cs i xs)
  | [], _, _, _, h => h
  | x :: xs, w, cs, i, h => setAll_put xs _ _ (i + 1) (h.set i x)
theorem setAll_box {w : World} {b : Nat} {t : TypeId} {cs : List Value} (h : Box w b t cs) (xs : List Value) (hl : xs.length = cs.length) : Box (setAll w b 0 xs) b t xs := by
  have h1 := setAll_put xs w cs 0 h
  have h2 := putAt_all xs cs [] [] hl
  simp at h2
  rw [h2] at h1
  exact h1
theorem setAll_beside {B b : Nat} : ∀ (xs : List Value) (u w : World) (i : Nat), Beside B b u w → Beside B b u (setAll w b i xs)
  | [], _, _, _, h => h
  | x :: xs, u, w, i, h => setAll_beside xs u _ (i + 1) (h.setCell (Or.inl rfl) x)
theorem setAll_size {b : Nat} : ∀ (xs : List Value) (w : World) (i : Nat), (setAll w b i xs).heap.size = w.heap.size
  | [], _, _ => rfl
  | x :: xs, w, i => by
    have := setAll_size (b := b) xs (w.setCell ⟨b, i, none⟩ x) (i + 1)
    simp only [setAll]
    rw [this]
    simp
theorem setAll_own {b : Nat} {base : Nat} {e : TypeId} {size : Nat} {v : Value} {n : Nat} {ys : List Value} : ∀ (xs : List Value) (w : World) (i : Nat), w.ownsRow base e size v n ys → v.ownBlock ≠ some b → (setAll w b i xs).ownsRow base e size v n ys
  | [], _, _, h, _ => h
  | x :: xs, w, i, h, hb => setAll_own xs _ (i + 1) (own_other h hb x) hb
theorem ReplOwn.setAll {w : World} {B b : Nat} {R : ReplM} {vl vh vw vg vn : Value} {ps : List (KeptM × Value)} {t : TypeId} {cs : List Value} (h : ReplOwn w B R vl vh vw vg vn ps) (hb : Box w b t cs)
    (h1 : 9 ≠ t) (h2 : 3 ≠ t) (h3 : 4 ≠ t) (h4 : 25 ≠ t) (i : Nat) (xs : List Value) : ReplOwn (setAll w b i xs) B R vl vh vw vg vn ps :=
  h.map fun e _ _ _ _ he r => setAll_own xs w i r (own_type r hb (by rcases he with rfl | rfl | rfl | rfl <;> assumption))
theorem MsgsOwn.setAll {w : World} {B b : Nat} {v : Value} {ps : List (MsgM × Value)} {t : TypeId} {cs : List Value} (h : MsgsOwn w B v ps) (hb : Box w b t cs)
    (h1 : 9 ≠ t) (h2 : 43 ≠ t) (i : Nat) (xs : List Value) : MsgsOwn (setAll w b i xs) B v ps :=
  h.map fun e _ _ _ _ he r => setAll_own xs w i r (own_type r hb (by rcases he with rfl | rfl <;> assumption))

/-! ### Blocks that a struct behind a pointer does not speak of stay as they are. -/
def Off (t : TypeId) (w : World) (b k : Nat) : Prop := k ≠ b ∧ k < w.heap.size ∧ ∀ cs, Box w b t cs → ∀ c ∈ cs, c.ownBlock ≠ some k
def Leaves (t : TypeId) (b : Nat) (w w' : World) : Prop := ∀ k, Off t w b k → Off t w' b k ∧ w'.heap[k]? = w.heap[k]?
theorem Leaves.refl (t : TypeId) (b : Nat) (w : World) : Leaves t b w w := fun k h => ⟨h, rfl⟩
theorem Leaves.trans {t : TypeId} {b : Nat} {u v w : World} (h : Leaves t b u v) (h' : Leaves t b v w) : Leaves t b u w := fun k hk => by
  obtain ⟨a, e⟩ := h k hk
  obtain ⟨c, f⟩ := h' k a
  exact ⟨c, f.trans e⟩
theorem Box.uniq {w : World} {b : Nat} {t : TypeId} {cs cs' : List Value} (h : Box w b t cs) (h' : Box w b t cs') : cs = cs' := by
  unfold Box at h h'
  rw [h] at h'
  simpa using h'
theorem Leaves.of {t : TypeId} {b : Nat} {w w' : World} {cs cs' : List Value} (hx : Box w b t cs) (hx' : Box w' b t cs') (hs : w.heap.size ≤ w'.heap.size) (hc : ∀ c ∈ cs', ∀ k, c.ownBlock = some k → w.heap.size ≤ k ∨ ∃ c0 ∈ cs, c0.ownBlock = some k)
    (hb : ∀ k, k < w.heap.size → k ≠ b → (∀ c ∈ cs, c.ownBlock ≠ some k) → w'.heap[k]? = w.heap[k]?) : Leaves t b w w' := by
  rintro k ⟨h1, h2, h3⟩
  have h4 := h3 cs hx
  refine ⟨⟨h1, by omega, fun cs2 hx2 c hm e => ?_⟩, hb k h2 h1 h4⟩
  rw [hx2.uniq hx'] at hm
  rcases hc c hm k e with q | ⟨c0, q1, q2⟩
  · omega
  · exact h4 c0 q1 q2
theorem Box.leaves {t t' : TypeId} {b k : Nat} {w w' : World} {cs : List Value} (h : Box w k t' cs) (hl : Leaves t b w w') (ho : Off t w b k) : Box w' k t' cs := by
  unfold Box at h ⊢
  rw [(hl k ho).2]
  exact h
/-- Nothing below was written. -/
theorem Leaves.below {t : TypeId} {b : Nat} {w w' : World} {cs : List Value} (hx : Box w b t cs) (hb : Below w.heap.size w w') : Leaves t b w w' :=
  Leaves.of hx (hx.below hb hx.lt) hb.size (fun c hc k e => Or.inr ⟨c, hc, e⟩) fun k hk _ _ => hb.block k hk
theorem cells_old {cs : List Value} {P : Nat → Prop} : ∀ c ∈ cs, ∀ k, c.ownBlock = some k → P k ∨ ∃ c0 ∈ cs, c0.ownBlock = some k := fun c hc k e => Or.inr ⟨c, hc, e⟩

end Go.Proofs.YtmdgkjbiicaljagDoor

/- The program's own replica.copied, of numbers and of bools. -/
namespace Go.Proofs.YtmdgkjbiicaljagDoor
open Go.RowKit
set_option linter.unusedVariables false
set_option linter.unusedSimpArgs false

theorem rmade_one (z : Value) (n : Nat) : (madeCells #[z] n).toList = List.replicate n z := by
  unfold madeCells
  apply List.ext_getElem
  · simp
  · intro i h1 h2
    simp [Nat.mod_one]
theorem RowAt.below {w w' : World} {v : Value} {n size : Nat} {xs : List Value} (h : RowAt w v n size xs) (hb : Below w.heap.size w w') : RowAt w' v n size xs := by
  obtain ⟨a, cap, hv, hl, hc⟩ := h
  refine ⟨a, cap, hv, hl, fun j u hj => ?_⟩
  obtain ⟨ad, ha, hcell⟩ := hc j u hj
  refine ⟨ad, ha, ?_⟩
  have : (ad.add j).block < w.heap.size := World.block_lt_of_cell? w _ hcell
  rw [hb.cell this]
  exact hcell
theorem RowAt.ad {w : World} {a : Option Addr} {m c n size : Nat} {xs : List Value} (h : RowAt w (.slice a m c) n size xs) : 0 < xs.length → ∃ ad, a = some ad ∧ ∀ j u, xs[j]? = some u → w.cell? (ad.add j) = some u := by
  intro h0
  obtain ⟨a', c', hv, hl, hc⟩ := h
  cases hv
  obtain ⟨ad, had, _⟩ := hc 0 _ (List.getElem?_eq_getElem h0)
  refine ⟨ad, had, fun j u hj => ?_⟩
  obtain ⟨ad', had', h2⟩ := hc j u hj
  rw [had] at had'
  cases had'
  exact h2

theorem infoIntsC : Tryd.prog.info? 3 = some Tryd.t3 := by kernel_rfl
theorem zeroIntsC : Tryd.t3.zero = some (.int .i64 0) := by kernel_rfl
theorem sizeIntsC : Tryd.t3.size = 1 := by kernel_rfl
theorem bytesIntsC : Tryd.t3.bytes = 8 := by kernel_rfl

set_option maxHeartbeats 2000000 in
theorem copiedInts_any (x : List Int) (v : Value) (w : World) (h : RowAt w v x.length 1 (x.map encI)) (hz : x.length * 8 ≤ 140737488355328) :
    Calls Tryd.prog 39 #[v] w fun e w' => ∃ v', e = .returned v' ∧ w'.ownsRow w.heap.size 3 1 v' x.length (x.map encI) ∧ Below w.heap.size w w' := by
  have HRW : Hid (RowAt w v x.length 1 (x.map encI)) := h
  obtain ⟨a, c, rfl, hlx, hcx⟩ := h
  clear hcx
  go_enter Tryd.func39, Tryd.ntmps39
  go_wp2_with (at_make; refine wpList_make_full _ rfl _ _ 26 rfl w.heap.size 3 Tryd.t3 _ 1 Tryd.underlying26 infoIntsC zeroIntsC sizeIntsC .i64 .i64 x.length x.length x.length rfl rfl rfl rfl (by rw [bytesIntsC]; omega) (by unfold maxLen; omega) (Nat.le_refl _) ?_)
  intro w1 hown hg
  rw [rmade_one] at hown
  obtain ⟨g, cap, cur, hv, hbg, hgc, _, hm, hcur, hcc⟩ := hown.2.resolve_left (by rintro ⟨h, _⟩; cases h)
  cases hv
  have hb1 : Below w.heap.size w w1 := (Below.refl _ _).grown hg (Nat.le_refl _) (fun _ h => by cases h)
  have Hr1 : Hid (RowAt w1 (.slice a x.length c) x.length 1 (x.map encI)) := RowAt.below HRW.out hb1
  have hcs : cur.size = x.length := by simpa using hcur
  have HG : Hid (w1.heap[w.heap.size]? = some (.cells cur.toList.toArray 3 (0, 0))) := by unfold Hid; simpa using hgc
  have HL : Hid (cur.size = x.length) := hcs
  have HZ : Hid (0 + (x.map encI).length ≤ cur.toList.length) := by unfold Hid; simp; omega
  have HC : Hid (0 < (x.map encI).length → ∃ ad, a = some ad ∧ ∀ j u, (x.map encI)[j]? = some u → w1.cell? (ad.add j) = some u) := Hr1.out.ad
  have HM : Hid (x.length ≤ maxLen) := hm
  clear hcs hgc hm hcur hcc hown hg HRW
  go_wp2_with (refine show wpList _ _ _ ({ dst := _, op := .call { callee := .builtin .copy, args := _, argTypes := _ }, type := _, pos := _, after := _, guard := _ } :: _) _ _ from ?_; refine wpList_copy_splice rfl _ _ 26 26 rfl 3 Tryd.underlying26 (by kernel_rfl) _ _ _ _ _ _ rfl rfl w.heap.size 0 cur.toList 3 HG.out (x.map encI) (by rw [List.length_map]; exact (Nat.min_self _).symm) (fun h0 => ⟨rfl, HC.out h0⟩) HZ.out (encI_one _) w.heap.size w hb1 (Nat.le_refl _) ?_)
  intro w2 HW2 hb2
  have HO : Hid (World.ownsRow w2 w.heap.size 3 1 (.slice (some ⟨w.heap.size, 0, none⟩) x.length x.length) x.length (x.map encI)) := by
    refine ⟨by simp, Or.inr ⟨_, _, _, rfl, Nat.le_refl _, HW2.out, Nat.le_refl _, HM.out, ?_, ?_⟩⟩
    · have := HL.out
      simp [splice]; omega
    · have := HL.out
      simp [splice]
  have HB2 : Hid (Below w.heap.size w w2) := hb2
  clear HW2 HG Hr1 hb1 hb2 HC HZ
  go_wp2_with fail
  go_ret
  exact ⟨_, rfl, HO.out, HB2.out⟩

theorem infoBoolsC : Tryd.prog.info? 4 = some Tryd.t4 := by kernel_rfl
theorem zeroBoolsC : Tryd.t4.zero = some (.bool false) := by kernel_rfl
theorem sizeBoolsC : Tryd.t4.size = 1 := by kernel_rfl
theorem bytesBoolsC : Tryd.t4.bytes = 1 := by kernel_rfl

set_option maxHeartbeats 2000000 in
theorem copiedBools_any (x : List Bool) (v : Value) (w : World) (h : RowAt w v x.length 1 (x.map encB)) (hz : x.length * 1 ≤ 140737488355328) :
    Calls Tryd.prog 40 #[v] w fun e w' => ∃ v', e = .returned v' ∧ w'.ownsRow w.heap.size 4 1 v' x.length (x.map encB) ∧ Below w.heap.size w w' := by
  have HRW : Hid (RowAt w v x.length 1 (x.map encB)) := h
  obtain ⟨a, c, rfl, hlx, hcx⟩ := h
  clear hcx
  go_enter Tryd.func40, Tryd.ntmps40
  go_wp2_with (at_make; refine wpList_make_full _ rfl _ _ 27 rfl w.heap.size 4 Tryd.t4 _ 1 Tryd.underlying27 infoBoolsC zeroBoolsC sizeBoolsC .i64 .i64 x.length x.length x.length rfl rfl rfl rfl (by rw [bytesBoolsC]; omega) (by unfold maxLen; omega) (Nat.le_refl _) ?_)
  intro w1 hown hg
  rw [rmade_one] at hown
  obtain ⟨g, cap, cur, hv, hbg, hgc, _, hm, hcur, hcc⟩ := hown.2.resolve_left (by rintro ⟨h, _⟩; cases h)
  cases hv
  have hb1 : Below w.heap.size w w1 := (Below.refl _ _).grown hg (Nat.le_refl _) (fun _ h => by cases h)
  have Hr1 : Hid (RowAt w1 (.slice a x.length c) x.length 1 (x.map encB)) := RowAt.below HRW.out hb1
  have hcs : cur.size = x.length := by simpa using hcur
  have HG : Hid (w1.heap[w.heap.size]? = some (.cells cur.toList.toArray 4 (0, 0))) := by unfold Hid; simpa using hgc
  have HL : Hid (cur.size = x.length) := hcs
  have HZ : Hid (0 + (x.map encB).length ≤ cur.toList.length) := by unfold Hid; simp; omega
  have HC : Hid (0 < (x.map encB).length → ∃ ad, a = some ad ∧ ∀ j u, (x.map encB)[j]? = some u → w1.cell? (ad.add j) = some u) := Hr1.out.ad
  have HM : Hid (x.length ≤ maxLen) := hm
  clear hcs hgc hm hcur hcc hown hg HRW
  go_wp2_with (refine show wpList _ _ _ ({ dst := _, op := .call { callee := .builtin .copy, args := _, argTypes := _ }, type := _, pos := _, after := _, guard := _ } :: _) _ _ from ?_; refine wpList_copy_splice rfl _ _ 27 27 rfl 4 Tryd.underlying27 (by kernel_rfl) _ _ _ _ _ _ rfl rfl w.heap.size 0 cur.toList 4 HG.out (x.map encB) (by rw [List.length_map]; exact (Nat.min_self _).symm) (fun h0 => ⟨rfl, HC.out h0⟩) HZ.out (encB_one _) w.heap.size w hb1 (Nat.le_refl _) ?_)
  intro w2 HW2 hb2
  have HO : Hid (World.ownsRow w2 w.heap.size 4 1 (.slice (some ⟨w.heap.size, 0, none⟩) x.length x.length) x.length (x.map encB)) := by
    refine ⟨by simp, Or.inr ⟨_, _, _, rfl, Nat.le_refl _, HW2.out, Nat.le_refl _, HM.out, ?_, ?_⟩⟩
    · have := HL.out
      simp [splice]; omega
    · have := HL.out
      simp [splice]
  have HB2 : Hid (Below w.heap.size w w2) := hb2
  clear HW2 HG Hr1 hb1 hb2 HC HZ
  go_wp2_with fail
  go_ret
  exact ⟨_, rfl, HO.out, HB2.out⟩

end Go.Proofs.YtmdgkjbiicaljagDoor

/- The program's own replica.copied, of texts. -/
namespace Go.Proofs.YtmdgkjbiicaljagDoor
open Go.RowKit
set_option linter.unusedVariables false
set_option linter.unusedSimpArgs false

theorem infoStrsC : Tryd.prog.info? 9 = some Tryd.t9 := by kernel_rfl
theorem zeroStrsC : Tryd.t9.zero = some (.string ⟨#[]⟩) := by kernel_rfl
theorem sizeStrsC : Tryd.t9.size = 1 := by kernel_rfl
theorem bytesStrsC : Tryd.t9.bytes = 16 := by kernel_rfl

set_option maxHeartbeats 2000000 in
theorem copiedStrs_any (x : List (List UInt8)) (v : Value) (w : World) (h : RowAt w v x.length 1 (x.map enc)) (hz : x.length * 16 ≤ 140737488355328) :
    Calls Tryd.prog 44 #[v] w fun e w' => ∃ v', e = .returned v' ∧ w'.ownsRow w.heap.size 9 1 v' x.length (x.map enc) ∧ Below w.heap.size w w' := by
  have HRW : Hid (RowAt w v x.length 1 (x.map enc)) := h
  obtain ⟨a, c, rfl, hlx, hcx⟩ := h
  clear hcx
  go_enter Tryd.func44, Tryd.ntmps44
  go_wp2_with (at_make; refine wpList_make_full _ rfl _ _ 23 rfl w.heap.size 9 Tryd.t9 _ 1 Tryd.underlying23 infoStrsC zeroStrsC sizeStrsC .i64 .i64 x.length x.length x.length rfl rfl rfl rfl (by rw [bytesStrsC]; omega) (by unfold maxLen; omega) (Nat.le_refl _) ?_)
  intro w1 hown hg
  rw [rmade_one] at hown
  obtain ⟨g, cap, cur, hv, hbg, hgc, _, hm, hcur, hcc⟩ := hown.2.resolve_left (by rintro ⟨h, _⟩; cases h)
  cases hv
  have hb1 : Below w.heap.size w w1 := (Below.refl _ _).grown hg (Nat.le_refl _) (fun _ h => by cases h)
  have Hr1 : Hid (RowAt w1 (.slice a x.length c) x.length 1 (x.map enc)) := RowAt.below HRW.out hb1
  have hcs : cur.size = x.length := by simpa using hcur
  have HG : Hid (w1.heap[w.heap.size]? = some (.cells cur.toList.toArray 9 (0, 0))) := by unfold Hid; simpa using hgc
  have HL : Hid (cur.size = x.length) := hcs
  have HZ : Hid (0 + (x.map enc).length ≤ cur.toList.length) := by unfold Hid; simp; omega
  have HC : Hid (0 < (x.map enc).length → ∃ ad, a = some ad ∧ ∀ j u, (x.map enc)[j]? = some u → w1.cell? (ad.add j) = some u) := Hr1.out.ad
  have HM : Hid (x.length ≤ maxLen) := hm
  clear hcs hgc hm hcur hcc hown hg HRW
  go_wp2_with (refine show wpList _ _ _ ({ dst := _, op := .call { callee := .builtin .copy, args := _, argTypes := _ }, type := _, pos := _, after := _, guard := _ } :: _) _ _ from ?_; refine wpList_copy_splice rfl _ _ 23 23 rfl 9 Tryd.underlying23 (by kernel_rfl) _ _ _ _ _ _ rfl rfl w.heap.size 0 cur.toList 9 HG.out (x.map enc) (by rw [List.length_map]; exact (Nat.min_self _).symm) (fun h0 => ⟨rfl, HC.out h0⟩) HZ.out (enc_one _) w.heap.size w hb1 (Nat.le_refl _) ?_)
  intro w2 HW2 hb2
  have HO : Hid (World.ownsRow w2 w.heap.size 9 1 (.slice (some ⟨w.heap.size, 0, none⟩) x.length x.length) x.length (x.map enc)) := by
    refine ⟨by simp, Or.inr ⟨_, _, _, rfl, Nat.le_refl _, HW2.out, Nat.le_refl _, HM.out, ?_, ?_⟩⟩
    · have := HL.out
      simp [splice]; omega
    · have := HL.out
      simp [splice]
  have HB2 : Hid (Below w.heap.size w w2) := hb2
  clear HW2 HG Hr1 hb1 hb2 HC HZ
  go_wp2_with fail
  go_ret
  exact ⟨_, rfl, HO.out, HB2.out⟩

end Go.Proofs.YtmdgkjbiicaljagDoor
