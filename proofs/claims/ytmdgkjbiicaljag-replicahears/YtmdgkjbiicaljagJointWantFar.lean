/- The document's heard, at a Lead. -/
import Derived.Test.YtmdgkjbiicaljagHeardLeadA
import Derived.Test.YtmdgkjbiicaljagHeardLeadB
import Derived.Test.YtmdgkjbiicaljagHeardLeadC
import Derived.Test.YtmdgkjbiicaljagHeardHas
import Derived.Test.YtmdgkjbiicaljagTakeGo
import Derived.Test.YtmdgkjbiicaljagJointWantRef
namespace Go.Proofs.Ytmdgkjbiicaljag
open Go.RowKit
set_option linter.unusedVariables false

theorem heardLead_any (b B : Nat) (R : ReplM) (M : MsgM) (u : Value) (w : World) (h : HeldAt w b B R) (hm : MsgAt w u M) (hk : M.kind = 1) (hf : ReplFits R) (hmf : TextsIn M.log) (hB : B ≤ w.heap.size) :
    Calls Try.prog 27 #[.pointer (some ⟨b, 0, none⟩), u] w (GoesTo b B (leadR R M) [hasMsg (leadR R M) M.frm] w) := by
  by_cases hv : R.kept.view < M.view
  · exact heardLeadA_any b B R M u w h hm hk hf hmf hB hv
  · by_cases hc : R.kept.calm = true
    · exact heardLeadC_any b B R M u w h hm hk hf hmf hB hv hc
    · exact heardLeadB_any b B R M u w h hm hk hf hmf hB hv (by simpa using hc)

end Go.Proofs.Ytmdgkjbiicaljag

/- The document's heard: messages behind messages; what is given. -/
namespace Go.Proofs.Ytmdgkjbiicaljag
open Go.RowKit
set_option linter.unusedVariables false
set_option linter.unusedSimpArgs false

theorem MsgsOwn.app {w w' : World} {B : Nat} {v v' v'' : Value} {ps qs : List (MsgM × Value)} (h : MsgsOwn w B v ps) (g : MsgsOwn w B v' qs) (hk : Keeps w w') (hr : w'.ownsRow B 31 8 v'' (ps.length + qs.length) (ps.flatMap msgRow ++ qs.flatMap msgRow)) : MsgsOwn w' B v'' (ps ++ qs) := by
  refine ⟨?_, fun p hp => ?_⟩
  · rw [List.length_append, List.flatMap_append]
    exact hr
  · rcases List.mem_append.1 hp with hp | hp
    · exact hk _ _ _ _ _ _ (Or.inl rfl) (h.2 p hp)
    · exact hk _ _ _ _ _ _ (Or.inl rfl) (g.2 p hp)
/-- A replica's block, behind an append to what was sent. -/
theorem HeldAt.grown {w w' : World} {b B base n : Nat} {R : ReplM} {v : Value} {xs : List Value} (h : HeldAt w b B R) (ho : w.ownsRow base 31 8 v n xs) (hg : w.grownBy w' v.ownBlock) : HeldAt w' b B R := by
  obtain ⟨vl, vh, vw, vg, vn, ps, hx, hr⟩ := h
  exact ⟨vl, vh, vw, vg, vn, ps, hx.grown hg (own_type ho hx (by decide)), hr.keeps (Keeps.grown ho hg)⟩
theorem Beside.grown {u w w' : World} {b B base n : Nat} {v : Value} {xs : List Value} (h : Beside B b u w) (ho : w.ownsRow base 31 8 v n xs) (hg : w.grownBy w' v.ownBlock) (hB : B ≤ base) (hu : B ≤ u.heap.size) : Beside B b u w' := by
  refine ⟨hg.os.trans h.os, hg.tape.trans h.tape, hg.output.trans h.output, Nat.le_trans h.size hg.size, fun k hk hb => ?_⟩
  have hsz := h.size
  rw [hg.block k (by omega) (fun e => by have := own_ge ho k e.symm; omega)]
  exact h.block k hk hb
theorem rowAt_ownN {w : World} {base size : Nat} {e : TypeId} {v : Value} {n : Nat} {xs : List Value} (h : w.ownsRow base e size v n xs) (hl : xs.length = n * size) (hs : 0 < size) : RowAt w v n size xs := by
  obtain ⟨a, cap, hv⟩ := own_formN h
  refine ⟨a, cap, hv, hl, fun j u hj => ?_⟩
  have hj' : j < n * size := by have := (List.getElem?_eq_some_iff.1 hj).1; omega
  obtain ⟨g, cap', hv', _, _, hc, _⟩ := own_cellN h hs j hj'
  rw [hv] at hv'
  cases hv'
  refine ⟨⟨g, 0, none⟩, rfl, ?_⟩
  rw [Go.WideShapes.add_plain, Nat.zero_add, hc]
  exact hj
/-- What lies in a row of its own, and is read. -/
theorem MsgsOwn.row {w : World} {B : Nat} {v : Value} {ps : List (MsgM × Value)} (h : MsgsOwn w B v ps) : RowAt w v ps.length 8 (ps.flatMap msgRow) := rowAt_ownN h.1 (flat_len msgRow 8 msgRow_len ps) (by decide)
theorem msgRow_one (ps : List (MsgM × Value)) (h : ∀ p ∈ ps, ∃ a n c, p.2 = .slice a n c) : ∀ u ∈ ps.flatMap msgRow, u.oneCell' = true := by
  intro u hu
  obtain ⟨p, hp, hu⟩ := List.mem_flatMap.1 hu
  obtain ⟨a, n, c, e⟩ := h p hp
  unfold msgRow msgCells at hu
  rw [e] at hu
  simp only [List.mem_cons, List.not_mem_nil, or_false] at hu
  rcases hu with rfl | rfl | rfl | rfl | rfl | rfl | rfl | rfl <;> rfl
theorem msgs_forms {w : World} {B : Nat} {v : Value} {ps : List (MsgM × Value)} (h : MsgsOwn w B v ps) : ∀ p ∈ ps, ∃ a n c, p.2 = .slice a n c := fun p hp => by
  obtain ⟨a, c, e⟩ := own_form (h.2 p hp)
  exact ⟨a, _, c, e⟩
/-- A replica in a block, what is given in a place of it and that it is given. -/
theorem HeldAt.give {w : World} {b B g gn i : Nat} {R : ReplM} {vl vh vw vk : Value} {cg cn : Nat} {ps : List (KeptM × Value)} {K : KeptM}
    (hx : Box w b 29 [.int .i64 R.me, .int .i64 R.kept.view, .int .i64 R.kept.normal, .bool R.kept.calm, vl, .int .i64 R.kept.commit, vh, vw, .slice (some ⟨g, 0, none⟩) R.gives.length cg, .slice (some ⟨gn, 0, none⟩) R.given.length cn])
    (ho : ReplOwn w B R vl vh vw (.slice (some ⟨g, 0, none⟩) R.gives.length cg) (.slice (some ⟨gn, 0, none⟩) R.given.length cn) ps) (hi : i < ps.length) (hk : w.ownsRow B 9 1 vk K.log.length (K.log.map enc)) (ha : Asunder vl vk)
    (w' : World) (hw : w' = (setAll w g (i * 5) (keptCells K vk)).setCell ⟨gn, i, none⟩ (.bool true)) :
    Box w' b 29 [.int .i64 R.me, .int .i64 R.kept.view, .int .i64 R.kept.normal, .bool R.kept.calm, vl, .int .i64 R.kept.commit, vh, vw, .slice (some ⟨g, 0, none⟩) R.gives.length cg, .slice (some ⟨gn, 0, none⟩) R.given.length cn] ∧
    ReplOwn w' B (withGive R i K) vl vh vw (.slice (some ⟨g, 0, none⟩) (withGive R i K).gives.length cg) (.slice (some ⟨gn, 0, none⟩) (withGive R i K).given.length cn) (ps.set i (K, vk)) ∧ HeldAt w' b B (withGive R i K) := by
  have hg : b ≠ g := fun e => own_type ho.2.2.2.2.1.1 hx (by decide) (congrArg some e.symm)
  have hgn : b ≠ gn := fun e => own_type ho.2.2.2.2.2.1 hx (by decide) (congrArg some e.symm)
  have h1 := give_own ho hi hk ha
  rw [← hw] at h1
  have e1 : (withGive R i K).gives.length = R.gives.length := by simp [withGive]
  have e2 : (withGive R i K).given.length = R.given.length := by simp [withGive]
  have hx' := (Box.setAll_other hg (keptCells K vk) (i * 5) hx).other (a := ⟨gn, i, none⟩) (.bool true) hgn
  rw [← hw] at hx'
  rw [e1, e2]
  refine ⟨hx', h1, _, _, _, _, _, _, ?_, h1⟩
  exact hx'

/-- What is given in a place, ahead of that it is given. -/
def withG (R : ReplM) (i : Nat) (K : KeptM) : ReplM := ⟨R.me, R.kept, R.hav, R.wants, R.gives.set i K, R.given⟩
theorem gives1_own {w : World} {B g cg i : Nat} {R : ReplM} {vl vh vw vn vk : Value} {ps : List (KeptM × Value)} {K : KeptM} (h : ReplOwn w B R vl vh vw (.slice (some ⟨g, 0, none⟩) R.gives.length cg) vn ps) (hi : i < ps.length)
    (hk : w.ownsRow B 9 1 vk K.log.length (K.log.map enc)) (ha : Asunder vl vk) : ReplOwn (setAll w g (i * 5) (keptCells K vk)) B (withG R i K) vl vh vw (.slice (some ⟨g, 0, none⟩) R.gives.length cg) vn (ps.set i (K, vk)) := by
  obtain ⟨h0, h1, h2, h3, h4, h5, h6, h7⟩ := h
  have hl : R.gives.length = ps.length := by rw [h0, List.length_map]
  rw [hl] at h4 ⊢
  have o1 : ∀ (e : TypeId) (s : Nat) (v : Value) (n : Nat) (xs : List Value), 24 ≠ e → w.ownsRow B e s v n xs → (setAll w g (i * 5) (keptCells K vk)).ownsRow B e s v n xs := fun e s v n xs he r => setAll_own _ w _ r (fun q => own_types r h4.1 (Ne.symm he) (g := g) rfl q)
  refine ⟨?_, o1 _ _ _ _ _ (by decide) h1, o1 _ _ _ _ _ (by decide) h2, o1 _ _ _ _ _ (by decide) h3, ⟨?_, fun p hp => ?_⟩, o1 _ _ _ _ _ (by decide) h5, h6, fun p hp => ?_⟩
  · show R.gives.set i K = _
    rw [List.map_set, ← h0]
  · rw [List.length_set, flat_set keptRow 5 keptRow_len ps i (K, vk) hi]
    exact own_putAll _ _ _ _ h4.1
  · rcases List.mem_or_eq_of_mem_set hp with q | q
    · exact o1 _ _ _ _ _ (by decide) (h4.2 p q)
    · rw [q]; exact o1 _ _ _ _ _ (by decide) hk
  · rcases List.mem_or_eq_of_mem_set hp with q | q
    · exact h7 p q
    · rw [q]; exact ha
theorem given1_own {w : World} {B gn cn : Nat} {R : ReplM} {vl vh vw vg : Value} {ps : List (KeptM × Value)} (h : ReplOwn w B R vl vh vw vg (.slice (some ⟨gn, 0, none⟩) R.given.length cn) ps) (i : Nat) :
    ReplOwn (w.setCell ⟨gn, i, none⟩ (.bool true)) B ⟨R.me, R.kept, R.hav, R.wants, R.gives, R.given.set i true⟩ vl vh vw vg (.slice (some ⟨gn, 0, none⟩) R.given.length cn) ps := by
  obtain ⟨h0, h1, h2, h3, h4, h5, h6, h7⟩ := h
  have ot : ∀ (e : TypeId) (s : Nat) (v : Value) (n : Nat) (xs : List Value), 4 ≠ e → w.ownsRow B e s v n xs → (w.setCell ⟨gn, i, none⟩ (.bool true)).ownsRow B e s v n xs := fun e s v n xs he r => own_other (a := ⟨gn, i, none⟩) r (own_types r h5 (Ne.symm he) rfl) _
  have h5' := own_set h5 i (.bool true)
  refine ⟨h0, ot _ _ _ _ _ (by decide) h1, ot _ _ _ _ _ (by decide) h2, own_other h3 (fun e => h6 gn e rfl) _, ⟨ot _ _ _ _ _ (by decide) h4.1, fun p hp => ot _ _ _ _ _ (by decide) (h4.2 p hp)⟩, ?_, h6, h7⟩
  show World.ownsRow _ _ _ _ _ (R.given.set i true).length ((R.given.set i true).map encB)
  rw [List.length_set, List.map_set]
  exact h5'

theorem msgs_setAll {w : World} {B' base g c n n' size k : Nat} {e : TypeId} {v : Value} {xs : List Value} {ps : List (MsgM × Value)} (h : MsgsOwn w B' v ps) (ho : w.ownsRow base e size (.slice (some ⟨g, 0, none⟩) n' c) n xs) (h1 : 9 ≠ e) (h2 : 31 ≠ e) (cs : List Value) : MsgsOwn (setAll w g k cs) B' v ps :=
  h.map fun e' _ _ _ _ he r => setAll_own _ w _ r (fun q => own_types r ho (by rcases he with rfl | rfl <;> assumption) (g := g) rfl q)
theorem msgs_beside {w w' : World} {B b : Nat} {v : Value} {ps : List (MsgM × Value)} {cs : List Value} (h : MsgsOwn w B v ps) (hx : Box w b 29 cs) (hb : Beside w.heap.size b w w') : MsgsOwn w' B v ps :=
  h.map fun e' _ _ _ _ he r => own_beside r hb fun k hk => ⟨own_lt r k hk, fun e => own_type r hx (by rcases he with rfl | rfl <;> decide) (by rw [← e]; exact hk)⟩
/-- The five cells of what is given in a place. -/
theorem give_cells {w : World} {B g cg i : Nat} {R : ReplM} {ps : List (KeptM × Value)} (h : KeptsNew w B (.slice (some ⟨g, 0, none⟩) R.gives.length cg) ps) (hl : R.gives.length = ps.length) (hi : i < ps.length) (j : Nat) (hj : j < 5) :
    (∃ x, w.cell? ⟨g, i * 5 + j, none⟩ = some x) ∧ w.frozen? ⟨g, i * 5 + j, none⟩ = false := by
  obtain ⟨g', c', hv, _, _, hc, hf⟩ := own_cellN h.1 (by decide) (i * 5 + j) (by omega)
  simp only [Value.slice.injEq, Option.some.injEq, Addr.mk.injEq, and_true] at hv
  obtain ⟨rfl, _, _⟩ := hv
  refine ⟨?_, hf⟩
  rw [hc, flat_get keptRow 5 keptRow_len ps i j ps[i] (List.getElem?_eq_getElem hi) hj]
  have : j < (keptRow ps[i]).length := hj
  exact ⟨_, List.getElem?_eq_getElem this⟩
theorem given_cell {w : World} {B gn cn i : Nat} {l : List Bool} (h : w.ownsRow B 4 1 (.slice (some ⟨gn, 0, none⟩) l.length cn) l.length (l.map encB)) (hi : i < l.length) :
    w.cell? ⟨gn, i, none⟩ = some (.bool (l.getD i false)) ∧ w.frozen? ⟨gn, i, none⟩ = false := by
  obtain ⟨g', c', hv, _, _, hc, hf⟩ := own_cell h i hi
  simp only [Value.slice.injEq, Option.some.injEq, Addr.mk.injEq, and_true] at hv
  obtain ⟨rfl, _, _⟩ := hv
  refine ⟨?_, hf⟩
  rw [hc]
  simp [encB, List.getD, hi]

end Go.Proofs.Ytmdgkjbiicaljag

/- The document's wanted, once more: nothing but the replica's block is changed. -/
namespace Go.Proofs.Ytmdgkjbiicaljag
open Go.RowKit
set_option linter.unusedVariables false
set_option linter.unusedSimpArgs false

set_option maxRecDepth 4000 in
set_option maxHeartbeats 4000000 in
theorem wantedOf_far (b B : Nat) (R : ReplM) (view : Int) (w : World) (h : HeldAt w b B R) (hme : 0 ≤ R.me) (hme' : R.me < 3) (hB : B ≤ w.heap.size) :
    Calls Try.prog 41 #[.pointer (some ⟨b, 0, none⟩), .int .i64 view] w fun e w' => ∃ v, e = .returned v ∧ HeldAt w' b B (wantR R view) ∧ MsgsNew w' w.heap.size v (wantL R view) ∧ Beside w.heap.size b w w' := by
  obtain ⟨vl, vh, vw, vg, vn, ps, hx, ho⟩ := h
  obtain ⟨al, cl, hvl⟩ := own_form ho.2.1
  subst hvl
  have x0 := hx.cell 0 _ rfl
  have x1 := hx.cell 1 _ rfl
  have x2 := hx.cell 2 _ rfl
  have x3 := hx.cell 3 _ rfl
  have x4 := hx.cell 4 _ rfl
  have x5 := hx.cell 5 _ rfl
  have x6 := hx.cell 6 _ rfl
  have x7 := hx.cell 7 _ rfl
  have x8 := hx.cell 8 _ rfl
  have x9 := hx.cell 9 _ rfl
  have f1 := hx.frozen 1
  have f3 := hx.frozen 3
  have lb := hx.lt
  obtain ⟨w1, hw1⟩ : ∃ w1, w1 = (w.setCell ⟨b, 1, none⟩ (.int .i64 view)).setCell ⟨b, 3, none⟩ (.bool false) := ⟨_, rfl⟩
  have hx1 : Box w1 b 29 [.int .i64 R.me, .int .i64 view, .int .i64 R.kept.normal, .bool false, .slice al R.kept.log.length cl, .int .i64 R.kept.commit, vh, vw, vg, vn] := by rw [hw1]; exact (hx.set 1 (.int .i64 view)).set 3 (.bool false)
  have ho1 : w1.ownsRow B 9 1 (.slice al R.kept.log.length cl) R.kept.log.length (R.kept.log.map enc) := by
    rw [hw1]
    have t1 : ReplOwn (w.setCell ⟨b, 1, none⟩ (.int .i64 view)) B R _ vh vw vg vn ps := ho.type hx (by decide) (by decide) (by decide) (by decide) 1 _
    exact (t1.type (hx.set 1 _) (by decide) (by decide) (by decide) (by decide) 3 _ : ReplOwn _ B R _ vh vw vg vn ps).2.1
  have hs1 : w1.heap.size = w.heap.size := by rw [hw1]; simp
  have hbs : Beside w.heap.size b w w1 := by rw [hw1]; exact ((Beside.refl w.heap.size b w).setCell (a := ⟨b, 1, none⟩) (Or.inl rfl) _).setCell (a := ⟨b, 3, none⟩) (Or.inl rfl) _
  have HX1 : Hid (Box w1 b _ _) := hx1
  have HO1 : Hid (w1.ownsRow B _ _ _ _ _) := ho1
  have HS1 : Hid (w1.heap.size = w.heap.size) := hs1
  have HBS : Hid (Beside w.heap.size b w w1) := hbs
  clear hx1 ho1 hs1 hbs hx ho
  go_enter Try.func41, Try.ntmps41
  go_upto_region 3 with fail
  rw [← hw1]
  clear hw1 x0 x1 x2 x3 x4 x5 x6 x7 x8 x9 f1 f3
  go_wp2_with fail
  refine (forgotten_any b _ _ _ _ _ _ _ _ _ _ w1 HX1.out).mono ?_
  rintro e w2 ⟨bh, bw, bg, bn, rfl, hF, hx2, hb2⟩
  have hs2 := hb2.size
  have hs1 := HS1.out
  have hl2 : w2.ownsRow B 9 1 (.slice al R.kept.log.length cl) R.kept.log.length (R.kept.log.map enc) := own_beside HO1.out hb2 fun k hk => ⟨own_lt HO1.out k hk, fun e => own_type HO1.out HX1.out (by decide) (by rw [← e]; exact hk)⟩
  have ho2 := four_own (hF.base (B' := B) (by omega)) R.me ⟨view, R.kept.normal, false, R.kept.log, R.kept.commit⟩ _ hl2 [] [] [] []
  have HB2 : Hid (Beside w.heap.size b w w2) := HBS.out.trans (hb2.mono (by omega))
  have HS2 : Hid (w.heap.size ≤ w2.heap.size) := by unfold Hid; omega
  obtain ⟨mi, hmi⟩ : ∃ mi : Nat, R.me = (mi : Int) := ⟨R.me.toNat, by omega⟩
  have emi : R.me.toNat = mi := by omega
  have hx2 : Box w2 b 29 [.int .i64 R.me, .int .i64 view, .int .i64 R.kept.normal, .bool false, .slice al R.kept.log.length cl, .int .i64 R.kept.commit, row3 bh, row3 bw, row3 bg, row3 bn] := hx2
  have hq := hF.2.2.2.2.2.2.1
  have hbwb : bw ≠ b := by have := hF.2.2.1; omega
  have ho3 := ReplOwn.wants (g := bw) (cap := 3) ho2 mi true
  have hx3 := hx2.row ho2.2.2.2.1 rfl (by decide) (.bool true) (i := mi)
  have hfw := hq.frozen mi
  have hcw : w2.cell? ⟨bw, mi, none⟩ = some (.bool false) := by
    refine hq.cell mi _ ?_
    have : mi = 0 ∨ mi = 1 ∨ mi = 2 := by omega
    rcases this with rfl | rfl | rfl <;> rfl
  have hb3 : Beside w.heap.size b w2 (w2.setCell ⟨bw, mi, none⟩ (.bool true)) := (Beside.refl w.heap.size b w2).setCell (Or.inr (by have := hF.2.2.1; show w.heap.size ≤ bw; omega)) _
  have x0 := hx2.cell 0 _ rfl
  have x1 := hx2.cell 1 _ rfl
  have x2 := hx2.cell 2 _ rfl
  have x3 := hx2.cell 3 _ rfl
  have x4 := hx2.cell 4 _ rfl
  have x5 := hx2.cell 5 _ rfl
  have x6 := hx2.cell 6 _ rfl
  have x7 := hx2.cell 7 _ rfl
  have x8 := hx2.cell 8 _ rfl
  have x9 := hx2.cell 9 _ rfl
  obtain ⟨w3, hw3⟩ : ∃ w3, w3 = w2.setCell ⟨bw, mi, none⟩ (.bool true) := ⟨_, rfl⟩
  have hs3 : w3.heap.size = w2.heap.size := by rw [hw3]; simp
  rw [← hw3] at ho3 hx3 hb3
  have HX3 : Hid (Box w3 b _ _) := hx3
  have HO3 : Hid (ReplOwn w3 B _ _ _ _ _ _ _) := ho3
  have HB3 : Hid (Beside w.heap.size b w w3) := HB2.out.trans hb3
  have HS3 : Hid (w.heap.size ≤ w3.heap.size) := by unfold Hid; have := HS2.out; omega
  have k0 : (0 : Int) ≤ (mi : Int) := by omega
  have k1 : (mi : Int) < 3 := by omega
  rw [hmi] at x0
  simp only [row3] at x7
  have HME : Hid (R.me.toNat = mi) := emi
  have HMI : Hid (R.me = (mi : Int)) := hmi
  clear hF hx2 hb2 hl2 ho2 hq ho3 hx3 hb3 hs1 hs2 hs3 HX1 HO1 HS1 HBS emi hmi hme hme'
  go_upto_region 4 with fail
  refine wp_region_two [0, 0, 0, 0, 0, 0, 0, 0, 0, 1] (by kernel_rfl) (by kernel_rfl) ?_
  simp only [sel, ↓reduceIte, Nat.reduceEqDiff]
  repeat (go_big_quiet_step (fail))
  refine wpQuiet_nil ?_
  intro w9 hw9
  obtain ⟨nq, rfl⟩ := hw9
  go_upto_region 5 with fail
  have ew : (w2.drewN nq).setCell ⟨bw, mi, none⟩ (.bool true) = w3.drewN nq := by rw [hw3]; rfl
  rw [ew]
  clear x0 x1 x2 x3 x4 x5 x6 x7 x8 x9 ew hw3 hcw hfw
  have hx4 : Box (w3.drewN nq) b 29 [.int .i64 R.me, .int .i64 view, .int .i64 R.kept.normal, .bool false, .slice al R.kept.log.length cl, .int .i64 R.kept.commit, .slice (some ⟨bh, 0, none⟩) 3 3, .slice (some ⟨bw, 0, none⟩) 3 3, .slice (some ⟨bg, 0, none⟩) 3 3, .slice (some ⟨bn, 0, none⟩) 3 3] := HX3.out
  have x0 := hx4.cell 0 _ rfl
  have x1 := hx4.cell 1 _ rfl
  have x2 := hx4.cell 2 _ rfl
  have x3 := hx4.cell 3 _ rfl
  have x4 := hx4.cell 4 _ rfl
  have x5 := hx4.cell 5 _ rfl
  have x6 := hx4.cell 6 _ rfl
  have x7 := hx4.cell 7 _ rfl
  have x8 := hx4.cell 8 _ rfl
  have x9 := hx4.cell 9 _ rfl
  have HX4 : Hid (Box (w3.drewN nq) b _ _) := hx4
  clear hx4
  have HTA : Hid (Calls _ _ _ (w3.drewN nq) _) := toAllOf_any R.me view (.int .i64 R.kept.normal) (.bool false) (.slice al R.kept.log.length cl) (.int .i64 R.kept.commit) (.slice (some ⟨bh, 0, none⟩) 3 3) (.slice (some ⟨bw, 0, none⟩) 3 3) (.slice (some ⟨bg, 0, none⟩) 3 3) (.slice (some ⟨bn, 0, none⟩) 3 3) ⟨3, 0, 0, 0, 0, 0, 0, []⟩ (.slice none 0 0) (w3.drewN nq) (rowAt_nil _) (by simp)
  have e1 : sentTo R.me view ⟨3, 0, 0, 0, 0, 0, 0, []⟩ 3 = wantL R view := sentTo_all (wantR R view) 3 0 0 [] rfl 0 0 0 0 rfl
  rw [e1] at HTA
  simp only [msgCells] at HTA
  clear e1
  go_wp2_with fail
  refine HTA.out.mono ?_
  rintro e w4 ⟨v4, rfl, hm4, hb4⟩
  obtain ⟨a4, c4, rfl⟩ := hm4.form
  have HE : Hid (HeldAt w4 b B (wantR R view) ∧ MsgsNew w4 w.heap.size (.slice a4 (wantL R view).length c4) (wantL R view) ∧ Beside w.heap.size b w w4) := by
    have hh : HeldAt (w3.drewN nq) b B (wantR R view) := by
      rw [show wantR R view = ⟨R.me, ⟨view, R.kept.normal, false, R.kept.log, R.kept.commit⟩, [0, 0, 0], [false, false, false].set mi true, [zeroKept, zeroKept, zeroKept], [false, false, false]⟩ from by unfold wantR; rw [HME.out]]
      exact ⟨_, _, _, _, _, _, HX4.out, HO3.out⟩
    have hbd : Beside w.heap.size b w (w3.drewN nq) := ⟨HB3.out.os, HB3.out.tape, HB3.out.output, HB3.out.size, HB3.out.block⟩
    exact ⟨hh.below hb4, hm4.base HS3.out, hbd.far (Nat.le_refl _) hb4⟩
  clear hm4 hb4 HTA x0 x1 x2 x3 x4 x5 x6 x7 x8 x9
  go_wp2_with fail
  go_ret
  exact ⟨_, rfl, HE.out⟩

end Go.Proofs.Ytmdgkjbiicaljag
