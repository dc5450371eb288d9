/- The program's own: keepGiven. -/
import Derived.Test.YtmdgkjbiicaljagDoorGiveGo
namespace Go.Proofs.YtmdgkjbiicaljagDoor
open Go.RowKit
set_option linter.unusedVariables false
set_option linter.unusedSimpArgs false

theorem own_putAll {base : Nat} {e : TypeId} {size g n cap : Nat} : ∀ (cs : List Value) (w : World) (xs : List Value) (k : Nat), w.ownsRow base e size (.slice (some ⟨g, 0, none⟩) n cap) n xs → (setAll w g k cs).ownsRow base e size (.slice (some ⟨g, 0, none⟩) n cap) n (putAt xs k cs)
  | [], _, _, _, h => h
  | c :: cs, w, xs, k, h => own_putAll cs _ _ (k + 1) (own_set h k c)
theorem give_own {w : World} {B g cg gn cn i : Nat} {R : ReplM} {vl vh vw vk : Value} {ps : List (KeptM × Value)} {K : KeptM} (h : ReplOwn w B R vl vh vw (.slice (some ⟨g, 0, none⟩) R.gives.length cg) (.slice (some ⟨gn, 0, none⟩) R.given.length cn) ps) (hi : i < ps.length)
    (hk : w.ownsRow B 9 1 vk K.log.length (K.log.map enc)) (ha : Asunder vl vk) :
    ReplOwn ((setAll w g (i * 5) (keptCells K vk)).setCell ⟨gn, i, none⟩ (.bool true)) B (withGive R i K) vl vh vw (.slice (some ⟨g, 0, none⟩) R.gives.length cg) (.slice (some ⟨gn, 0, none⟩) R.given.length cn) (ps.set i (K, vk)) := by
  obtain ⟨h0, h1, h2, h3, h4, h5, h6, h7⟩ := h
  have hl : R.gives.length = ps.length := by rw [h0, List.length_map]
  rw [hl] at h4 ⊢
  have hne : g ≠ gn := fun e => own_types h4.1 h5 (by decide) (g := gn) rfl (by rw [e]; rfl)
  -- rows of another type
  have o1 : ∀ (e : TypeId) (s : Nat) (v : Value) (n : Nat) (xs : List Value), 25 ≠ e → w.ownsRow B e s v n xs → (setAll w g (i * 5) (keptCells K vk)).ownsRow B e s v n xs := fun e s v n xs he r => setAll_own _ w _ r (fun q => own_types r h4.1 (Ne.symm he) (g := g) rfl q)
  have k4 : (setAll w g (i * 5) (keptCells K vk)).ownsRow B 25 5 (.slice (some ⟨g, 0, none⟩) ps.length cg) ps.length ((ps.set i (K, vk)).flatMap keptRow) := by
    rw [flat_set keptRow 5 keptRow_len ps i (K, vk) hi]
    exact own_putAll _ _ _ _ h4.1
  have k5 := o1 _ _ _ _ _ (by decide) h5
  have o2 : ∀ (e : TypeId) (s : Nat) (v : Value) (n : Nat) (xs : List Value), 4 ≠ e → (setAll w g (i * 5) (keptCells K vk)).ownsRow B e s v n xs → ((setAll w g (i * 5) (keptCells K vk)).setCell ⟨gn, i, none⟩ (.bool true)).ownsRow B e s v n xs := fun e s v n xs he r => own_other (a := ⟨gn, i, none⟩) r (own_types r k5 (Ne.symm he) rfl) _
  refine ⟨?_, o2 _ _ _ _ _ (by decide) (o1 _ _ _ _ _ (by decide) h1), o2 _ _ _ _ _ (by decide) (o1 _ _ _ _ _ (by decide) h2), own_other (o1 _ _ _ _ _ (by decide) h3) (fun e => h6 gn e rfl) _, ⟨?_, fun p hp => ?_⟩, ?_, h6, fun p hp => ?_⟩
  · show R.gives.set i K = _
    rw [List.map_set, ← h0]
  · rw [List.length_set]
    exact o2 _ _ _ _ _ (by decide) k4
  · rcases List.mem_or_eq_of_mem_set hp with q | q
    · exact o2 _ _ _ _ _ (by decide) (o1 _ _ _ _ _ (by decide) (h4.2 p q))
    · rw [q]
      exact o2 _ _ _ _ _ (by decide) (o1 _ _ _ _ _ (by decide) hk)
  · show World.ownsRow _ _ _ _ _ (R.given.set i true).length ((R.given.set i true).map encB)
    rw [List.length_set, List.map_set]
    exact own_set k5 i (.bool true)
  · rcases List.mem_or_eq_of_mem_set hp with q | q
    · exact h7 p q
    · rw [q]; exact ha

theorem setAll_beside_up {B b g : Nat} (hg : B ≤ g) : ∀ (xs : List Value) (u w : World) (i : Nat), Beside B b u w → Beside B b u (setAll w g i xs)
  | [], _, _, _, h => h
  | x :: xs, u, w, i, h => setAll_beside_up hg xs u _ (i + 1) (h.setCell (Or.inr hg) x)
theorem Box.setAll_other {b g : Nat} {t : TypeId} {cs : List Value} (hne : b ≠ g) : ∀ (xs : List Value) (k : Nat) {w : World}, Box w b t cs → Box (setAll w g k xs) b t cs
  | [], _, _, h => h
  | x :: xs, k, _, h => Box.setAll_other hne xs (k + 1) (h.other _ hne)
theorem setAll_heap_other {g j : Nat} (hne : j ≠ g) : ∀ (xs : List Value) (w : World) (k : Nat), (setAll w g k xs).heap[j]? = w.heap[j]?
  | [], _, _ => rfl
  | x :: xs, w, k => by
    show (setAll (w.setCell ⟨g, k, none⟩ x) g (k + 1) xs).heap[j]? = _
    rw [setAll_heap_other hne xs, Below.heap_setCell _ _ _ _ hne]
theorem setAll_cell_other {g : Nat} (xs : List Value) (w : World) (k : Nat) {j i : Nat} (hne : j ≠ g) : (setAll w g k xs).cell? ⟨j, i, none⟩ = w.cell? ⟨j, i, none⟩ := by
  simp only [World.cell?, setAll_heap_other hne]
theorem setAll_frozen_other {g : Nat} (xs : List Value) (w : World) (k : Nat) {j i : Nat} (hne : j ≠ g) : (setAll w g k xs).frozen? ⟨j, i, none⟩ = w.frozen? ⟨j, i, none⟩ := by
  simp only [World.frozen?, setAll_heap_other hne]

set_option maxRecDepth 4000 in
set_option maxHeartbeats 8000000 in
theorem keepGiven_any (b B mi : Nat) (R : ReplM) (L : List MsgM) (K : KeptM) (u : Value) (w : World) (h : TurnAt w b B R L) (hm : KeptAt w u K) (hz : K.log.length * 16 ≤ 140737488355328) (hi : mi < 3) (h3 : R.gives.length = 3) (h3' : R.given.length = 3) (hB : B ≤ w.heap.size) :
    Calls Tryd.prog 48 #[.pointer (some ⟨b, 0, none⟩), .int .i64 mi, u] w fun e w' => e = .returned (.tuple #[]) ∧ TurnAt w' b B (withGive R mi K) L ∧ Beside B b w w' ∧ Leaves 68 b w w' := by
  have HKA : Hid (∀ W, Below w.heap.size w W → KeptAt W u K) := fun W hW => hm.below hW
  obtain ⟨vl, rfl, hs⟩ := hm
  obtain ⟨ak, ck, rfl, _, _⟩ := hs
  have bm := Box.new w 25 [.int .i64 K.view, .int .i64 K.normal, .bool K.calm, .slice ak K.log.length ck, .int .i64 K.commit]
  obtain ⟨w0, hw0⟩ : ∃ w0, w0 = w.alloc (.cells #[.int .i64 K.view, .int .i64 K.normal, .bool K.calm, .slice ak K.log.length ck, .int .i64 K.commit] 25) := ⟨_, rfl⟩
  have hb0 : Below w.heap.size w w0 := by rw [hw0]; exact below_alloc _ _
  have hs0 : w0.heap.size = w.heap.size + 1 := by rw [hw0]; simp
  have h0 := turn_below h hb0
  have HLV : Hid (Leaves 68 b w w0) := by
    obtain ⟨_, _, _, _, _, _, _, hxw, _⟩ := h
    exact Leaves.below hxw hb0
  rw [← hw0] at bm
  have HB0 : Hid (Below w.heap.size w w0) := hb0
  have HS0 : Hid (w0.heap.size = w.heap.size + 1) := hs0
  obtain ⟨vl, vh, vw, vg, vn, vs, ps, hx, ho, hmn⟩ := h0
  obtain ⟨al, cl, ah, ch, aw, cw, ag, cg, an, cn, rfl, rfl, rfl, rfl, rfl⟩ := ho.forms
  have hpl : ps.length = 3 := by rw [← h3, ho.1, List.length_map]
  obtain ⟨g, cg', hvg, hgB, _, _, _⟩ := own_cellN ho.2.2.2.2.1.1 (by decide) (mi * 5) (by omega)
  obtain ⟨gn, cn', hvn, hgnB, _, _, _⟩ := own_cell ho.2.2.2.2.2.1 mi (by omega)
  simp only [Value.slice.injEq] at hvg hvn
  obtain ⟨rfl, _, rfl⟩ := hvg
  obtain ⟨rfl, _, rfl⟩ := hvn
  have HOL : Hid (∀ k, (Value.slice (some ⟨g, 0, none⟩) R.gives.length cg).ownBlock = some k → k < w.heap.size) := fun k hk => by
    obtain ⟨_, _, _, _, vg', _, _, hxw, how, _⟩ := h
    have e := (hxw.below hb0 hxw.lt).uniq hx
    simp only [List.cons.injEq, and_true, true_and] at e
    obtain ⟨_, _, _, rfl, _, _⟩ := e
    exact own_lt how.2.2.2.2.1.1 k hk
  have HX : Hid (Box w0 b _ _) := hx
  have HBM : Hid (Box w0 w.heap.size _ _) := bm
  have HO : Hid (ReplOwn w0 B R _ _ _ _ _ _) := ho
  have HM : Hid (MsgsNew w0 B vs L) := hmn
  have HPL : Hid (ps.length = 3 ∧ R.gives.length = 3 ∧ R.given.length = 3) := ⟨hpl, h3, h3'⟩
  have k0 : (0 : Int) ≤ (mi : Int) := by omega
  have k1 : (mi : Int) < (R.gives.length : Int) := by omega
  have k2 : (mi : Int) < (R.given.length : Int) := by omega
  clear hx ho hmn bm h hb0 hs0 hpl h3 h3'
  go_enter Tryd.func48, Tryd.ntmps48
  go_upto_region 1 with fail
  rw [← hw0]
  clear hw0
  refine wp_region_free [0, 0, 0, 0, 0, 0, 0, 0, 0, 0, 0, 0, 0, 1, 1, 1, 2, 2] (by kernel_rfl) (by kernel_rfl) (fun h => h) (fun V => Box V b 68 [.int .i64 R.me, .int .i64 R.kept.view, .int .i64 R.kept.normal, .bool R.kept.calm, .slice al R.kept.log.length cl, .int .i64 R.kept.commit, .slice ah R.hav.length ch, .slice aw R.wants.length cw, .slice (some ⟨g, 0, none⟩) R.gives.length cg, .slice (some ⟨gn, 0, none⟩) R.given.length cn, vs] ∧ Box V w.heap.size 25 [.int .i64 K.view, .int .i64 K.normal, .bool K.calm, .slice ak K.log.length ck, .int .i64 K.commit]) ⟨HX.out, HBM.out⟩ (fun V n hV => hV) ?_
  apply Exists.intro
  refine ⟨?_, ?_⟩
  · intro V hV
    have bx := hV.1
    have by' := hV.2
    have x0 := bx.cell 0 _ rfl
    have x1 := bx.cell 1 _ rfl
    have x2 := bx.cell 2 _ rfl
    have x3 := bx.cell 3 _ rfl
    have x4 := bx.cell 4 _ rfl
    have x5 := bx.cell 5 _ rfl
    have x6 := bx.cell 6 _ rfl
    have x7 := bx.cell 7 _ rfl
    have x8 := bx.cell 8 _ rfl
    have x9 := bx.cell 9 _ rfl
    have x10 := bx.cell 10 _ rfl
    have y0 := by'.cell 0 _ rfl
    have y1 := by'.cell 1 _ rfl
    have y2 := by'.cell 2 _ rfl
    have y3 := by'.cell 3 _ rfl
    have y4 := by'.cell 4 _ rfl
    simp only [sel, ↓reduceIte, Nat.reduceEqDiff]
    repeat (go_big_quiet_step (fail))
    refine wpQuiet_nil ?_
    rfl
  · intro n
    simp only [sel, ↓reduceIte, Nat.reduceEqDiff]
    refine wpEarly_cons ?_
    go_wp2_with fail
    refine (stageCopy_any K _ (w0.drewN n) (HKA.out _ (below_drewN n HB0.out)) hz).mono ?_
    rintro e w2 ⟨v2, rfl, hn2, hb2⟩
    obtain ⟨vk, rfl, hk2⟩ := hn2
    obtain ⟨a2, c2, rfl⟩ := own_form hk2
    have hbw : Below w0.heap.size w0 w2 := ⟨hb2.os, hb2.tape, hb2.output, hb2.size, hb2.block⟩
    have HB2 : Hid (Below w0.heap.size w0 w2) := hbw
    have HK2 : Hid (w2.ownsRow w0.heap.size _ _ _ _ _) := hk2
    have HO2 : Hid (ReplOwn w2 B R _ _ _ _ _ _) := HO.out.below hbw
    have HX2 : Hid (Box w2 b _ _) := HX.out.below hbw HX.out.lt
    have HBM2 : Hid (Box w2 w.heap.size _ _) := HBM.out.below hbw HBM.out.lt
    clear hk2 hb2
    go_wp2_with fail
    refine wpEarly_next ⟨HX2.out, HBM2.out⟩ fun m => ?_
    refine wpEarly_cons ?_
    clear hbw
    have hg5 : ∀ j, j < 5 → (∃ x, w2.cell? ⟨g, mi * 5 + j, none⟩ = some x) ∧ w2.frozen? ⟨g, mi * 5 + j, none⟩ = false := fun j hj => by
      have hpl := HPL.out.1
      obtain ⟨g', c', hv, _, _, hc, hf⟩ := own_cellN HO2.out.2.2.2.2.1.1 (by decide) (mi * 5 + j) (by omega)
      simp only [Value.slice.injEq, Option.some.injEq, Addr.mk.injEq, and_true] at hv
      obtain ⟨rfl, _, _⟩ := hv
      refine ⟨?_, hf⟩
      rw [hc, flat_get keptRow 5 keptRow_len ps mi j (ps[mi]'(by omega)) (List.getElem?_eq_getElem (by omega)) hj]
      have : j < (keptRow (ps[mi]'(by omega))).length := hj
      exact ⟨_, List.getElem?_eq_getElem this⟩
    obtain ⟨⟨q0, p0⟩, r0⟩ := hg5 0 (by omega)
    obtain ⟨⟨q1, p1⟩, r1⟩ := hg5 1 (by omega)
    obtain ⟨⟨q2, p2⟩, r2⟩ := hg5 2 (by omega)
    obtain ⟨⟨q3, p3⟩, r3⟩ := hg5 3 (by omega)
    obtain ⟨⟨q4, p4⟩, r4⟩ := hg5 4 (by omega)
    rw [Nat.add_zero] at p0 r0
    obtain ⟨g', c', hv, _, _, hc5, r5⟩ := own_cell HO2.out.2.2.2.2.2.1 mi (by have := HPL.out.2.2; omega)
    simp only [Value.slice.injEq, Option.some.injEq, Addr.mk.injEq, and_true] at hv
    obtain ⟨rfl, _, _⟩ := hv
    have hlt5 : mi < R.given.length := by omega
    simp only [List.getElem?_map, List.getElem?_eq_getElem hlt5, Option.map_some, encB] at hc5
    generalize R.given[mi] = s5 at hc5
    have hne : g ≠ gn := fun e => own_types HO2.out.2.2.2.2.1.1 HO2.out.2.2.2.2.2.1 (by decide) (g := gn) rfl (by rw [e]; rfl)
    clear hg5 hlt5
    go_wp2_with fail
    refine wpEarly_next ⟨HX2.out, HBM2.out⟩ fun m2 => ?_
    refine wpEarly_cons ?_
    go_wp2_with fail
    have hbg : b ≠ g := fun e => own_type HO2.out.2.2.2.2.1.1 HX2.out (by decide) (congrArg some e.symm)
    have hbn : b ≠ gn := fun e => own_type HO2.out.2.2.2.2.2.1 HX2.out (by decide) (congrArg some e.symm)
    have hkg : w.heap.size ≠ g := fun e => by
      have h1 := own_lt HO.out.2.2.2.2.1.1 g rfl
      have h2 := HS0.out
      have h3 := HOL.out g rfl
      omega
    have hx3 := HX2.out.drewN (m + m2) |>.setAll_other hbg (keptCells K (.slice a2 K.log.length c2)) (mi * 5)
    have hbm3 := HBM2.out.drewN (m + m2) |>.setAll_other hkg (keptCells K (.slice a2 K.log.length c2)) (mi * 5)
    have c5 : (setAll (w2.drewN (m + m2)) g (mi * 5) (keptCells K (.slice a2 K.log.length c2))).cell? ⟨gn, mi, none⟩ = some (.bool s5) := by
      rw [setAll_cell_other _ _ _ (Ne.symm hne)]; exact hc5
    have f5 : (setAll (w2.drewN (m + m2)) g (mi * 5) (keptCells K (.slice a2 K.log.length c2))).frozen? ⟨gn, mi, none⟩ = false := by
      rw [setAll_frozen_other _ _ _ (Ne.symm hne)]; exact r5
    have HGO : Hid (ReplOwn ((setAll (w2.drewN (m + m2)) g (mi * 5) (keptCells K (.slice a2 K.log.length c2))).setCell ⟨gn, mi, none⟩ (.bool true)) B (withGive R mi K) _ _ _ _ _ _) :=
      give_own (HO2.out.below (below_drewN (m + m2) (Below.refl _ _))) (by have := HPL.out.1; omega) (own_base (own_drewN (m + m2) HK2.out) (by have := HS0.out; omega)) (Asunder.symm (asunder_new (W := w2) (C := 0) HO.out.2.1 (fun k hk => own_ge HK2.out k hk)))
    have HMG : Hid (MsgsNew ((setAll (w2.drewN (m + m2)) g (mi * 5) (keptCells K (.slice a2 K.log.length c2))).setCell ⟨gn, mi, none⟩ (.bool true)) B vs L) := by
      obtain ⟨qs, hL, hq⟩ := HM.out
      have hq2 := hq.below (HB2.out)
      have hq3 : MsgsOwn (w2.drewN (m + m2)) B vs qs := hq2.below (below_drewN (m + m2) (Below.refl _ _))
      refine ⟨qs, hL, hq3.map fun e' _ _ _ _ he r => own_other (a := ⟨gn, mi, none⟩) (setAll_own _ _ _ r (fun q => own_types r HO2.out.2.2.2.2.1.1 (by rcases he with rfl | rfl <;> decide) (g := g) rfl q)) (fun q => own_types r HO2.out.2.2.2.2.2.1 (by rcases he with rfl | rfl <;> decide) (g := gn) rfl q) _⟩
    have HLT : Hid (Leaves 68 b w ((setAll (w2.drewN (m + m2)) g (mi * 5) (keptCells K (.slice a2 K.log.length c2))).setCell ⟨gn, mi, none⟩ (.bool true)) ∧ Beside B b w ((setAll (w2.drewN (m + m2)) g (mi * 5) (keptCells K (.slice a2 K.log.length c2))).setCell ⟨gn, mi, none⟩ (.bool true))) := by
      refine ⟨HLV.out.trans (Leaves.of HX.out (hx3.other (a := ⟨gn, mi, none⟩) _ hbn) ?_ (fun c hc k e => Or.inr ⟨c, hc, e⟩) fun k hk hkb hcs => ?_), ?_⟩
      · have := HB2.out.size
        refine Nat.le_trans this (Nat.le_of_eq ?_)
        rw [show (World.setCell (setAll (w2.drewN (m + m2)) g (mi * 5) (keptCells K (.slice a2 K.log.length c2))) ⟨gn, mi, none⟩ (.bool true)).heap.size = (setAll (w2.drewN (m + m2)) g (mi * 5) (keptCells K (.slice a2 K.log.length c2))).heap.size by simp, setAll_size]
        rfl
      · have e1 : k ≠ g := fun e => hcs (.slice (some ⟨g, 0, none⟩) R.gives.length cg) (by simp) (congrArg some e.symm)
        have e2 : k ≠ gn := fun e => hcs (.slice (some ⟨gn, 0, none⟩) R.given.length cn) (by simp) (congrArg some e.symm)
        rw [Below.heap_setCell _ _ _ _ e2, setAll_heap_other e1]
        exact HB2.out.block k hk
      · refine (((Beside.of (HB0.out.mono hB)).trans (Beside.of (HB2.out.mono (by have := HS0.out; omega)))).trans (setAll_beside_up hgB _ _ _ _ (Beside.of (b := b) (below_drewN (m + m2) ?_)))).setCell (a := ⟨gn, mi, none⟩) (Or.inr hgnB) _
        exact below_drewN_refl (Nat.le_trans hB (Nat.le_trans (by have := HS0.out; omega) HB2.out.size))
    obtain ⟨w3, hw3⟩ : ∃ w3, w3 = setAll (w2.drewN (m + m2)) g (mi * 5) (keptCells K (.slice a2 K.log.length c2)) := ⟨_, rfl⟩
    rw [← hw3] at HGO HMG HLT hx3 hbm3 c5 f5
    simp only [setAll, keptCells, Nat.add_assoc, Nat.reduceAdd] at hw3
    rw [← hw3]
    clear hw3
    have HX3 : Hid (Box w3 b _ _) := hx3
    refine wpEarly_next ⟨hx3, hbm3⟩ fun m3 => ?_
    refine wpEarly_nil ?_
    clear hx3 hbm3 p0 p1 p2 p3 p4 r0 r1 r2 r3 r4 r5 hc5
    have HE : Hid (TurnAt ((w3.drewN m3).setCell ⟨gn, mi, none⟩ (.bool true)) b B (withGive R mi K) L ∧ Beside B b w ((w3.drewN m3).setCell ⟨gn, mi, none⟩ (.bool true)) ∧ Leaves 68 b w ((w3.drewN m3).setCell ⟨gn, mi, none⟩ (.bool true))) := by
      have ht : TurnAt (w3.setCell ⟨gn, mi, none⟩ (.bool true)) b B (withGive R mi K) L := ⟨_, _, _, _, _, _, _, by
        show Box _ b _ [.int .i64 R.me, .int .i64 R.kept.view, .int .i64 R.kept.normal, .bool R.kept.calm, _, .int .i64 R.kept.commit, _, _, _, _, _]
        exact HX3.out.other (a := ⟨gn, mi, none⟩) _ hbn, HGO.out, HMG.out⟩
      have e : (w3.drewN m3).setCell ⟨gn, mi, none⟩ (.bool true) = (w3.setCell ⟨gn, mi, none⟩ (.bool true)).drewN m3 := rfl
      rw [e]
      refine ⟨turn_below ht (below_drewN m3 (Below.refl _ _)), HLT.out.2.trans (Beside.of (below_drewN m3 (below_drewN_refl ?_))), HLT.out.1.trans (Leaves.below (HX3.out.other (a := ⟨gn, mi, none⟩) _ hbn) (below_drewN m3 (Below.refl _ _)))⟩
      exact HLT.out.2.up hB
    clear HGO HMG HLT HX3
    go_wp2_with fail
    go_end0
    exact ⟨rfl, HE.out⟩

end Go.Proofs.YtmdgkjbiicaljagDoor
