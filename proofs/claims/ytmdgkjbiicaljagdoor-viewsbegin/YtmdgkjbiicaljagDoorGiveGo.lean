/- The program's own: what a turn keeps of what is given. -/
import Derived.Test.YtmdgkjbiicaljagDoorHearHs
namespace Go.Proofs.YtmdgkjbiicaljagDoor
open Go.RowKit
set_option linter.unusedVariables false
set_option linter.unusedSimpArgs false

def betterK (a b : KeptM) : Bool := if a.normal = b.normal then decide (b.log.length < a.log.length) else decide (b.normal < a.normal)

set_option maxRecDepth 4000 in
set_option maxHeartbeats 4000000 in
theorem isBetter_any (X Y : KeptM) (u v : Value) (w : World) (hu : KeptAt w u X) (hv : KeptAt w v Y) :
    Calls Tryd.prog 63 #[u, v] w fun e w' => e = .returned (.bool (betterK X Y)) ∧ Below w.heap.size w w' := by
  obtain ⟨vl, rfl, ⟨ak0, ck0, rfl, _, _⟩⟩ := hu
  obtain ⟨vl, rfl, ⟨ak1, ck1, rfl, _, _⟩⟩ := hv
  have HB : Hid (betterK X Y = if X.normal = Y.normal then decide (Y.log.length < X.log.length) else decide (Y.normal < X.normal)) := rfl
  generalize betterK X Y = BK at *
  obtain ⟨b0, b1, hb⟩ := boxes2 w 25 25 [.int .i64 X.view, .int .i64 X.normal, .bool X.calm, .slice ak0 X.log.length ck0, .int .i64 X.commit] [.int .i64 Y.view, .int .i64 Y.normal, .bool Y.calm, .slice ak1 Y.log.length ck1, .int .i64 Y.commit]
  obtain ⟨w0, hw0⟩ : ∃ w0, w0 = (w.alloc (.cells #[.int .i64 X.view, .int .i64 X.normal, .bool X.calm, .slice ak0 X.log.length ck0, .int .i64 X.commit] 25)).alloc (.cells #[.int .i64 Y.view, .int .i64 Y.normal, .bool Y.calm, .slice ak1 Y.log.length ck1, .int .i64 Y.commit] 25) := ⟨_, rfl⟩
  go_enter Tryd.func63, Tryd.ntmps63
  go_upto_region 1 with fail
  rw [← hw0] at b0 b1 hb ⊢
  clear hw0
  have HBW : Hid (Below w.heap.size w w0) := hb
  have x0 := b0.cell 0 _ rfl
  have x1 := b0.cell 1 _ rfl
  have x2 := b0.cell 2 _ rfl
  have x3 := b0.cell 3 _ rfl
  have x4 := b0.cell 4 _ rfl
  have y0 := b1.cell 0 _ rfl
  have y1 := b1.cell 1 _ rfl
  have y2 := b1.cell 2 _ rfl
  have y3 := b1.cell 3 _ rfl
  have y4 := b1.cell 4 _ rfl
  clear b0 b1 hb
  by_cases hn : X.normal = Y.normal
  · have q : (X.normal != Y.normal) = false := by simpa using hn
    have HX : Hid (BK = decide (Y.log.length < X.log.length)) := by unfold Hid; rw [HB.out, if_pos hn]
    clear HB hn
    go_wp2_with fail
    go_ret
    refine ⟨?_, HBW.out⟩
    rw [HX.out]
    simp
  · have q : (X.normal != Y.normal) = true := by simpa using hn
    have HX : Hid (BK = decide (Y.normal < X.normal)) := by unfold Hid; rw [HB.out, if_neg hn]
    clear HB hn
    go_wp2_with fail
    go_ret
    exact ⟨by rw [HX.out]; rfl, HBW.out⟩

/-- Those that are given. -/
def givenP {α : Type} : List α → List Bool → List α
  | x :: l, true :: g => x :: givenP l g
  | x :: l, false :: g => givenP l g
  | _, _ => []
theorem givenP_snoc {α : Type} : ∀ (l : List α) (g : List Bool) (x : α) (y : Bool), l.length = g.length → givenP (l ++ [x]) (g ++ [y]) = givenP l g ++ if y then [x] else []
  | [], [], x, y, _ => by cases y <;> rfl
  | a :: l, b :: g, x, y, h => by
    have := givenP_snoc l g x y (by simpa using h)
    cases b
    · exact this
    · show a :: givenP (l ++ [x]) (g ++ [y]) = _
      rw [this]; rfl
theorem givenP_take {α : Type} (l : List α) (g : List Bool) (k : Nat) (hl : k < l.length) (hg : k < g.length) : givenP (l.take (k + 1)) (g.take (k + 1)) = givenP (l.take k) (g.take k) ++ if g[k] then [l[k]] else [] := by
  rw [List.take_succ_eq_append_getElem hl, List.take_succ_eq_append_getElem hg]
  exact givenP_snoc _ _ _ _ (by rw [List.length_take, List.length_take]; omega)
theorem givenP_mem {α : Type} : ∀ (l : List α) (g : List Bool) (x : α), x ∈ givenP l g → x ∈ l
  | [], _, x, h => by simp [givenP] at h
  | a :: l, [], x, h => by simp [givenP] at h
  | a :: l, true :: g, x, h => by
    have h : x ∈ a :: givenP l g := h
    rcases List.mem_cons.1 h with e | e
    · simp [e]
    · exact List.mem_cons_of_mem _ (givenP_mem l g x e)
  | a :: l, false :: g, x, h => List.mem_cons_of_mem _ (givenP_mem l g x h)
theorem givenP_len {α : Type} : ∀ (l : List α) (g : List Bool), (givenP l g).length ≤ l.length
  | [], _ => by simp [givenP]
  | a :: l, [] => by simp [givenP]
  | a :: l, true :: g => by show (a :: givenP l g).length ≤ _; have := givenP_len l g; simp; exact this
  | a :: l, false :: g => Nat.le_succ_of_le (givenP_len l g)
theorem givenP_map {α β : Type} (f : α → β) : ∀ (l : List α) (g : List Bool), (givenP l g).map f = givenP (l.map f) g
  | [], _ => rfl
  | a :: l, [] => rfl
  | a :: l, true :: g => by show f a :: (givenP l g).map f = _; rw [givenP_map f l g]; rfl
  | a :: l, false :: g => givenP_map f l g

set_option maxRecDepth 4000 in
set_option maxHeartbeats 4000000 in
theorem given_any (b B : Nat) (R : ReplM) (vl vh vw vg vn vs : Value) (ps : List (KeptM × Value)) (w : World) (hx : Box w b 68 [.int .i64 R.me, .int .i64 R.kept.view, .int .i64 R.kept.normal, .bool R.kept.calm, vl, .int .i64 R.kept.commit, vh, vw, vg, vn, vs]) (ho : ReplOwn w B R vl vh vw vg vn ps) (h3 : ps.length = 3) (h3' : R.given.length = 3) :
    Calls Tryd.prog 60 #[.pointer (some ⟨b, 0, none⟩)] w fun e w' => ∃ v, e = .returned v ∧ w'.ownsRow w.heap.size 25 5 v (givenP ps R.given).length ((givenP ps R.given).flatMap keptRow) ∧ Below w.heap.size w w' := by
  have hgl : R.gives.length = 3 := by rw [ho.1, List.length_map, h3]
  obtain ⟨al, cl, ah, ch, aw, cw, ag, cg, an, cn, rfl, rfl, rfl, rfl, rfl⟩ := ho.forms
  have HX : Hid (Box w b _ _) := hx
  have HG : Hid (∀ k (hk : k < ps.length) j, j < 5 → ∃ g c, (Value.slice ag R.gives.length cg) = .slice (some ⟨g, 0, none⟩) R.gives.length c ∧ w.cell? ⟨g, k * 5 + j, none⟩ = (keptRow ps[k])[j]?) := fun k hk j hj => by
    obtain ⟨g, c, hv, _, _, hc, _⟩ := own_cellN ho.2.2.2.2.1.1 (by decide) (k * 5 + j) (by omega)
    refine ⟨g, c, by rw [hv, hgl, h3], ?_⟩
    rw [hc, flat_get keptRow 5 keptRow_len ps k j ps[k] (List.getElem?_eq_getElem hk) hj]
  have HN : Hid (∀ k (hk : k < R.given.length), ∃ g c, (Value.slice an R.given.length cn) = .slice (some ⟨g, 0, none⟩) R.given.length c ∧ w.cell? ⟨g, k, none⟩ = some (.bool R.given[k])) := fun k hk => by
    obtain ⟨g, c, hv, _, _, hc, _⟩ := own_cell ho.2.2.2.2.2.1 k (by omega)
    refine ⟨g, c, hv, ?_⟩
    rw [hc]
    simp [encB, hk]
  have HL : Hid (ps.length = 3 ∧ R.given.length = 3) := ⟨h3, h3'⟩
  have HFM : Hid (∀ p ∈ ps, ∃ a c, p.2 = .slice a p.1.log.length c) := fun p hp => own_form (ho.2.2.2.2.1.2 p hp)
  rw [hgl, h3'] at hx
  rw [hgl] at HG
  have HN' : Hid (∀ k (hk : k < R.given.length), ∃ g c, (Value.slice an 3 cn) = .slice (some ⟨g, 0, none⟩) 3 c ∧ w.cell? ⟨g, k, none⟩ = some (.bool R.given[k])) := fun k hk => by
    have := HN.out k hk
    rw [h3'] at this
    exact this
  have HX3 : Hid (Box w b _ _) := hx
  have x0 := hx.cell 0 _ rfl
  have x1 := hx.cell 1 _ rfl
  have x2 := hx.cell 2 _ rfl
  have x3 := hx.cell 3 _ rfl
  have x4 := hx.cell 4 _ rfl
  have x5 := hx.cell 5 _ rfl
  have x6 := hx.cell 6 _ rfl
  have x7 := hx.cell 7 _ rfl
  have x8 := hx.cell 8 _ rfl
  have x9 := hx.cell 9 _ rfl
  have x10 := hx.cell 10 _ rfl
  clear hx ho h3 h3' hgl HX HN
  go_enter Tryd.func60, Tryd.ntmps60
  go_wp2_with fail
  go_loopw [3, 12] (fun v i wr => ∃ k : Nat, k ≤ 3 ∧ i = .int .i64 k ∧ wr.ownsRow w.heap.size 25 5 v (givenP (ps.take k) (R.given.take k)).length ((givenP (ps.take k) (R.given.take k)).flatMap keptRow) ∧ Below w.heap.size w wr) (fun v i wr => 3 - (intOf i).toNat)
  case atStart => exact ⟨0, by omega, rfl, World.ownsRow_nil _ _ _ _, Below.refl _ _⟩
  case round =>
    obtain ⟨k, hk, rfl, hown, hbr⟩ := hrel
    obtain ⟨a3, c3, rfl⟩ := own_formN hown
    have HOW : Hid (wr.ownsRow _ _ _ _ _ _) := hown
    have HBR : Hid (Below w.heap.size w wr) := hbr
    have bx := HX3.out.below hbr HX3.out.lt
    clear x0 x1 x2 x3 x4 x5 x6 x7 x8 x9 x10
    have x0 := bx.cell 0 _ rfl
    have x1 := bx.cell 1 _ rfl
    have x2 := bx.cell 2 _ rfl
    have x3 := bx.cell 3 _ rfl
    have x4 := bx.cell 4 _ rfl
    have x5 := bx.cell 5 _ rfl
    have x6 := bx.cell 6 _ rfl
    have x7 := bx.cell 7 _ rfl
    have x8 := bx.cell 8 _ rfl
    have x9 := bx.cell 9 _ rfl
    have x10 := bx.cell 10 _ rfl
    have lb := bx.lt
    have HQ : Hid ((givenP (ps.take k) (R.given.take k)).length ≤ 3) := Nat.le_trans (givenP_len _ _) (by rw [List.length_take]; omega)
    clear bx hown hbr
    by_cases hlt : k < 3
    · have k0 : (0 : Int) ≤ (k : Int) := by omega
      have k1 : (k : Int) < 3 := by omega
      have hkp : k < ps.length := by rw [HL.out.1]; exact hlt
      have hkg : k < R.given.length := by rw [HL.out.2]; exact hlt
      have ht := givenP_take ps R.given k hkp hkg
      obtain ⟨g, c, e1, d0⟩ := HG.out k hkp 0 (by omega)
      obtain ⟨g1, c1, e2, d1⟩ := HG.out k hkp 1 (by omega)
      obtain ⟨g2, c2, e3, d2⟩ := HG.out k hkp 2 (by omega)
      obtain ⟨g3, c3', e4, d3⟩ := HG.out k hkp 3 (by omega)
      obtain ⟨g4, c4, e5, d4⟩ := HG.out k hkp 4 (by omega)
      obtain ⟨g5, c5, e6, d5⟩ := HN'.out k hkg
      simp only [Value.slice.injEq, true_and] at e1
      obtain ⟨rfl, rfl⟩ := e1
      simp only [Value.slice.injEq, true_and, Option.some.injEq, Addr.mk.injEq, and_true] at e2 e3 e4 e5 e6
      obtain ⟨rfl, rfl⟩ := e2
      obtain ⟨rfl, rfl⟩ := e3
      obtain ⟨rfl, rfl⟩ := e4
      obtain ⟨rfl, rfl⟩ := e5
      obtain ⟨rfl, rfl⟩ := e6
      have HKT : Hid (givenP (ps.take (k + 1)) (R.given.take (k + 1)) = _) := ht
      obtain ⟨p, hp⟩ : ∃ p, p = ps[k] := ⟨_, rfl⟩
      obtain ⟨y, hy⟩ : ∃ y, y = R.given[k] := ⟨_, rfl⟩
      rw [← hp] at d0 d1 d2 d3 d4 HKT
      rw [← hy] at d5 HKT
      have hfm := HFM.out p (by rw [hp]; exact List.getElem_mem hkp)
      clear hp hy ht
      obtain ⟨⟨v1, n1, m1, l1, t1⟩, vk⟩ := p
      have hfm : ∃ a c, vk = .slice a l1.length c := hfm
      obtain ⟨a9, c9, rfl⟩ := hfm
      simp only [keptRow, keptCells, List.getElem?_cons_zero, List.getElem?_cons_succ] at d0 d1 d2 d3 d4
      have d0 := keep_cell9 HBR.out d0
      have d1 := keep_cell9 HBR.out d1
      have d2 := keep_cell9 HBR.out d2
      have d3 := keep_cell9 HBR.out d3
      have d4 := keep_cell9 HBR.out d4
      have d5 := keep_cell9 HBR.out d5
      rw [Nat.add_zero] at d0
      have lg : _ < wr.heap.size := lt_of_cell d5
      cases y with
      | true =>
        simp only [↓reduceIte] at HKT
        go_upto_region 6 with fail
        go_wp2_with (at_builtin; refine wpList_append_row _ (by rfl) _ _ 28 (by rfl) w.heap.size 25 Tryd.t25 _ 5 56 Tryd.underlying28 infoKeptC zeroKeptC sizeKeptC bytesKeptC rfl (by decide) _ (givenP (ps.take k) (R.given.take k)).length ((givenP (ps.take k) (R.given.take k)).flatMap keptRow) (by rfl) ?_ _ 1 [.int .i64 v1, .int .i64 n1, .bool m1, .slice a9 l1.length c9, .int .i64 t1] (by rfl) ?_ ?_ ?_ ?_ ?_ ?_)
        · exact own_below (own_below HOW.out (below_alloc _ _) (own_lt HOW.out)) (below_alloc _ _) (own_lt (own_below HOW.out (below_alloc _ _) (own_lt HOW.out)))
        · have q : (wr.alloc (.cells #[.int .i64 v1, .int .i64 n1, .bool m1, .slice a9 l1.length c9, .int .i64 t1] 25)).heap.size = wr.heap.size + 1 := by simp
          rw [← q]
          exact rowAt_box (cs := [.int .i64 v1, .int .i64 n1, .bool m1, .slice a9 l1.length c9, .int .i64 t1]) (Box.new _ _ _) 1 5 rfl
        · simp [Value.oneCell']
        · have := HQ.out
          unfold maxLen
          omega
        · have := HQ.out
          omega
        · have := HBR.out.size
          omega
        intro v7 w7 hown7 hg7 hat7
        obtain ⟨a7, c7, hv7⟩ := own_formN hown7
        subst hv7
        have HR7 : Hid (w7.ownsRow w.heap.size 25 5 (.slice a7 ((givenP (ps.take k) (R.given.take k)).length + 1) c7) (givenP (ps.take (k + 1)) (R.given.take (k + 1))).length ((givenP (ps.take (k + 1)) (R.given.take (k + 1))).flatMap keptRow)) := by
          rw [HKT.out, List.length_append, List.flatMap_append]
          exact hown7
        have HB7 : Hid (Below w.heap.size w w7) := by
          have hBW := HBR.out.size
          refine (Below.far (Below.far HBR.out (below_alloc wr (.cells #[.int .i64 v1, .int .i64 n1, .bool m1, .slice a9 l1.length c9, .int .i64 t1] 25))) (below_alloc _ (.cells #[.int .i64 v1, .int .i64 n1, .bool m1, .slice a9 l1.length c9, .int .i64 t1] 25))).trans ?_
          exact ⟨hg7.os, hg7.tape, hg7.output, hg7.size, fun k2 hk2 => hg7.block k2 (by have := hBW; simp; omega) (fun e => by have := own_ge HOW.out _ e.symm; omega)⟩
        clear HKT x0 x1 x2 x3 x4 x5 x6 x7 x8 x9 x10 hown7 hg7 hat7 d0 d1 d2 d3 d4 d5
        go_wp2_with fail
        go_roundw
        case rel => exact ⟨k + 1, by omega, by go_num, HR7.out, HB7.out⟩
        case measure => simp [intOf]; omega
      | false =>
        simp only [Bool.false_eq_true, ↓reduceIte, List.append_nil] at HKT
        go_wp2_with fail
        have HB7 : Hid (Below w.heap.size w (wr.alloc (.cells #[.int .i64 v1, .int .i64 n1, .bool m1, .slice a9 l1.length c9, .int .i64 t1] 25))) := Below.far HBR.out (below_alloc _ _)
        have HR7 : Hid (World.ownsRow (wr.alloc (.cells #[.int .i64 v1, .int .i64 n1, .bool m1, .slice a9 l1.length c9, .int .i64 t1] 25)) w.heap.size 25 5 (.slice a3 (givenP (ps.take k) (R.given.take k)).length c3) (givenP (ps.take (k + 1)) (R.given.take (k + 1))).length ((givenP (ps.take (k + 1)) (R.given.take (k + 1))).flatMap keptRow)) := by
          rw [HKT.out]
          exact own_below HOW.out (below_alloc _ _) (own_lt HOW.out)
        clear HKT x0 x1 x2 x3 x4 x5 x6 x7 x8 x9 x10
        go_roundw
        case rel => exact ⟨k + 1, by omega, by go_num, HR7.out, HB7.out⟩
        case measure => simp [intOf]; omega
    · obtain rfl : k = 3 := by omega
      have HE : Hid (wr.ownsRow w.heap.size 25 5 (.slice a3 (givenP (ps.take 3) (R.given.take 3)).length c3) (givenP ps R.given).length ((givenP ps R.given).flatMap keptRow)) := by
        have := HOW.out
        rw [List.take_of_length_le (by rw [HL.out.1]; omega), List.take_of_length_le (by rw [HL.out.2]; omega)] at this ⊢
        exact this
      clear x0 x1 x2 x3 x4 x5 x6 x7 x8 x9 x10 HOW
      go_wp2_with fail
      go_ret
      exact ⟨_, rfl, HE.out, HBR.out⟩

end Go.Proofs.YtmdgkjbiicaljagDoor
