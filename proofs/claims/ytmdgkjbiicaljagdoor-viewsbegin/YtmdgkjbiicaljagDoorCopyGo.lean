/- The program's own replica.Copy. -/
import Derived.Test.YtmdgkjbiicaljagDoorReplMem
import Derived.Test.YtmdgkjbiicaljagDoorJointRegRow
import Derived.Test.YtmdgkjbiicaljagDoorKeptDup
import Derived.Test.YtmdgkjbiicaljagDoorJointCopiedStr
import Derived.Deep.DeepCutAuto
namespace Go.Proofs.YtmdgkjbiicaljagDoor
open Go.RowKit
set_option linter.unusedVariables false
set_option linter.unusedSimpArgs false

theorem infoKeptC : Tryd.prog.info? 25 = some Tryd.t25 := by kernel_rfl
theorem zeroKeptC : Tryd.t25.zero = some (.agg #[.int .i64 0, .int .i64 0, .bool false, .slice none 0 0, .int .i64 0]) := by kernel_rfl
theorem sizeKeptC : Tryd.t25.size = 5 := by kernel_rfl
theorem bytesKeptC : Tryd.t25.bytes = 56 := by kernel_rfl
theorem enter_stageCopy (us : Array Value) (w : World) : (callFunc 21 us).run Tryd.prog w = .ok (.enter 21 us) w := by kernel_rfl
theorem enter_copiedInts (us : Array Value) (w : World) : (callFunc 39 us).run Tryd.prog w = .ok (.enter 39 us) w := by kernel_rfl
theorem enter_copiedBools (us : Array Value) (w : World) : (callFunc 40 us).run Tryd.prog w = .ok (.enter 40 us) w := by kernel_rfl

theorem keep_cell9 {W w' : World} {b o : Nat} {v : Value} (hb : Below W.heap.size W w') (h : W.cell? ⟨b, o, none⟩ = some v) : w'.cell? ⟨b, o, none⟩ = some v := (hb.cell (p := ⟨b, o, none⟩) (lt_of_cell h)).trans h
def noKept : KeptM × Value := (zeroKept, .slice none 0 0)
theorem made_kepts (n : Nat) : (madeCells #[.int .i64 0, .int .i64 0, .bool false, .slice none 0 0, .int .i64 0] (n * 5)).toList = (List.replicate n noKept).flatMap keptRow := by
  unfold madeCells
  apply List.ext_getElem
  · rw [flat_len keptRow 5 keptRow_len]; simp
  · intro i h1 h2
    have hi : i < n * 5 := by simpa using h1
    have e : i / 5 * 5 + i % 5 = i := by omega
    have hq : i / 5 < n := by omega
    have := flat_get keptRow 5 keptRow_len (List.replicate n noKept) (i / 5) (i % 5) noKept (by simp [hq]) (by omega)
    rw [e, List.getElem?_eq_getElem h2] at this
    have h5 : i % 5 < 5 := by omega
    have e2 := Option.some.inj (this.trans (List.getElem?_eq_getElem (l := keptRow noKept) (by rw [keptRow_len]; exact h5)))
    rw [e2]
    simp [keptRow, noKept, keptCells, zeroKept]
    rw [List.getElem?_eq_getElem (by simpa using h5)]
    rfl
theorem rset_next {α : Type} (z p : α) : ∀ (ps : List α) (m : Nat), (ps ++ List.replicate (m + 1) z).set ps.length p = (ps ++ [p]) ++ List.replicate m z
  | [], m => by simp [List.replicate_succ]
  | x :: ps, m => by simp [rset_next z p ps m]
theorem keptD_mem {l : List KeptM} {k : Nat} (h : k < l.length) : l.getD k zeroKept ∈ l := by
  have e : l.getD k zeroKept = l[k] := by simp [List.getD, h]
  rw [e]
  exact List.getElem_mem h
theorem keptD_take {l : List KeptM} {k : Nat} (h : k < l.length) : l.take (k + 1) = l.take k ++ [l.getD k zeroKept] := by
  have e : l.getD k zeroKept = l[k] := by simp [List.getD, h]
  rw [e]
  exact (List.take_append_getElem h).symm
/-- The row of what is given, so far. -/
def GivesTo (W : World) (B g n : Nat) (ps : List (KeptM × Value)) : Prop :=
  W.ownsRow B 25 5 (.slice (some ⟨g, 0, none⟩) n n) n ((ps ++ List.replicate (n - ps.length) noKept).flatMap keptRow) ∧ ∀ p ∈ ps, W.ownsRow B 9 1 p.2 p.1.log.length (p.1.log.map enc)
theorem GivesTo.below {W W' : World} {B g n : Nat} {ps : List (KeptM × Value)} (h : GivesTo W B g n ps) (hb : Below W.heap.size W W') : GivesTo W' B g n ps :=
  ⟨own_below h.1 hb (own_lt h.1), fun p hp => own_below (h.2 p hp) hb (own_lt (h.2 p hp))⟩
theorem GivesTo.put {W : World} {B g n : Nat} {ps : List (KeptM × Value)} (h : GivesTo W B g n ps) (hn : ps.length < n) (K : KeptM) (vl : Value) (hl : W.ownsRow B 9 1 vl K.log.length (K.log.map enc)) (k : Nat) (hk : k = ps.length) :
    GivesTo (((((W.setCell ⟨g, k * 5, none⟩ (.int .i64 K.view)).setCell ⟨g, k * 5 + 1, none⟩ (.int .i64 K.normal)).setCell ⟨g, k * 5 + 2, none⟩ (.bool K.calm)).setCell ⟨g, k * 5 + 3, none⟩ vl).setCell ⟨g, k * 5 + 4, none⟩ (.int .i64 K.commit)) B g n (ps ++ [(K, vl)]) := by
  subst hk
  obtain ⟨h1, h2⟩ := h
  have far : ∀ (W' : World) (p : KeptM × Value), W'.ownsRow B 25 5 (.slice (some ⟨g, 0, none⟩) n n) n ((ps ++ List.replicate (n - ps.length) noKept).flatMap keptRow) → W'.ownsRow B 9 1 p.2 p.1.log.length (p.1.log.map enc) → p.2.ownBlock ≠ some g := fun W' p r s => own_types s r (by decide) rfl
  refine ⟨?_, fun p hp => ?_⟩
  · have e : (ps ++ [(K, vl)]) ++ List.replicate (n - (ps ++ [(K, vl)]).length) noKept = (ps ++ List.replicate (n - ps.length) noKept).set ps.length (K, vl) := by
      have e1 : n - ps.length = (n - (ps ++ [(K, vl)]).length) + 1 := by simp; omega
      rw [e1, rset_next]
    rw [e, flat_set keptRow 5 keptRow_len _ _ _ (by simp; omega)]
    exact own_set (own_set (own_set (own_set (own_set h1 (ps.length * 5) _) (ps.length * 5 + 1) _) (ps.length * 5 + 2) _) (ps.length * 5 + 3) _) (ps.length * 5 + 4) _
  · have hr : W.ownsRow B 9 1 p.2 p.1.log.length (p.1.log.map enc) := by
      rcases List.mem_append.1 hp with hp | hp
      · exact h2 p hp
      · rw [List.mem_singleton] at hp
        subst hp
        exact hl
    have hf := far W p h1 hr
    exact own_other (own_other (own_other (own_other (own_other hr (by simpa using hf) _) (by simpa using hf) _) (by simpa using hf) _) (by simpa using hf) _) (by simpa using hf) _

def copyPr (R : ReplM) (vl vh vw vn : Value) (b B S g n : Nat) (ps : List (KeptM × Value)) : Nat → Value → World → Prop
  | 0, v, _ => v = .pointer (some ⟨b, 0, none⟩)
  | 1, v, _ => v = .int .i64 R.me
  | 2, v, _ => v = .pointer (some ⟨b, 1, none⟩)
  | 3, v, _ => v = .agg #[.int .i64 R.kept.view, .int .i64 R.kept.normal, .bool R.kept.calm, vl, .int .i64 R.kept.commit]
  | 4, v, W => KeptNew W S v R.kept
  | 5, v, _ => v = .pointer (some ⟨b, 6, none⟩)
  | 6, v, _ => v = vh
  | 7, v, W => W.ownsRow B 3 1 v R.hav.length (R.hav.map encI)
  | 8, v, _ => v = .pointer (some ⟨b, 7, none⟩)
  | 9, v, _ => v = vw
  | 10, v, W => W.ownsRow B 4 1 v R.wants.length (R.wants.map encB)
  | 11, v, _ => v = .slice (some ⟨g, 0, none⟩) n n
  | 12, v, _ => v = .pointer (some ⟨b, 9, none⟩)
  | 13, v, _ => v = vn
  | 14, v, W => W.ownsRow B 4 1 v R.given.length (R.given.map encB)
  | 15, v, W => ∃ al cl ah ch aw cw an cn, v = .agg (replCells R (.slice al R.kept.log.length cl) (.slice ah R.hav.length ch) (.slice aw R.wants.length cw) (.slice (some ⟨g, 0, none⟩) n n) (.slice an R.given.length cn)).toArray ∧ ReplOwn W B R (.slice al R.kept.log.length cl) (.slice ah R.hav.length ch) (.slice aw R.wants.length cw) (.slice (some ⟨g, 0, none⟩) n n) (.slice an R.given.length cn) ps
  | 16, _, W => ∃ al cl ah ch aw cw an cn, Box W (b + 1) 30 (replCells R (.slice al R.kept.log.length cl) (.slice ah R.hav.length ch) (.slice aw R.wants.length cw) (.slice (some ⟨g, 0, none⟩) n n) (.slice an R.given.length cn)) ∧ ReplOwn W B R (.slice al R.kept.log.length cl) (.slice ah R.hav.length ch) (.slice aw R.wants.length cw) (.slice (some ⟨g, 0, none⟩) n n) (.slice an R.given.length cn) ps
  | _, _, _ => True
theorem copyPr_below {R : ReplM} {vl vh vw vn : Value} {b B S g n : Nat} {ps : List (KeptM × Value)} {W W' : World} (hb : Below W.heap.size W W') : ∀ (j : Nat) (u : Value), copyPr R vl vh vw vn b B S g n ps j u W → copyPr R vl vh vw vn b B S g n ps j u W'
  | 0, _, h => h
  | 1, _, h => h
  | 2, _, h => h
  | 3, _, h => h
  | 4, _, h => KeptNew.below h hb
  | 5, _, h => h
  | 6, _, h => h
  | 7, _, h => own_below h hb (own_lt h)
  | 8, _, h => h
  | 9, _, h => h
  | 10, _, h => own_below h hb (own_lt h)
  | 11, _, h => h
  | 12, _, h => h
  | 13, _, h => h
  | 14, _, h => own_below h hb (own_lt h)
  | 15, _, h => by obtain ⟨al, cl, ah, ch, aw, cw, an, cn, hv, ho⟩ := h; exact ⟨al, cl, ah, ch, aw, cw, an, cn, hv, ho.below hb⟩
  | 16, _, h => by obtain ⟨al, cl, ah, ch, aw, cw, an, cn, hv, ho⟩ := h; exact ⟨al, cl, ah, ch, aw, cw, an, cn, hv.below hb hv.lt, ho.below hb⟩
  | _ + 17, _, _ => trivial
theorem copyPr_set {R : ReplM} {vl vh vw vn : Value} {b B S g n : Nat} {ps : List (KeptM × Value)} {W : World} {a : Addr} (ha : a.block < B) (hS : B ≤ S) (x : Value) : ∀ (j : Nat) (u : Value), j ≠ 16 → copyPr R vl vh vw vn b B S g n ps j u W → copyPr R vl vh vw vn b B S g n ps j u (W.setCell a x)
  | 0, _, _, h => h
  | 1, _, _, h => h
  | 2, _, _, h => h
  | 3, _, _, h => h
  | 4, _, _, h => KeptNew.other h (by omega) x
  | 5, _, _, h => h
  | 6, _, _, h => h
  | 7, _, _, h => ownsRow_setCell_below h ha x
  | 8, _, _, h => h
  | 9, _, _, h => h
  | 10, _, _, h => ownsRow_setCell_below h ha x
  | 11, _, _, h => h
  | 12, _, _, h => h
  | 13, _, _, h => h
  | 14, _, _, h => ownsRow_setCell_below h ha x
  | 15, _, _, h => by obtain ⟨al, cl, ah, ch, aw, cw, an, cn, hv, ho⟩ := h; exact ⟨al, cl, ah, ch, aw, cw, an, cn, hv, ho.other ha x⟩
  | 16, _, h, _ => absurd rfl h
  | _ + 17, _, _, _ => trivial

def copyA (i j : Nat) (u v : Value) : Prop := (i = 10 ∧ j = 14 ∨ i = 14 ∧ j = 10) → Asunder u v
def copyG (w : World) (S g n : Nat) (ps : List (KeptM × Value)) (cs : List Value) (W : World) : Prop :=
  Below w.heap.size w W ∧ S ≤ W.heap.size ∧ Box W w.heap.size 30 cs ∧ (∃ c0 c1 c2 c3 c4 c5 c6 c7 c8 c9, Box W (w.heap.size + 1) 30 [c0, c1, c2, c3, c4, c5, c6, c7, c8, c9]) ∧ KeptsNew W (w.heap.size + 2) (.slice (some ⟨g, 0, none⟩) n n) ps
theorem copyG.below {w : World} {S g n : Nat} {ps : List (KeptM × Value)} {cs : List Value} {W W' : World} (h : copyG w S g n ps cs W) (hb : Below W.heap.size W W') : copyG w S g n ps cs W' := by
  obtain ⟨h1, h2, h3, ⟨c0, c1, c2, c3, c4, c5, c6, c7, c8, c9, h4⟩, h5⟩ := h
  exact ⟨Below.far h1 hb, Nat.le_trans h2 hb.size, h3.below hb h3.lt, ⟨_, _, _, _, _, _, _, _, _, _, h4.below hb h4.lt⟩, h5.map fun _ _ _ _ _ _ r => own_below r hb (own_lt r)⟩

set_option maxRecDepth 8000 in
set_option maxHeartbeats 8000000 in
theorem replCopy_any (R : ReplM) (v : Value) (w : World) (h : ReplAt w v R) (hf : ReplFits R) :
    Calls Tryd.prog 25 #[v] w fun e w' => ∃ v', e = .returned v' ∧ ReplNew w' w.heap.size v' R ∧ Below w.heap.size w w' := by
  obtain ⟨vl, vh, vw, vg, vn, rfl, hl, hh, hw, hg, hn⟩ := h
  have HSC : Hid (∀ W, Below w.heap.size w W → Calls _ _ _ W _) := fun W hW => stageCopy_any R.kept _ W ⟨vl, rfl, hl.below hW⟩ hf.log.1
  have HIC : Hid (∀ W, Below w.heap.size w W → Calls _ _ _ W _) := fun W hW => copiedInts_any R.hav _ W (hh.below hW).row hf.hav
  have HWC : Hid (∀ W, Below w.heap.size w W → Calls _ _ _ W _) := fun W hW => copiedBools_any R.wants _ W (hw.below hW).row (by have := hf.wants; omega)
  have HNC : Hid (∀ W, Below w.heap.size w W → Calls _ _ _ W _) := fun W hW => copiedBools_any R.given _ W (hn.below hW).row (by have := hf.given; omega)
  obtain ⟨me, ⟨vi, nm, cm, l, ct⟩, hav, wants, gives, given⟩ := R
  have hz1 := hf.gives
  have hz2 := hf.each
  simp only [replCells] at *
  obtain ⟨al, cl, rfl, hl1, _⟩ := hl
  obtain ⟨ah, ch, rfl, hh1, _⟩ := hh
  obtain ⟨aw, cw, rfl, hw1, _⟩ := hw
  obtain ⟨ag, cg, rfl, hg1, hg2⟩ := hg
  obtain ⟨an, cn, rfl, hn1, _⟩ := hn
  obtain ⟨b0, b1, hb⟩ := boxes2 w 30 30 [.int .i64 me, .int .i64 vi, .int .i64 nm, .bool cm, .slice al l.length cl, .int .i64 ct, .slice ah hav.length ch, .slice aw wants.length cw, .slice ag gives.length cg, .slice an given.length cn] [.int .i64 0, .int .i64 0, .int .i64 0, .bool false, .slice none 0 0, .int .i64 0, .slice none 0 0, .slice none 0 0, .slice none 0 0, .slice none 0 0]
  obtain ⟨w0, hw0⟩ : ∃ w0, w0 = (w.alloc (.cells #[.int .i64 me, .int .i64 vi, .int .i64 nm, .bool cm, .slice al l.length cl, .int .i64 ct, .slice ah hav.length ch, .slice aw wants.length cw, .slice ag gives.length cg, .slice an given.length cn] 30)).alloc (.cells #[.int .i64 0, .int .i64 0, .int .i64 0, .bool false, .slice none 0 0, .int .i64 0, .slice none 0 0, .slice none 0 0, .slice none 0 0, .slice none 0 0] 30) := ⟨_, rfl⟩
  have hsz : w0.heap.size = w.heap.size + 2 := by rw [hw0]; simp
  go_enter Tryd.func25, Tryd.ntmps25
  go_upto_region 1 with fail
  rw [← hw0] at b0 b1 hb ⊢
  clear hw0
  have x8 := b0.cell 8 _ rfl
  have HB0 : Hid (Box w0 w.heap.size _ _) := b0
  have HB1 : Hid (Box w0 (w.heap.size + 1) _ _) := b1
  have HBW : Hid (Below w.heap.size w w0) := hb
  have HSZ : Hid (w0.heap.size = w.heap.size + 2) := hsz
  clear b0 b1 hb hsz
  go_wp2_with (at_make; refine wpList_make_full _ rfl _ _ 28 rfl w0.heap.size 25 Tryd.t25 _ 5 Tryd.underlying28 infoKeptC zeroKeptC sizeKeptC .i64 .i64 gives.length gives.length gives.length rfl rfl rfl rfl (by rw [bytesKeptC]; omega) (by unfold maxLen; omega) (Nat.le_refl _) ?_)
  intro w1 hown hgr
  have hb1 : Below w0.heap.size w0 w1 := (Below.refl _ _).grown hgr (Nat.le_refl _) (fun _ h => by cases h)
  have hgt : GivesTo w1 (w.heap.size + 2) w0.heap.size gives.length [] := by
    refine ⟨?_, fun p hp => by simp at hp⟩
    rw [← HSZ.out]
    have := hown
    rw [made_kepts] at this
    simpa using this
  have HK : Hid (GivesTo w1 (w.heap.size + 2) w0.heap.size gives.length []) := hgt
  have HB : Hid (Below w0.heap.size w0 w1) := hb1
  have x8 := (HB0.out.below hb1 HB0.out.lt).cell 8 _ rfl
  clear hown hgr hgt hb1
  generalize hge : w0.heap.size = g at *
  go_wp2_with fail
  go_loopw [13] (fun i wr => ∃ (k : Nat) (ps : List (KeptM × Value)), k ≤ gives.length ∧ ps.length = k ∧ ps.map Prod.fst = gives.take k ∧ i = .int .i64 k ∧ GivesTo wr (w.heap.size + 2) g gives.length ps ∧ Below g w0 wr) (fun i wr => gives.length - (intOf i).toNat)
  case atStart => exact ⟨0, [], by omega, rfl, rfl, rfl, HK.out, HB.out⟩
  case round =>
    clear x8 HK HB
    obtain ⟨k, ps, hk, hpl, hpm, rfl, hgt, hbr⟩ := hrel
    rw [← hge] at hbr
    have HR0 : Hid (Box wr w.heap.size _ _) := HB0.out.below hbr HB0.out.lt
    have HR1 : Hid (Box wr (w.heap.size + 1) _ _) := HB1.out.below hbr HB1.out.lt
    have HBR : Hid (Below w.heap.size w wr) := Below.far HBW.out hbr
    have HR : Hid (Below w0.heap.size w0 wr) := hbr
    have HG : Hid (GivesTo wr (w.heap.size + 2) g gives.length ps) := hgt
    by_cases hlt : k < gives.length
    · obtain ⟨b, o, vk, rfl, hc, hs⟩ := hg2 k hlt
      have HKC : Hid (∀ W, Below w.heap.size w W → Calls _ _ _ W _) := fun W hW => stageCopy_any (gives.getD k zeroKept) _ W ⟨vk, rfl, hs.below hW⟩ (hz2 (gives.getD k zeroKept) (keptD_mem hlt)).1
      have hgk : gives.take (k + 1) = gives.take k ++ [gives.getD k zeroKept] := keptD_take hlt
      have k0 : (0 : Int) ≤ (k : Int) := by omega
      have k1 : (k : Int) < (gives.length : Int) := by omega
      obtain ⟨av, cv, rfl, _, _⟩ := hs
      have HGK : Hid (gives.take (k + 1) = gives.take k ++ [gives.getD k zeroKept]) := hgk
      have HPM : Hid (ps.map Prod.fst = gives.take k) := hpm
      have HPL : Hid (ps.length = k) := hpl
      clear hg2 hbr hgt hgk hpm hpl hz2
      generalize gives.getD k zeroKept = q at *
      obtain ⟨v1, n1, c1, l1, t1⟩ := q
      simp only [keptCells] at hc HKC
      have d0 := keep_cell9 HBR.out (hc 0 _ rfl)
      have d1 := keep_cell9 HBR.out (hc 1 _ rfl)
      have d2 := keep_cell9 HBR.out (hc 2 _ rfl)
      have d3 := keep_cell9 HBR.out (hc 3 _ rfl)
      have d4 := keep_cell9 HBR.out (hc 4 _ rfl)
      rw [Nat.add_zero] at d0
      have lb := lt_of_cell d0
      clear hc
      obtain ⟨w4, hw4⟩ : ∃ w4, w4 = wr.alloc (.cells #[.int .i64 v1, .int .i64 n1, .bool c1, .slice av l1.length cv, .int .i64 t1] 25) := ⟨_, rfl⟩
      go_wp2_with fail
      refine (HKC.out _ (Below.up HBR.out _)).mono ?_
      rintro e w5 ⟨v5, rfl, ⟨vk5, rfl, hk5⟩, hb5⟩
      obtain ⟨a5, c5, rfl⟩ := own_form hk5
      have hba : Below wr.heap.size wr w5 := Below.far (below_alloc wr _) hb5
      have hg5 := HG.out.below hba
      have hk5' := own_base hk5 (show w.heap.size + 2 ≤ _ from by have := HBR.out.size; have := HR.out.size; have := HSZ.out; simp; omega)
      have y0 := own_cellN hg5.1 (by decide) (k * 5) (by omega)
      have y1 := own_cellN hg5.1 (by decide) (k * 5 + 1) (by omega)
      have y2 := own_cellN hg5.1 (by decide) (k * 5 + 2) (by omega)
      have y3 := own_cellN hg5.1 (by decide) (k * 5 + 3) (by omega)
      have y4 := own_cellN hg5.1 (by decide) (k * 5 + 4) (by omega)
      have hfl : ((ps ++ List.replicate (gives.length - ps.length) noKept).flatMap keptRow).length = gives.length * 5 := by
        rw [flat_len keptRow 5 keptRow_len]; have := HPL.out; simp; omega
      obtain ⟨_, _, e, _, _, y0, z0⟩ := y0
      cases e
      obtain ⟨_, _, e, _, _, y1, z1⟩ := y1
      cases e
      obtain ⟨_, _, e, _, _, y2, z2⟩ := y2
      cases e
      obtain ⟨_, _, e, _, _, y3, z3⟩ := y3
      cases e
      obtain ⟨_, _, e, _, _, y4, z4⟩ := y4
      cases e
      rw [List.getElem?_eq_getElem (by omega)] at y0 y1 y2 y3 y4
      generalize ((ps ++ List.replicate (gives.length - ps.length) noKept).flatMap keptRow)[k * 5] = u0 at y0
      generalize ((ps ++ List.replicate (gives.length - ps.length) noKept).flatMap keptRow)[k * 5 + 1] = u1 at y1
      generalize ((ps ++ List.replicate (gives.length - ps.length) noKept).flatMap keptRow)[k * 5 + 2] = u2 at y2
      generalize ((ps ++ List.replicate (gives.length - ps.length) noKept).flatMap keptRow)[k * 5 + 3] = u3 at y3
      generalize ((ps ++ List.replicate (gives.length - ps.length) noKept).flatMap keptRow)[k * 5 + 4] = u4 at y4
      have HP : Hid (GivesTo _ _ _ _ _) := hg5.put (by have := HPL.out; omega) ⟨v1, n1, c1, l1, t1⟩ _ hk5' k HPL.out.symm
      have hgg : ¬ g < w0.heap.size := by omega
      have HBB : Hid (Below w0.heap.size w0 w5) := Below.far HR.out hba
      clear hb5 hk5 hk5' hg5 hba hfl d0 d1 d2 d3 d4 HG HKC lb hw4 w4
      go_wp2_with fail
      go_roundw
      case rel =>
        refine ⟨k + 1, ps ++ [(⟨v1, n1, c1, l1, t1⟩, .slice a5 l1.length c5)], by omega, by simp [HPL.out], by rw [List.map_append, HPM.out, HGK.out]; rfl, by go_num, HP.out, ?_⟩
        rw [← hge]
        exact ((((HBB.out.setCell (by first | omega | simp) _).setCell (by first | omega | simp) _).setCell (by first | omega | simp) _).setCell (by first | omega | simp) _).setCell (by first | omega | simp) _
      case measure => simp [intOf]; omega
    · obtain rfl : k = gives.length := by omega
      rw [List.take_length] at hpm
      have hkn : KeptsNew wr (w.heap.size + 2) (.slice (some ⟨g, 0, none⟩) gives.length gives.length) ps := by
        refine ⟨?_, hgt.2⟩
        have := hgt.1
        rw [hpl] at this ⊢
        simpa using this
      have hSS : w.heap.size + 2 ≤ wr.heap.size := by have := hbr.size; have := HSZ.out; omega
      have HKN : Hid (KeptsNew wr (w.heap.size + 2) (.slice (some ⟨g, 0, none⟩) gives.length gives.length) ps) := hkn
      have HPM : Hid (gives = ps.map Prod.fst) := hpm.symm
      have HPS : Hid (∀ p ∈ ps, ∀ m, p.2.ownBlock = some m → m < wr.heap.size) := fun p hp m hm => own_lt (hkn.2 p hp) m hm
      clear hg2 hbr hgt hpm hpl hz2 hkn HG HB0 HB1 hz1 hlt
      go_upto_region 7 with fail
      refine wp_region_rows (by kernel_rfl) (by kernel_rfl) (by kernel_rfl) (by kernel_rfl) (by kernel_rfl)
        (copyG w wr.heap.size g gives.length ps [.int .i64 me, .int .i64 vi, .int .i64 nm, .bool cm, .slice al l.length cl, .int .i64 ct, .slice ah hav.length ch, .slice aw wants.length cw, .slice ag gives.length cg, .slice an given.length cn])
        (copyPr ⟨me, ⟨vi, nm, cm, l, ct⟩, hav, wants, gives, given⟩ (.slice al l.length cl) (.slice ah hav.length ch) (.slice aw wants.length cw) (.slice an given.length cn) w.heap.size (w.heap.size + 2) wr.heap.size g gives.length ps)
        copyA ⟨HBR.out.drew, Nat.le_refl _, HR0.out, ⟨_, _, _, _, _, _, _, _, _, _, HR1.out⟩, HKN.out⟩ ?_ ?_
      · intro i hi a W vs hG hout hdep hdA
        obtain ⟨gB, gS, gb0, ⟨c0, c1, c2, c3, c4, c5, c6, c7, c8, c9, gb1⟩, gK⟩ := id hG
        match i, hi with
        | 0, _ =>
          have e0 : a.tmps.getD 1 undef = .pointer (some ⟨w.heap.size, 0, none⟩) := hout 1 (by kernel_rfl)
          refine op_value (v := .pointer (some ⟨w.heap.size, 0, none⟩)) (w' := W) ?_ ⟨_, rfl, hG, rfl, fun j u _ h => ⟨h, fun h9 => absurd h9 (by omega)⟩⟩
          show (execOp a.eval { dst := _, op := .fieldAddr 30 (.tmp 1) 0, type := _, pos := _, after := _, guard := _ }).run Tryd.prog W = _
          clear hout hdep hdA
          simp only [Array.getD_eq_getD_getElem?] at e0
          simp [execOp, Act.eval, e0, go_sem]
        | 1, _ =>
          obtain ⟨p0, e0⟩ := hdep 0 (by kernel_rfl)
          have p0 : vs 0 = .pointer (some ⟨w.heap.size, 0, none⟩) := p0
          have f0 := e0 24 (by kernel_rfl)
          rw [p0] at f0
          have x0 := gb0.cell 0 _ rfl
          refine op_value (v := .int .i64 me) (w' := W) ?_ ⟨_, rfl, hG, rfl, fun j u _ h => ⟨h, fun h9 => absurd h9 (by omega)⟩⟩
          show (execOp a.eval { dst := _, op := .load 3 (.tmp 24), type := _, pos := _, after := _, guard := _ }).run Tryd.prog W = _
          clear hout hdep hdA
          simp only [Array.getD_eq_getD_getElem?] at f0
          simp [execOp, Act.eval, f0, go_sem, x0]
        | 2, _ =>
          have e0 : a.tmps.getD 1 undef = .pointer (some ⟨w.heap.size, 0, none⟩) := hout 1 (by kernel_rfl)
          refine op_value (v := .pointer (some ⟨w.heap.size, 1, none⟩)) (w' := W) ?_ ⟨_, rfl, hG, rfl, fun j u _ h => ⟨h, fun h9 => absurd h9 (by omega)⟩⟩
          show (execOp a.eval { dst := _, op := .fieldAddr 30 (.tmp 1) 1, type := _, pos := _, after := _, guard := _ }).run Tryd.prog W = _
          clear hout hdep hdA
          simp only [Array.getD_eq_getD_getElem?] at e0
          simp [execOp, Act.eval, e0, go_sem]
        | 3, _ =>
          obtain ⟨p0, e0⟩ := hdep 2 (by kernel_rfl)
          have p0 : vs 2 = .pointer (some ⟨w.heap.size, 1, none⟩) := p0
          have f0 := e0 26 (by kernel_rfl)
          rw [p0] at f0
          have x1 := gb0.cell 1 _ rfl
          have x2 := gb0.cell 2 _ rfl
          have x3 := gb0.cell 3 _ rfl
          have x4 := gb0.cell 4 _ rfl
          have x5 := gb0.cell 5 _ rfl
          refine op_value (v := .agg #[.int .i64 vi, .int .i64 nm, .bool cm, .slice al l.length cl, .int .i64 ct]) (w' := W) ?_ ⟨_, rfl, hG, rfl, fun j u _ h => ⟨h, fun h9 => absurd h9 (by omega)⟩⟩
          show (execOp a.eval { dst := _, op := .load 25 (.tmp 26), type := _, pos := _, after := _, guard := _ }).run Tryd.prog W = _
          clear hout hdep hdA
          simp only [Array.getD_eq_getD_getElem?] at f0
          simp [execOp, Act.eval, f0, go_sem, x1, x2, x3, x4, x5]
        | 4, _ =>
          obtain ⟨p0, e0⟩ := hdep 3 (by kernel_rfl)
          have p0 : vs 3 = .agg #[.int .i64 vi, .int .i64 nm, .bool cm, .slice al l.length cl, .int .i64 ct] := p0
          have f0 := e0 27 (by kernel_rfl)
          rw [p0] at f0
          refine op_call 21 [.tmp 27] _ rfl [.agg #[.int .i64 vi, .int .i64 nm, .bool cm, .slice al l.length cl, .int .i64 ct]] (by simp only [List.map_cons, List.map_nil, Act.eval, f0]) enter_stageCopy ((HSC.out W gB).mono ?_)
          rintro e w9 ⟨v9, rfl, hn9, hb9⟩
          exact ⟨v9, rfl, v9, rfl, hG.below hb9, KeptNew.base hn9 gS, fun j u _ h => ⟨copyPr_below hb9 j u h, fun h9 => absurd h9 (by omega)⟩⟩
        | 5, _ =>
          have e0 : a.tmps.getD 1 undef = .pointer (some ⟨w.heap.size, 0, none⟩) := hout 1 (by kernel_rfl)
          refine op_value (v := .pointer (some ⟨w.heap.size, 6, none⟩)) (w' := W) ?_ ⟨_, rfl, hG, rfl, fun j u _ h => ⟨h, fun h9 => absurd h9 (by omega)⟩⟩
          show (execOp a.eval { dst := _, op := .fieldAddr 30 (.tmp 1) 2, type := _, pos := _, after := _, guard := _ }).run Tryd.prog W = _
          clear hout hdep hdA
          simp only [Array.getD_eq_getD_getElem?] at e0
          simp [execOp, Act.eval, e0, go_sem]
        | 6, _ =>
          obtain ⟨p0, e0⟩ := hdep 5 (by kernel_rfl)
          have p0 : vs 5 = .pointer (some ⟨w.heap.size, 6, none⟩) := p0
          have f0 := e0 29 (by kernel_rfl)
          rw [p0] at f0
          have x6 := gb0.cell 6 _ rfl
          refine op_value (v := .slice ah hav.length ch) (w' := W) ?_ ⟨_, rfl, hG, rfl, fun j u _ h => ⟨h, fun h9 => absurd h9 (by omega)⟩⟩
          show (execOp a.eval { dst := _, op := .load 26 (.tmp 29), type := _, pos := _, after := _, guard := _ }).run Tryd.prog W = _
          clear hout hdep hdA
          simp only [Array.getD_eq_getD_getElem?] at f0
          simp [execOp, Act.eval, f0, go_sem, x6]
        | 7, _ =>
          obtain ⟨p0, e0⟩ := hdep 6 (by kernel_rfl)
          have p0 : vs 6 = .slice ah hav.length ch := p0
          have f0 := e0 30 (by kernel_rfl)
          rw [p0] at f0
          refine op_call 39 [.tmp 30] _ rfl [.slice ah hav.length ch] (by simp only [List.map_cons, List.map_nil, Act.eval, f0]) enter_copiedInts ((HIC.out W gB).mono ?_)
          rintro e w9 ⟨v9, rfl, hn9, hb9⟩
          exact ⟨v9, rfl, v9, rfl, hG.below hb9, own_base hn9 (by omega), fun j u _ h => ⟨copyPr_below hb9 j u h, fun h9 => absurd h9 (by omega)⟩⟩
        | 8, _ =>
          have e0 : a.tmps.getD 1 undef = .pointer (some ⟨w.heap.size, 0, none⟩) := hout 1 (by kernel_rfl)
          refine op_value (v := .pointer (some ⟨w.heap.size, 7, none⟩)) (w' := W) ?_ ⟨_, rfl, hG, rfl, fun j u _ h => ⟨h, fun h9 => absurd h9 (by omega)⟩⟩
          show (execOp a.eval { dst := _, op := .fieldAddr 30 (.tmp 1) 3, type := _, pos := _, after := _, guard := _ }).run Tryd.prog W = _
          clear hout hdep hdA
          simp only [Array.getD_eq_getD_getElem?] at e0
          simp [execOp, Act.eval, e0, go_sem]
        | 9, _ =>
          obtain ⟨p0, e0⟩ := hdep 8 (by kernel_rfl)
          have p0 : vs 8 = .pointer (some ⟨w.heap.size, 7, none⟩) := p0
          have f0 := e0 32 (by kernel_rfl)
          rw [p0] at f0
          have x7 := gb0.cell 7 _ rfl
          refine op_value (v := .slice aw wants.length cw) (w' := W) ?_ ⟨_, rfl, hG, rfl, fun j u _ h => ⟨h, fun h9 => absurd h9 (by omega)⟩⟩
          show (execOp a.eval { dst := _, op := .load 27 (.tmp 32), type := _, pos := _, after := _, guard := _ }).run Tryd.prog W = _
          clear hout hdep hdA
          simp only [Array.getD_eq_getD_getElem?] at f0
          simp [execOp, Act.eval, f0, go_sem, x7]
        | 10, _ =>
          obtain ⟨p0, e0⟩ := hdep 9 (by kernel_rfl)
          have p0 : vs 9 = .slice aw wants.length cw := p0
          have f0 := e0 33 (by kernel_rfl)
          rw [p0] at f0
          refine op_call 40 [.tmp 33] _ rfl [.slice aw wants.length cw] (by simp only [List.map_cons, List.map_nil, Act.eval, f0]) enter_copiedBools ((HWC.out W gB).mono ?_)
          rintro e w9 ⟨v9, rfl, hn9, hb9⟩
          exact ⟨v9, rfl, v9, rfl, hG.below hb9, own_base hn9 (by omega), fun j u _ h => ⟨copyPr_below hb9 j u h, fun h9 => by
            rcases h9 with ⟨e1, e2⟩ | ⟨e1, e2⟩
            · cases e2
            · subst e1
              exact fun m m1 m2 => by have q1 := own_lt (show W.ownsRow _ _ _ _ _ _ from h) m m1; have q2 := own_ge hn9 m m2; omega⟩⟩
        | 11, _ =>
          have e0 : a.tmps.getD 3 undef = .slice (some ⟨g, 0, none⟩) gives.length gives.length := hout 3 (by kernel_rfl)
          refine op_value (v := .slice (some ⟨g, 0, none⟩) gives.length gives.length) (w' := W) ?_ ⟨_, rfl, hG, rfl, fun j u _ h => ⟨h, fun h9 => absurd h9 (by omega)⟩⟩
          show (execOp a.eval { dst := _, op := .move (.tmp 3), type := _, pos := _, after := _, guard := _ }).run Tryd.prog W = _
          clear hout hdep hdA
          simp only [Array.getD_eq_getD_getElem?] at e0
          simp [execOp, Act.eval, e0, go_sem]
        | 12, _ =>
          have e0 : a.tmps.getD 1 undef = .pointer (some ⟨w.heap.size, 0, none⟩) := hout 1 (by kernel_rfl)
          refine op_value (v := .pointer (some ⟨w.heap.size, 9, none⟩)) (w' := W) ?_ ⟨_, rfl, hG, rfl, fun j u _ h => ⟨h, fun h9 => absurd h9 (by omega)⟩⟩
          show (execOp a.eval { dst := _, op := .fieldAddr 30 (.tmp 1) 5, type := _, pos := _, after := _, guard := _ }).run Tryd.prog W = _
          clear hout hdep hdA
          simp only [Array.getD_eq_getD_getElem?] at e0
          simp [execOp, Act.eval, e0, go_sem]
        | 13, _ =>
          obtain ⟨p0, e0⟩ := hdep 12 (by kernel_rfl)
          have p0 : vs 12 = .pointer (some ⟨w.heap.size, 9, none⟩) := p0
          have f0 := e0 36 (by kernel_rfl)
          rw [p0] at f0
          have x9 := gb0.cell 9 _ rfl
          refine op_value (v := .slice an given.length cn) (w' := W) ?_ ⟨_, rfl, hG, rfl, fun j u _ h => ⟨h, fun h9 => absurd h9 (by omega)⟩⟩
          show (execOp a.eval { dst := _, op := .load 27 (.tmp 36), type := _, pos := _, after := _, guard := _ }).run Tryd.prog W = _
          clear hout hdep hdA
          simp only [Array.getD_eq_getD_getElem?] at f0
          simp [execOp, Act.eval, f0, go_sem, x9]
        | 14, _ =>
          obtain ⟨p0, e0⟩ := hdep 13 (by kernel_rfl)
          have p0 : vs 13 = .slice an given.length cn := p0
          have f0 := e0 37 (by kernel_rfl)
          rw [p0] at f0
          refine op_call 40 [.tmp 37] _ rfl [.slice an given.length cn] (by simp only [List.map_cons, List.map_nil, Act.eval, f0]) enter_copiedBools ((HNC.out W gB).mono ?_)
          rintro e w9 ⟨v9, rfl, hn9, hb9⟩
          exact ⟨v9, rfl, v9, rfl, hG.below hb9, own_base hn9 (by omega), fun j u _ h => ⟨copyPr_below hb9 j u h, fun h9 => by
            rcases h9 with ⟨e1, e2⟩ | ⟨e1, e2⟩
            · subst e1
              exact fun m m1 m2 => by have q1 := own_lt (show W.ownsRow _ _ _ _ _ _ from h) m m1; have q2 := own_ge hn9 m m2; omega
            · cases e2⟩⟩
        | 15, _ =>
          obtain ⟨p1, e1⟩ := hdep 1 (by kernel_rfl)
          obtain ⟨p4, e4⟩ := hdep 4 (by kernel_rfl)
          obtain ⟨p7, e7⟩ := hdep 7 (by kernel_rfl)
          obtain ⟨p10, e10⟩ := hdep 10 (by kernel_rfl)
          obtain ⟨p11, e11⟩ := hdep 11 (by kernel_rfl)
          obtain ⟨p14, e14⟩ := hdep 14 (by kernel_rfl)
          have hap : Asunder (vs 10) (vs 14) := by
            rcases hdA 10 14 (by decide) (by kernel_rfl) (by kernel_rfl) with h | h
            · exact h (Or.inl ⟨rfl, rfl⟩)
            · exact (h (Or.inr ⟨rfl, rfl⟩)).symm
          have p1 : vs 1 = .int .i64 me := p1
          have p11 : vs 11 = .slice (some ⟨g, 0, none⟩) gives.length gives.length := p11
          obtain ⟨vl9, p4, q4⟩ := (show KeptNew W wr.heap.size (vs 4) ⟨vi, nm, cm, l, ct⟩ from p4)
          have p7 : W.ownsRow (w.heap.size + 2) 3 1 (vs 7) hav.length (hav.map encI) := p7
          have p10 : W.ownsRow (w.heap.size + 2) 4 1 (vs 10) wants.length (wants.map encB) := p10
          have p14 : W.ownsRow (w.heap.size + 2) 4 1 (vs 14) given.length (given.map encB) := p14
          obtain ⟨a4, k4, rfl⟩ := own_form q4
          obtain ⟨a7, k7, r7⟩ := own_form p7
          obtain ⟨a10, k10, r10⟩ := own_form p10
          obtain ⟨a14, k14, r14⟩ := own_form p14
          have f1 := e1 25 (by kernel_rfl)
          have f4 := e4 28 (by kernel_rfl)
          have f7 := e7 31 (by kernel_rfl)
          have f10 := e10 34 (by kernel_rfl)
          have f11 := e11 35 (by kernel_rfl)
          have f14 := e14 38 (by kernel_rfl)
          rw [p1] at f1
          rw [p4] at f4
          rw [r7] at f7 p7
          rw [r10] at f10 p10 hap
          rw [p11] at f11
          rw [r14] at f14 p14 hap
          refine op_value (v := .agg #[.int .i64 me, .int .i64 vi, .int .i64 nm, .bool cm, .slice a4 l.length k4, .int .i64 ct, .slice a7 hav.length k7, .slice a10 wants.length k10, .slice (some ⟨g, 0, none⟩) gives.length gives.length, .slice a14 given.length k14]) (w' := W) ?_ ⟨_, rfl, hG, ⟨a4, k4, a7, k7, a10, k10, a14, k14, rfl, ?_⟩, fun j u _ h => ⟨h, fun h9 => absurd h9 (by omega)⟩⟩
          · show (execOp a.eval { dst := _, op := .build 30 #[(0, .tmp 25), (1, .tmp 28), (2, .tmp 31), (3, .tmp 34), (4, .tmp 35), (5, .tmp 38)], type := _, pos := _, after := _, guard := _ }).run Tryd.prog W = _
            clear hout hdep hdA
            simp only [Array.getD_eq_getD_getElem?] at f1 f4 f7 f10 f11 f14
            simp [execOp, Act.eval, f1, f4, f7, f10, f11, f14, go_sem]
          · refine ⟨HPM.out, own_base q4 hSS, p7, p10, gK, p14, hap, fun p hp m m1 m2 => ?_⟩
            have := own_ge q4 m m1
            have := HPS.out p hp m m2
            omega
        | 16, _ =>
          obtain ⟨⟨a4, k4, a7, k7, a10, k10, a14, k14, p6, hO⟩, e6⟩ := hdep 15 (by kernel_rfl)
          have p6 : vs 15 = .agg #[.int .i64 me, .int .i64 vi, .int .i64 nm, .bool cm, .slice a4 l.length k4, .int .i64 ct, .slice a7 hav.length k7, .slice a10 wants.length k10, .slice (some ⟨g, 0, none⟩) gives.length gives.length, .slice a14 given.length k14] := p6
          have g6 := e6 39 (by kernel_rfl)
          rw [p6] at g6
          have e0 : a.tmps.getD 2 undef = .pointer (some ⟨w.heap.size + 1, 0, none⟩) := hout 2 (by kernel_rfl)
          have y0 := gb1.cell 0 _ rfl
          have y1 := gb1.cell 1 _ rfl
          have y2 := gb1.cell 2 _ rfl
          have y3 := gb1.cell 3 _ rfl
          have y4 := gb1.cell 4 _ rfl
          have y5 := gb1.cell 5 _ rfl
          have y6 := gb1.cell 6 _ rfl
          have y7 := gb1.cell 7 _ rfl
          have y8 := gb1.cell 8 _ rfl
          have y9 := gb1.cell 9 _ rfl
          have f0 := gb1.frozen 0
          have f1 := gb1.frozen 1
          have f2 := gb1.frozen 2
          have f3 := gb1.frozen 3
          have f4 := gb1.frozen 4
          have f5 := gb1.frozen 5
          have f6 := gb1.frozen 6
          have f7 := gb1.frozen 7
          have f8 := gb1.frozen 8
          have f9 := gb1.frozen 9
          refine op_skip (w' := ((((((((((W.setCell ⟨w.heap.size + 1, 0, none⟩ (.int .i64 me)).setCell ⟨w.heap.size + 1, 1, none⟩ (.int .i64 vi)).setCell ⟨w.heap.size + 1, 2, none⟩ (.int .i64 nm)).setCell ⟨w.heap.size + 1, 3, none⟩ (.bool cm)).setCell ⟨w.heap.size + 1, 4, none⟩ (.slice a4 l.length k4)).setCell ⟨w.heap.size + 1, 5, none⟩ (.int .i64 ct)).setCell ⟨w.heap.size + 1, 6, none⟩ (.slice a7 hav.length k7)).setCell ⟨w.heap.size + 1, 7, none⟩ (.slice a10 wants.length k10)).setCell ⟨w.heap.size + 1, 8, none⟩ (.slice (some ⟨g, 0, none⟩) gives.length gives.length)).setCell ⟨w.heap.size + 1, 9, none⟩ (.slice a14 given.length k14))) ?_ ?_
          · show (execOp a.eval { dst := _, op := .store 30 (.tmp 2) (.tmp 39), type := _, pos := _, after := _, guard := _ }).run Tryd.prog W = _
            clear hout hdep hdA hO gK e6
            simp only [Array.getD_eq_getD_getElem?] at e0 g6
            simp [execOp, Act.eval, e0, g6, go_sem, y0, y1, y2, y3, y4, y5, y6, y7, y8, y9, f0, f1, f2, f3, f4, f5, f6, f7, f8, f9]
          · have R := ((((((((((gb1.set 0 (.int .i64 me)).set 1 (.int .i64 vi)).set 2 (.int .i64 nm)).set 3 (.bool cm)).set 4 (.slice a4 l.length k4)).set 5 (.int .i64 ct)).set 6 (.slice a7 hav.length k7)).set 7 (.slice a10 wants.length k10)).set 8 (.slice (some ⟨g, 0, none⟩) gives.length gives.length)).set 9 (.slice a14 given.length k14))
            have hO' : ReplOwn ((((((((((W.setCell ⟨w.heap.size + 1, 0, none⟩ (.int .i64 me)).setCell ⟨w.heap.size + 1, 1, none⟩ (.int .i64 vi)).setCell ⟨w.heap.size + 1, 2, none⟩ (.int .i64 nm)).setCell ⟨w.heap.size + 1, 3, none⟩ (.bool cm)).setCell ⟨w.heap.size + 1, 4, none⟩ (.slice a4 l.length k4)).setCell ⟨w.heap.size + 1, 5, none⟩ (.int .i64 ct)).setCell ⟨w.heap.size + 1, 6, none⟩ (.slice a7 hav.length k7)).setCell ⟨w.heap.size + 1, 7, none⟩ (.slice a10 wants.length k10)).setCell ⟨w.heap.size + 1, 8, none⟩ (.slice (some ⟨g, 0, none⟩) gives.length gives.length)).setCell ⟨w.heap.size + 1, 9, none⟩ (.slice a14 given.length k14)) (w.heap.size + 2) ⟨me, ⟨vi, nm, cm, l, ct⟩, hav, wants, gives, given⟩ (.slice a4 l.length k4) (.slice a7 hav.length k7) (.slice a10 wants.length k10) (.slice (some ⟨g, 0, none⟩) gives.length gives.length) (.slice a14 given.length k14) ps := ((((((((((hO.other (by simp) _).other (by simp) _).other (by simp) _).other (by simp) _).other (by simp) _).other (by simp) _).other (by simp) _).other (by simp) _).other (by simp) _).other (by simp) _)
            refine ⟨_, rfl, ⟨?_, ?_, ?_, ⟨_, _, _, _, _, _, _, _, _, _, R⟩, hO'.2.2.2.2.1⟩, ⟨a4, k4, a7, k7, a10, k10, a14, k14, R, hO'⟩, fun j u hj h => ⟨copyPr_set (by simp) hSS _ j u hj (copyPr_set (by simp) hSS _ j u hj (copyPr_set (by simp) hSS _ j u hj (copyPr_set (by simp) hSS _ j u hj (copyPr_set (by simp) hSS _ j u hj (copyPr_set (by simp) hSS _ j u hj (copyPr_set (by simp) hSS _ j u hj (copyPr_set (by simp) hSS _ j u hj (copyPr_set (by simp) hSS _ j u hj (copyPr_set (by simp) hSS _ j u hj (h)))))))))), fun h9 => absurd h9 (by omega)⟩⟩
            · exact ((((((((((gB.setCell (by simp) _).setCell (by simp) _).setCell (by simp) _).setCell (by simp) _).setCell (by simp) _).setCell (by simp) _).setCell (by simp) _).setCell (by simp) _).setCell (by simp) _).setCell (by simp) _)
            · simpa using gS
            · exact ((((((((((gb0.other _ (by simp)).other _ (by simp)).other _ (by simp)).other _ (by simp)).other _ (by simp)).other _ (by simp)).other _ (by simp)).other _ (by simp)).other _ (by simp)).other _ (by simp))
        | n + 17, hi => exact absurd (show n + 17 < 17 from hi) (by omega)
      · intro vs W hG hP hA
        obtain ⟨gB, _⟩ := hG
        obtain ⟨a4, k4, a7, k7, a10, k10, a14, k14, hR, hO⟩ := hP 16 (by decide)
        have hR : Box W (w.heap.size + 1) 30 [.int .i64 me, .int .i64 vi, .int .i64 nm, .bool cm, .slice a4 l.length k4, .int .i64 ct, .slice a7 hav.length k7, .slice a10 wants.length k10, .slice (some ⟨g, 0, none⟩) gives.length gives.length, .slice a14 given.length k14] := hR
        have y0 := hR.cell 0 _ rfl
        have y1 := hR.cell 1 _ rfl
        have y2 := hR.cell 2 _ rfl
        have y3 := hR.cell 3 _ rfl
        have y4 := hR.cell 4 _ rfl
        have y5 := hR.cell 5 _ rfl
        have y6 := hR.cell 6 _ rfl
        have y7 := hR.cell 7 _ rfl
        have y8 := hR.cell 8 _ rfl
        have y9 := hR.cell 9 _ rfl
        have HF : Hid (ReplNew W w.heap.size (.agg #[.int .i64 me, .int .i64 vi, .int .i64 nm, .bool cm, .slice a4 l.length k4, .int .i64 ct, .slice a7 hav.length k7, .slice a10 wants.length k10, .slice (some ⟨g, 0, none⟩) gives.length gives.length, .slice a14 given.length k14]) ⟨me, ⟨vi, nm, cm, l, ct⟩, hav, wants, gives, given⟩) := ⟨_, _, _, _, _, ps, rfl, hO.base (by omega)⟩
        have HB : Hid (Below w.heap.size w W) := gB
        clear hP hA hR hO gB HKN HPM HPS HBR HR HR0 HR1 HSC HIC HWC HNC
        simp only [fillGo, Act.put]
        go_wp2_with fail
        exact bodyPost_ret (v := .agg #[.int .i64 me, .int .i64 vi, .int .i64 nm, .bool cm, .slice a4 l.length k4, .int .i64 ct, .slice a7 hav.length k7, .slice a10 wants.length k10, .slice (some ⟨g, 0, none⟩) gives.length gives.length, .slice a14 given.length k14]) (by clear HB HF; simp [results, Tryd.results25, go_sem, *]) rfl ⟨_, rfl, HF.out, HB.out⟩

end Go.Proofs.YtmdgkjbiicaljagDoor
