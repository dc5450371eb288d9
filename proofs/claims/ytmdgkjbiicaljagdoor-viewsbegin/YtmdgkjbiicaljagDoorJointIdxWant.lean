/- What a call of package replica leaves in a box; messages read one by one. -/
import Derived.Test.YtmdgkjbiicaljagDoorJointTickKit
import Derived.Test.YtmdgkjbiicaljagDoorHearGo
import Derived.Test.YtmdgkjbiicaljagDoorTakeGo
import Derived.Test.YtmdgkjbiicaljagDoorNewGo
import Derived.Test.YtmdgkjbiicaljagDoorJointRegPlan
namespace Go.Proofs.YtmdgkjbiicaljagDoor
open Go.RowKit
set_option linter.unusedVariables false
set_option linter.unusedSimpArgs false

theorem kept_texts (K : KeptM) (h : keptFault K = 0) : TextsIn K.log := by
  have m := keptMay_of _ h
  refine ⟨by have := m.len; omega, fun s hs => ?_⟩
  have := decE_len s (m.log s hs)
  omega
theorem may_fits (R : ReplM) (h : ReplMay R) : ReplFits R :=
  ⟨kept_texts _ h.kept, by rw [h.hl]; decide, by rw [h.wl]; decide, by rw [h.gl]; decide, fun k hk => kept_texts _ (h.gives k hk), by rw [h.nl]; decide⟩
/-- A replica in a box of its own, its rows from block B on. -/
def ReplBox (w : World) (B b : Nat) (R : ReplM) : Prop := ∃ al cl ah ch aw cw ag cg an cn, Box w b 30 [.int .i64 R.me, .int .i64 R.kept.view, .int .i64 R.kept.normal, .bool R.kept.calm, .slice al R.kept.log.length cl, .int .i64 R.kept.commit, .slice ah R.hav.length ch, .slice aw R.wants.length cw, .slice ag R.gives.length cg, .slice an R.given.length cn] ∧ ReplNew w B (.agg #[.int .i64 R.me, .int .i64 R.kept.view, .int .i64 R.kept.normal, .bool R.kept.calm, .slice al R.kept.log.length cl, .int .i64 R.kept.commit, .slice ah R.hav.length ch, .slice aw R.wants.length cw, .slice ag R.gives.length cg, .slice an R.given.length cn]) R
theorem ReplBox.below {w w' : World} {B b : Nat} {R : ReplM} (h : ReplBox w B b R) (hb : Below w.heap.size w w') : ReplBox w' B b R := by
  obtain ⟨al, cl, ah, ch, aw, cw, ag, cg, an, cn, hx, vl, vh, vw, vg, vn, ps, e, ho⟩ := h
  refine ⟨al, cl, ah, ch, aw, cw, ag, cg, an, cn, hx.below hb hx.lt, vl, vh, vw, vg, vn, ps, e, ho.map fun e s x m xs _ r => own_below r hb (own_lt r)⟩
theorem ReplBox.base {w : World} {B B' b : Nat} {R : ReplM} (h : ReplBox w B b R) (hb : B' ≤ B) : ReplBox w B' b R := by
  obtain ⟨al, cl, ah, ch, aw, cw, ag, cg, an, cn, hx, vl, vh, vw, vg, vn, ps, e, ho⟩ := h
  exact ⟨al, cl, ah, ch, aw, cw, ag, cg, an, cn, hx, vl, vh, vw, vg, vn, ps, e, ho.map fun e s x m xs _ r => own_base r hb⟩
/-- What Hear answers, its replica in a box. -/
def HeardAt (w0 : World) (R : ReplM) (L : List MsgM) (c : Int) (p o e : Value) (wx : World) : Prop :=
  ∃ lb asl csl, p = .pointer (some ⟨lb, 0, none⟩) ∧ o = .slice asl L.length csl ∧ e = .int .i64 c ∧ w0.heap.size ≤ lb ∧ ReplBox wx w0.heap.size lb R ∧ MsgsNew wx w0.heap.size (.slice asl L.length csl) L ∧ Below w0.heap.size w0 wx
theorem msgs_below {w w' : World} {B : Nat} {v : Value} {L : List MsgM} (h : MsgsNew w B v L) (hb : Below w.heap.size w w') : MsgsNew w' B v L := by
  obtain ⟨ps, h1, h2⟩ := h
  exact ⟨ps, h1, h2.map fun e s x m xs _ r => own_below r hb (own_lt r)⟩
theorem HeardAt.below {w0 : World} {R : ReplM} {L : List MsgM} {c : Int} {p o e : Value} {wx wy : World} (h : HeardAt w0 R L c p o e wx) (hb : Below wx.heap.size wx wy) : HeardAt w0 R L c p o e wy := by
  obtain ⟨lb, asl, csl, h1, h2, h3, h4, h5, h6, h7⟩ := h
  exact ⟨lb, asl, csl, h1, h2, h3, h4, h5.below hb, msgs_below h6 hb, Below.far h7 hb⟩
/-- A replica is stored whole into a zero box. -/
theorem heard_set {w0 w : World} {lb : Nat} {R : ReplM} {L : List MsgM} {c : Int} {cs : List Value} {al ah aw ag an asl : Option Addr} {cl ch cw cg cn csl : Nat} (hx : Box w lb 30 cs) (hl : cs.length = 10) (hr : ReplNew w w0.heap.size (.agg #[.int .i64 R.me, .int .i64 R.kept.view, .int .i64 R.kept.normal, .bool R.kept.calm, .slice al R.kept.log.length cl, .int .i64 R.kept.commit, .slice ah R.hav.length ch, .slice aw R.wants.length cw, .slice ag R.gives.length cg, .slice an R.given.length cn]) R) (hm : MsgsNew w w0.heap.size (.slice asl L.length csl) L) (hb : Below w0.heap.size w0 w) (hlb : w0.heap.size ≤ lb) :
    HeardAt w0 R L c (.pointer (some ⟨lb, 0, none⟩)) (.slice asl L.length csl) (.int .i64 c) (setAll w lb 0 [.int .i64 R.me, .int .i64 R.kept.view, .int .i64 R.kept.normal, .bool R.kept.calm, .slice al R.kept.log.length cl, .int .i64 R.kept.commit, .slice ah R.hav.length ch, .slice aw R.wants.length cw, .slice ag R.gives.length cg, .slice an R.given.length cn]) := by
  refine ⟨lb, asl, csl, rfl, rfl, rfl, hlb, ⟨al, cl, ah, ch, aw, cw, ag, cg, an, cn, setAll_box hx _ hl.symm, ?_⟩, ?_, ?_⟩
  · obtain ⟨vl, vh, vw, vg, vn, ps, e, ho⟩ := hr
    exact ⟨vl, vh, vw, vg, vn, ps, e, ho.setAll hx (by decide) (by decide) (by decide) (by decide) 0 _⟩
  · obtain ⟨ps, e, ho⟩ := hm
    exact ⟨ps, e, ho.setAll hx (by decide) (by decide) 0 _⟩
  · have q := setAll_beside_up (b := lb) hlb [.int .i64 R.me, .int .i64 R.kept.view, .int .i64 R.kept.normal, .bool R.kept.calm, .slice al R.kept.log.length cl, .int .i64 R.kept.commit, .slice ah R.hav.length ch, .slice aw R.wants.length cw, .slice ag R.gives.length cg, .slice an R.given.length cn] w0 w 0 (Beside.of hb)
    exact q.below (Nat.le_refl _) hlb
theorem msg_read {w : World} {B : Nat} {a : Option Addr} {n c : Nat} {L : List MsgM} (h : MsgsNew w B (.slice a n c) L) (i : Nat) (hi : i < L.length) (M : MsgM) (hM : L[i]? = some M) (ht : TextsIn M.log) :
    ∃ g am cm, a = some ⟨g, 0, none⟩ ∧ n = L.length ∧ (∀ j u, [.int .i64 M.kind, .int .i64 M.frm, .int .i64 M.dst, .int .i64 M.view, .int .i64 M.normal, .int .i64 M.commit, .int .i64 M.n, .slice am M.log.length cm][j]? = some u → w.cell? ⟨g, i * 8 + j, none⟩ = some u) ∧ ∀ W, Below w.heap.size w W → MsgAt W (.agg #[.int .i64 M.kind, .int .i64 M.frm, .int .i64 M.dst, .int .i64 M.view, .int .i64 M.normal, .int .i64 M.commit, .int .i64 M.n, .slice am M.log.length cm]) M := by
  obtain ⟨ps, rfl, h1, h2⟩ := h
  have hi' : i < ps.length := by simpa using hi
  obtain ⟨g, cap, e, hq1, hq2, hq3, hq4⟩ := own_cellN h1 (by decide) (i * 8) (by omega)
  simp only [Value.slice.injEq] at e
  obtain ⟨rfl, rfl, rfl⟩ := e
  have hp : ps[i].1 = M := by
    have := hM
    rw [List.getElem?_map, List.getElem?_eq_getElem hi'] at this
    exact Option.some.inj this
  have ho := h2 ps[i] (List.getElem_mem hi')
  obtain ⟨am, cm, ev⟩ := own_form ho
  rw [hp] at ev ho
  refine ⟨g, am, cm, rfl, by simp, fun j u hj => ?_, fun W hW => ⟨.slice am M.log.length cm, rfl, ?_⟩⟩
  · have hj8 : j < 8 := (List.getElem?_eq_some_iff.1 hj).1
    obtain ⟨g2, cap2, e2, _, _, hc, _⟩ := own_cellN h1 (by decide) (i * 8 + j) (by omega)
    simp only [Value.slice.injEq, Option.some.injEq, Addr.mk.injEq, and_true, true_and] at e2
    obtain ⟨rfl, _⟩ := e2
    rw [hc, flat_get msgRow 8 msgRow_len ps i j ps[i] (List.getElem?_eq_getElem hi') hj8]
    rw [← hj]
    show (msgCells ps[i].1 ps[i].2)[j]? = _
    rw [hp, ev]
    rfl
  · rw [ev] at ho
    exact (Strs.of_own ho (by have := ht.1; omega) ht.2).below hW

theorem set_repl {wc : World} {B b : Nat} {cs : List Value} {R : ReplM} {al ah aw ag an : Option Addr} {cl ch cw cg cn : Nat} (hx : Box wc b 30 cs) (hl : cs.length = 10) (hr : ReplNew wc B (.agg #[.int .i64 R.me, .int .i64 R.kept.view, .int .i64 R.kept.normal, .bool R.kept.calm, .slice al R.kept.log.length cl, .int .i64 R.kept.commit, .slice ah R.hav.length ch, .slice aw R.wants.length cw, .slice ag R.gives.length cg, .slice an R.given.length cn]) R) : ReplBox (setAll wc b 0 [.int .i64 R.me, .int .i64 R.kept.view, .int .i64 R.kept.normal, .bool R.kept.calm, .slice al R.kept.log.length cl, .int .i64 R.kept.commit, .slice ah R.hav.length ch, .slice aw R.wants.length cw, .slice ag R.gives.length cg, .slice an R.given.length cn]) B b R := by
  obtain ⟨vl, vh, vw, vg, vn, ps, e, ho⟩ := hr
  exact ⟨al, cl, ah, ch, aw, cw, ag, cg, an, cn, setAll_box hx _ hl.symm, vl, vh, vw, vg, vn, ps, e, ho.setAll hx (by decide) (by decide) (by decide) (by decide) 0 _⟩
theorem keep_repl {wc : World} {B b b' : Nat} {cs : List Value} {R : ReplM} (h : ReplBox wc B b' R) (hx : Box wc b 30 cs) (hne : b' ≠ b) (xs : List Value) : ReplBox (setAll wc b 0 xs) B b' R := by
  obtain ⟨al, cl, ah, ch, aw, cw, ag, cg, an, cn, hy, vl, vh, vw, vg, vn, ps, e, ho⟩ := h
  exact ⟨al, cl, ah, ch, aw, cw, ag, cg, an, cn, hy.setAll_other hne _ _, vl, vh, vw, vg, vn, ps, e, ho.setAll hx (by decide) (by decide) (by decide) (by decide) 0 _⟩
theorem keep_new {wc : World} {B b : Nat} {cs : List Value} {R : ReplM} {v : Value} (h : ReplNew wc B v R) (hx : Box wc b 30 cs) (xs : List Value) : ReplNew (setAll wc b 0 xs) B v R := by
  obtain ⟨vl, vh, vw, vg, vn, ps, e, ho⟩ := h
  exact ⟨vl, vh, vw, vg, vn, ps, e, ho.setAll hx (by decide) (by decide) (by decide) (by decide) 0 _⟩
theorem keep_below {w wc : World} {B b : Nat} (h : Below B w wc) (hb : B ≤ b) (xs : List Value) : Below B w (setAll wc b 0 xs) := (setAll_beside_up (b := b) hb xs w wc 0 (Beside.of h)).below (Nat.le_refl _) hb

end Go.Proofs.YtmdgkjbiicaljagDoor

/- slices.IndexFunc over messages, with the closure of ViewsBegin. -/
namespace Go.Proofs.YtmdgkjbiicaljagDoor
open Go.RowKit
set_option linter.unusedVariables false
set_option linter.unusedSimpArgs false

def isWant2 (M : MsgM) : Bool := (M.dst == 2) && (M.kind == 3)
theorem vb_closure (M : MsgM) (v : Value) (w : World) (hm : MsgAt w v M) :
    Calls Tryd.prog 14 #[v] w fun e w' => e = .returned (.bool (isWant2 M)) ∧ Below w.heap.size w w' := by
  obtain ⟨vm, rfl, hs⟩ := hm
  obtain ⟨am, cm, rfl, _, _⟩ := hs
  have HI : Hid (isWant2 M = ((M.dst == 2) && (M.kind == 3))) := rfl
  generalize isWant2 M = D at *
  simp only [msgCells]
  have hb := below_alloc w (.cells #[.int .i64 M.kind, .int .i64 M.frm, .int .i64 M.dst, .int .i64 M.view, .int .i64 M.normal, .int .i64 M.commit, .int .i64 M.n, .slice am M.log.length cm] 43)
  have hx := Box.new w 43 [.int .i64 M.kind, .int .i64 M.frm, .int .i64 M.dst, .int .i64 M.view, .int .i64 M.normal, .int .i64 M.commit, .int .i64 M.n, .slice am M.log.length cm]
  have HB : Hid (Below w.heap.size w _) := hb
  obtain ⟨w0, hw0⟩ : ∃ w0, w0 = w.alloc (.cells #[.int .i64 M.kind, .int .i64 M.frm, .int .i64 M.dst, .int .i64 M.view, .int .i64 M.normal, .int .i64 M.commit, .int .i64 M.n, .slice am M.log.length cm] 43) := ⟨_, rfl⟩
  rw [← hw0] at hx HB
  have x0 := hx.cell 0 _ rfl
  have x2 := hx.cell 2 _ rfl
  clear hb hx
  go_enter Tryd.func14, Tryd.ntmps14
  go_upto_region 1 with fail
  rw [← hw0]
  clear hw0
  by_cases h1 : M.dst = 2
  · have q1 : (M.dst == 2) = true := beq_iff_eq.mpr h1
    by_cases h2 : M.kind = 3
    · have q2 : (M.kind == 3) = true := beq_iff_eq.mpr h2
      have HD : Hid (D = true) := by rw [HI.out, q1, q2]; rfl
      clear h1 h2
      go_wp2_with fail
      go_ret
      exact ⟨by rw [HD.out]; rfl, HB.out⟩
    · have q2 : (M.kind == 3) = false := beq_eq_false_iff_ne.mpr h2
      have HD : Hid (D = false) := by rw [HI.out, q1, q2]; rfl
      clear h1 h2
      go_wp2_with fail
      go_ret
      exact ⟨by rw [HD.out]; rfl, HB.out⟩
  · have q1 : (M.dst == 2) = false := beq_eq_false_iff_ne.mpr h1
    have HD : Hid (D = false) := by rw [HI.out, q1]; rfl
    clear h1
    go_wp2_with fail
    go_ret
    exact ⟨by rw [HD.out]; rfl, HB.out⟩

set_option maxRecDepth 4000 in
set_option maxHeartbeats 4000000 in
theorem idxWant_any (B : Nat) (v : Value) (ps : List (MsgM × Value)) (w : World) (h : MsgsOwn w B v ps) (ht : ∀ p ∈ ps, TextsIn p.1.log) (hl : ps.length ≤ 1000) :
    Calls Tryd.prog 10 #[v, .func (.func 14) #[] #[]] w fun e w' => e = .returned (.int .i64 (idxOf isWant2 (ps.map Prod.fst))) ∧ Below w.heap.size w w' := by
  obtain ⟨a, cap, rfl⟩ := own_formN h.1
  have HC : Hid (∀ W k (hk : k < ps.length), Below w.heap.size w W → Calls _ _ _ W _) := fun W k hk hW => vb_closure ps[k].1 (.agg (msgRow ps[k]).toArray) W ⟨ps[k].2, rfl, Strs.of_own (own_below (h.2 _ (List.getElem_mem hk)) hW (own_lt (h.2 _ (List.getElem_mem hk)))) (by have := (ht _ (List.getElem_mem hk)).1; omega) (ht _ (List.getElem_mem hk)).2⟩
  have HL : Hid (∀ k (hk : k < ps.length) j, j < 8 → ∃ g cp, (Value.slice a ps.length cap) = .slice (some ⟨g, 0, none⟩) ps.length cp ∧ w.cell? ⟨g, k * 8 + j, none⟩ = (msgRow ps[k])[j]?) := fun k hk j hj => by
    obtain ⟨g, cp, hv', _, _, hc, _⟩ := own_cellN h.1 (by decide) (k * 8 + j) (by omega)
    refine ⟨g, cp, hv', ?_⟩
    rw [hc, flat_get msgRow 8 msgRow_len ps k j ps[k] (List.getElem?_eq_getElem hk) hj]
  clear h ht
  go_enter Tryd.func10, Tryd.ntmps10
  go_wp2_with fail
  go_loopw [5, 8] (fun s5 i wr => ∃ k : Nat, k ≤ ps.length ∧ i = .int .i64 k ∧ (∀ j (hj : j < ps.length), j < k → isWant2 ps[j].1 = false) ∧ Below w.heap.size w wr) (fun s5 i wr => ps.length - (intOf i).toNat)
  case atStart => exact ⟨0, by omega, rfl, fun j hj hk => absurd hk (by omega), Below.refl _ _⟩
  case round =>
    obtain ⟨k, hk, rfl, hno, hbr⟩ := hrel
    have HBR : Hid (Below w.heap.size w wr) := hbr
    have HNO : Hid (∀ j (hj : j < ps.length), j < k → isWant2 ps[j].1 = false) := hno
    clear hbr hno
    by_cases hlt : k < ps.length
    · have k0 : (0 : Int) ≤ (k : Int) := by omega
      have k1 : (k : Int) < (ps.length : Int) := by omega
      obtain ⟨g, c', e0, d0⟩ := HL.out k hlt 0 (by omega)
      obtain ⟨g1, c1, e1, d1⟩ := HL.out k hlt 1 (by omega)
      obtain ⟨g2, c2, e2, d2⟩ := HL.out k hlt 2 (by omega)
      obtain ⟨g3, c3, e3, d3⟩ := HL.out k hlt 3 (by omega)
      obtain ⟨g4, c4, e4, d4⟩ := HL.out k hlt 4 (by omega)
      obtain ⟨g5, c5, e5, d5⟩ := HL.out k hlt 5 (by omega)
      obtain ⟨g6, c6, e6, d6⟩ := HL.out k hlt 6 (by omega)
      obtain ⟨g7, c7, e7, d7⟩ := HL.out k hlt 7 (by omega)
      simp only [Value.slice.injEq, true_and] at e0
      obtain ⟨rfl, rfl⟩ := e0
      simp only [Value.slice.injEq, true_and, Option.some.injEq, Addr.mk.injEq, and_true] at e1 e2 e3 e4 e5 e6 e7
      obtain ⟨rfl, rfl⟩ := e1
      obtain ⟨rfl, rfl⟩ := e2
      obtain ⟨rfl, rfl⟩ := e3
      obtain ⟨rfl, rfl⟩ := e4
      obtain ⟨rfl, rfl⟩ := e5
      obtain ⟨rfl, rfl⟩ := e6
      obtain ⟨rfl, rfl⟩ := e7
      have HCK : Hid (Calls _ _ _ wr _) := HC.out wr k hlt HBR.out
      obtain ⟨p, hp⟩ : ∃ p, p = ps[k] := ⟨_, rfl⟩
      have HP : Hid (p = ps[k]) := hp
      rw [← hp] at d0 d1 d2 d3 d4 d5 d6 d7 HCK
      clear hp
      obtain ⟨M, vm⟩ := p
      simp only [msgRow, msgCells, List.getElem?_cons_zero, List.getElem?_cons_succ, Nat.add_zero] at d0 d1 d2 d3 d4 d5 d6 d7 HCK
      have d0 := keep_cell9 HBR.out d0
      have d1 := keep_cell9 HBR.out d1
      have d2 := keep_cell9 HBR.out d2
      have d3 := keep_cell9 HBR.out d3
      have d4 := keep_cell9 HBR.out d4
      have d5 := keep_cell9 HBR.out d5
      have d6 := keep_cell9 HBR.out d6
      have d7 := keep_cell9 HBR.out d7
      go_wp2_with fail
      refine HCK.out.mono ?_
      rintro e w2 ⟨rfl, hb2⟩
      have HB2 : Hid (Below w.heap.size w w2) := Below.far HBR.out hb2
      clear d0 d1 d2 d3 d4 d5 d6 d7 hb2 HCK
      by_cases hq : isWant2 M = true
      · have HE : Hid (idxOf isWant2 (ps.map Prod.fst) = k) := by
          refine idxOf_drop _ _ k (by simpa using hlt) (fun j hj hjk => ?_) ?_
          · rw [List.getElem_map]; exact HNO.out j (by simpa using hj) hjk
          · rw [List.getElem_map, ← HP.out]; exact hq
        rw [hq]
        go_wp2_with fail
        go_ret
        exact ⟨by rw [HE.out]; rfl, HB2.out⟩
      · have hq' : isWant2 M = false := by simpa using hq
        rw [hq']
        go_wp2_with fail
        go_roundw
        case rel => exact ⟨k + 1, by omega, by go_num, fun j hj hjk => by
          by_cases e : j = k
          · subst e; rw [← HP.out]; exact hq'
          · exact HNO.out j hj (by omega), HB2.out⟩
        case measure => simp [intOf]; omega
    · have HE : Hid (idxOf isWant2 (ps.map Prod.fst) = -1) := by
        refine idxOf_none _ _ fun j hj => ?_
        rw [List.getElem_map]; exact HNO.out j (by simpa using hj) (by simp at hj; omega)
      go_wp2_with fail
      go_ret
      exact ⟨by rw [HE.out]; rfl, HBR.out⟩

end Go.Proofs.YtmdgkjbiicaljagDoor
