/- What a call of package replica leaves in a box; messages read one by one. -/
import Derived.Test.YtmdgkjbiicaljagDoorJointTickKit
import Derived.Test.YtmdgkjbiicaljagDoorHearGo
import Derived.Test.YtmdgkjbiicaljagDoorTakeGo
import Derived.Test.YtmdgkjbiicaljagDoorNewGo
import Derived.Test.YtmdgkjbiicaljagDoorJointRegPlan
import Derived.Test.YtmdgkjbiicaljagDoorJointMachMath
import Derived.Lib.ItoaNum
namespace Go.Proofs.YtmdgkjbiicaljagDoor
open Go.RowKit
set_option linter.unusedVariables false
set_option linter.unusedSimpArgs false

theorem kept_texts (K : KeptM) (h : keptFault K = 0) : TextsIn K.log := by
  have m := keptMay_of _ h
  refine ⟨by have := m.len; omega, fun s hs => ?_⟩
  have := decE_len s (m.log s hs)
  omega
theorem may_fits (R : ReplM) (h : ReplMay R) : ReplFits R :=
  ⟨kept_texts _ h.kept, by rw [h.hl]; decide, by rw [h.wl]; decide, by rw [h.gl]; decide, fun k hk => kept_texts _ (h.gives k hk), by rw [h.nl]; decide⟩
/-- A replica in a box of its own, its rows from block B on. -/
def ReplBox (w : World) (B b : Nat) (R : ReplM) : Prop := ∃ al cl ah ch aw cw ag cg an cn, Box w b 30 [.int .i64 R.me, .int .i64 R.kept.view, .int .i64 R.kept.normal, .bool R.kept.calm, .slice al R.kept.log.length cl, .int .i64 R.kept.commit, .slice ah R.hav.length ch, .slice aw R.wants.length cw, .slice ag R.gives.length cg, .slice an R.given.length cn] ∧ ReplNew w B (.agg #[.int .i64 R.me, .int .i64 R.kept.view, .int .i64 R.kept.normal, .bool R.kept.calm, .slice al R.kept.log.length cl, .int .i64 R.kept.commit, .slice ah R.hav.length ch, .slice aw R.wants.length cw, .slice ag R.gives.length cg, .slice an R.given.length cn]) R
theorem ReplBox.below {w w' : World} {B b : Nat} {R : ReplM} (h : ReplBox w B b R) (hb : Below w.heap.size w w') : ReplBox w' B b R := by
  obtain ⟨al, cl, ah, ch, aw, cw, ag, cg, an, cn, hx, vl, vh, vw, vg, vn, ps, e, ho⟩ := h
  refine ⟨al, cl, ah, ch, aw, cw, ag, cg, an, cn, hx.below hb hx.lt, vl, vh, vw, vg, vn, ps, e, ho.map fun e s x m xs _ r => own_below r hb (own_lt r)⟩
theorem ReplBox.base {w : World} {B B' b : Nat} {R : ReplM} (h : ReplBox w B b R) (hb : B' ≤ B) : ReplBox w B' b R := by
  obtain ⟨al, cl, ah, ch, aw, cw, ag, cg, an, cn, hx, vl, vh, vw, vg, vn, ps, e, ho⟩ := h
  exact ⟨al, cl, ah, ch, aw, cw, ag, cg, an, cn, hx, vl, vh, vw, vg, vn, ps, e, ho.map fun e s x m xs _ r => own_base r hb⟩
/-- What Hear answers, its replica in a box. -/
def HeardAt (w0 : World) (R : ReplM) (L : List MsgM) (c : Int) (p o e : Value) (wx : World) : Prop :=
  ∃ lb asl csl, p = .pointer (some ⟨lb, 0, none⟩) ∧ o = .slice asl L.length csl ∧ e = .int .i64 c ∧ w0.heap.size ≤ lb ∧ ReplBox wx w0.heap.size lb R ∧ MsgsNew wx w0.heap.size (.slice asl L.length csl) L ∧ Below w0.heap.size w0 wx
theorem msgs_below {w w' : World} {B : Nat} {v : Value} {L : List MsgM} (h : MsgsNew w B v L) (hb : Below w.heap.size w w') : MsgsNew w' B v L := by
  obtain ⟨ps, h1, h2⟩ := h
  exact ⟨ps, h1, h2.map fun e s x m xs _ r => own_below r hb (own_lt r)⟩
theorem HeardAt.below {w0 : World} {R : ReplM} {L : List MsgM} {c : Int} {p o e : Value} {wx wy : World} (h : HeardAt w0 R L c p o e wx) (hb : Below wx.heap.size wx wy) : HeardAt w0 R L c p o e wy := by
  obtain ⟨lb, asl, csl, h1, h2, h3, h4, h5, h6, h7⟩ := h
  exact ⟨lb, asl, csl, h1, h2, h3, h4, h5.below hb, msgs_below h6 hb, Below.far h7 hb⟩
/-- A replica is stored whole into a zero box. -/
theorem heard_set {w0 w : World} {lb : Nat} {R : ReplM} {L : List MsgM} {c : Int} {cs : List Value} {al ah aw ag an asl : Option Addr} {cl ch cw cg cn csl : Nat} (hx : Box w lb 30 cs) (hl : cs.length = 10) (hr : ReplNew w w0.heap.size (.agg #[.int .i64 R.me, .int .i64 R.kept.view, .int .i64 R.kept.normal, .bool R.kept.calm, .slice al R.kept.log.length cl, .int .i64 R.kept.commit, .slice ah R.hav.length ch, .slice aw R.wants.length cw, .slice ag R.gives.length cg, .slice an R.given.length cn]) R) (hm : MsgsNew w w0.heap.size (.slice asl L.length csl) L) (hb : Below w0.heap.size w0 w) (hlb : w0.heap.size ≤ lb) :
    HeardAt w0 R L c (.pointer (some ⟨lb, 0, none⟩)) (.slice asl L.length csl) (.int .i64 c) (setAll w lb 0 [.int .i64 R.me, .int .i64 R.kept.view, .int .i64 R.kept.normal, .bool R.kept.calm, .slice al R.kept.log.length cl, .int .i64 R.kept.commit, .slice ah R.hav.length ch, .slice aw R.wants.length cw, .slice ag R.gives.length cg, .slice an R.given.length cn]) := by
  refine ⟨lb, asl, csl, rfl, rfl, rfl, hlb, ⟨al, cl, ah, ch, aw, cw, ag, cg, an, cn, setAll_box hx _ hl.symm, ?_⟩, ?_, ?_⟩
  · obtain ⟨vl, vh, vw, vg, vn, ps, e, ho⟩ := hr
    exact ⟨vl, vh, vw, vg, vn, ps, e, ho.setAll hx (by decide) (by decide) (by decide) (by decide) 0 _⟩
  · obtain ⟨ps, e, ho⟩ := hm
    exact ⟨ps, e, ho.setAll hx (by decide) (by decide) 0 _⟩
  · have q := setAll_beside_up (b := lb) hlb [.int .i64 R.me, .int .i64 R.kept.view, .int .i64 R.kept.normal, .bool R.kept.calm, .slice al R.kept.log.length cl, .int .i64 R.kept.commit, .slice ah R.hav.length ch, .slice aw R.wants.length cw, .slice ag R.gives.length cg, .slice an R.given.length cn] w0 w 0 (Beside.of hb)
    exact q.below (Nat.le_refl _) hlb
theorem msg_read {w : World} {B : Nat} {a : Option Addr} {n c : Nat} {L : List MsgM} (h : MsgsNew w B (.slice a n c) L) (i : Nat) (hi : i < L.length) (M : MsgM) (hM : L[i]? = some M) (ht : TextsIn M.log) :
    ∃ g am cm, a = some ⟨g, 0, none⟩ ∧ n = L.length ∧ (∀ j u, [.int .i64 M.kind, .int .i64 M.frm, .int .i64 M.dst, .int .i64 M.view, .int .i64 M.normal, .int .i64 M.commit, .int .i64 M.n, .slice am M.log.length cm][j]? = some u → w.cell? ⟨g, i * 8 + j, none⟩ = some u) ∧ ∀ W, Below w.heap.size w W → MsgAt W (.agg #[.int .i64 M.kind, .int .i64 M.frm, .int .i64 M.dst, .int .i64 M.view, .int .i64 M.normal, .int .i64 M.commit, .int .i64 M.n, .slice am M.log.length cm]) M := by
  obtain ⟨ps, rfl, h1, h2⟩ := h
  have hi' : i < ps.length := by simpa using hi
  obtain ⟨g, cap, e, hq1, hq2, hq3, hq4⟩ := own_cellN h1 (by decide) (i * 8) (by omega)
  simp only [Value.slice.injEq] at e
  obtain ⟨rfl, rfl, rfl⟩ := e
  have hp : ps[i].1 = M := by
    have := hM
    rw [List.getElem?_map, List.getElem?_eq_getElem hi'] at this
    exact Option.some.inj this
  have ho := h2 ps[i] (List.getElem_mem hi')
  obtain ⟨am, cm, ev⟩ := own_form ho
  rw [hp] at ev ho
  refine ⟨g, am, cm, rfl, by simp, fun j u hj => ?_, fun W hW => ⟨.slice am M.log.length cm, rfl, ?_⟩⟩
  · have hj8 : j < 8 := (List.getElem?_eq_some_iff.1 hj).1
    obtain ⟨g2, cap2, e2, _, _, hc, _⟩ := own_cellN h1 (by decide) (i * 8 + j) (by omega)
    simp only [Value.slice.injEq, Option.some.injEq, Addr.mk.injEq, and_true, true_and] at e2
    obtain ⟨rfl, _⟩ := e2
    rw [hc, flat_get msgRow 8 msgRow_len ps i j ps[i] (List.getElem?_eq_getElem hi') hj8]
    rw [← hj]
    show (msgCells ps[i].1 ps[i].2)[j]? = _
    rw [hp, ev]
    rfl
  · rw [ev] at ho
    exact (Strs.of_own ho (by have := ht.1; omega) ht.2).below hW

theorem set_repl {wc : World} {B b : Nat} {cs : List Value} {R : ReplM} {al ah aw ag an : Option Addr} {cl ch cw cg cn : Nat} (hx : Box wc b 30 cs) (hl : cs.length = 10) (hr : ReplNew wc B (.agg #[.int .i64 R.me, .int .i64 R.kept.view, .int .i64 R.kept.normal, .bool R.kept.calm, .slice al R.kept.log.length cl, .int .i64 R.kept.commit, .slice ah R.hav.length ch, .slice aw R.wants.length cw, .slice ag R.gives.length cg, .slice an R.given.length cn]) R) : ReplBox (setAll wc b 0 [.int .i64 R.me, .int .i64 R.kept.view, .int .i64 R.kept.normal, .bool R.kept.calm, .slice al R.kept.log.length cl, .int .i64 R.kept.commit, .slice ah R.hav.length ch, .slice aw R.wants.length cw, .slice ag R.gives.length cg, .slice an R.given.length cn]) B b R := by
  obtain ⟨vl, vh, vw, vg, vn, ps, e, ho⟩ := hr
  exact ⟨al, cl, ah, ch, aw, cw, ag, cg, an, cn, setAll_box hx _ hl.symm, vl, vh, vw, vg, vn, ps, e, ho.setAll hx (by decide) (by decide) (by decide) (by decide) 0 _⟩
theorem keep_repl {wc : World} {B b b' : Nat} {cs : List Value} {R : ReplM} (h : ReplBox wc B b' R) (hx : Box wc b 30 cs) (hne : b' ≠ b) (xs : List Value) : ReplBox (setAll wc b 0 xs) B b' R := by
  obtain ⟨al, cl, ah, ch, aw, cw, ag, cg, an, cn, hy, vl, vh, vw, vg, vn, ps, e, ho⟩ := h
  exact ⟨al, cl, ah, ch, aw, cw, ag, cg, an, cn, hy.setAll_other hne _ _, vl, vh, vw, vg, vn, ps, e, ho.setAll hx (by decide) (by decide) (by decide) (by decide) 0 _⟩
theorem keep_new {wc : World} {B b : Nat} {cs : List Value} {R : ReplM} {v : Value} (h : ReplNew wc B v R) (hx : Box wc b 30 cs) (xs : List Value) : ReplNew (setAll wc b 0 xs) B v R := by
  obtain ⟨vl, vh, vw, vg, vn, ps, e, ho⟩ := h
  exact ⟨vl, vh, vw, vg, vn, ps, e, ho.setAll hx (by decide) (by decide) (by decide) (by decide) 0 _⟩
theorem keep_below {w wc : World} {B b : Nat} (h : Below B w wc) (hb : B ≤ b) (xs : List Value) : Below B w (setAll wc b 0 xs) := (setAll_beside_up (b := b) hb xs w wc 0 (Beside.of h)).below (Nat.le_refl _) hb

end Go.Proofs.YtmdgkjbiicaljagDoor

/- The plain mathematics of the raw things that the laws draw: operations. -/
namespace Go.Proofs.YtmdgkjbiicaljagDoor

structure RawM where
  kind : Int
  a : Int
  b : Int
  c : Int

/-- What the laws' function Op makes of a raw thing. -/
def opOf (r : RawM) : OpM :=
  if pickN r.kind 12 < 5 then ⟨1, pickN r.a 6, 0, 119 :: Go.Lib.itoa (pickN r.b 1000)⟩
  else if pickN r.kind 12 = 5 then ⟨2, pickN r.a 6, 0, []⟩
  else if pickN r.kind 12 = 6 then ⟨4, 0, 0, []⟩
  else ⟨3, pickN r.a 6, max 0 (pickN r.b 6 - 2), []⟩

theorem decDigits_len (u : Nat) (h : u < 1000) : (Go.Lib.decDigits u).length ≤ 3 := by
  rw [Go.Lib.decDigits]
  split
  · simp
  · rw [Go.Lib.decDigits]
    split
    · simp
    · rw [Go.Lib.decDigits]
      split
      · simp
      · omega

theorem itoa_len (n : Int) (h0 : 0 ≤ n) (h1 : n < 1000) : (Go.Lib.itoa n).length ≤ 3 := by
  unfold Go.Lib.itoa
  rw [if_neg (by omega)]
  exact decDigits_len _ (by omega)

theorem opOf_ok (r : RawM) : opFault (opOf r) = 0 := by
  have h1 := pickN_bd r.a 6 (by omega)
  have h2 := pickN_bd r.b 1000 (by omega)
  have h3 := pickN_bd r.b 6 (by omega)
  have h4 := itoa_len _ h2.1 h2.2
  unfold opOf opFault
  split
  · simp only [List.length_cons]
    unfold opFaultN
    repeat' split
    all_goals first | rfl | (exfalso; omega)
  split
  · unfold opFaultN
    simp only [List.length_nil]
    repeat' split
    all_goals first | rfl | (exfalso; omega)
  split
  · rfl
  · unfold opFaultN
    simp only [List.length_nil]
    repeat' split
    all_goals first | rfl | (exfalso; omega)

end Go.Proofs.YtmdgkjbiicaljagDoor

/- The plain mathematics of the requests that the laws draw. -/
namespace Go.Proofs.YtmdgkjbiicaljagDoor

/-- Who asks. -/
def rawC (r : RawM) : Nat := (1 + pickN r.c 4).toNat
/-- The clients' next numbers, behind a raw thing. -/
def nextOf (nx : List Int) (r : RawM) : List Int := if nx.getD (rawC r) 0 = 0 ∨ 0 < pickN r.a 4 then nx.set (rawC r) (nx.getD (rawC r) 0 + 1) else nx
def reqAt (nx : List Int) (r : RawM) : ReqM := ⟨(rawC r : Int), (nextOf nx r).getD (rawC r) 0, opOf r⟩
def nextsOf (nx : List Int) : List RawM → List Int
  | [] => nx
  | r :: l => nextsOf (nextOf nx r) l
def reqsOf (nx : List Int) : List RawM → List ReqM
  | [] => []
  | r :: l => reqAt nx r :: reqsOf (nextOf nx r) l
def nx0 : List Int := [0, 0, 0, 0, 0]

theorem rawC_bd (r : RawM) : 1 ≤ rawC r ∧ rawC r ≤ 4 ∧ (rawC r : Int) = 1 + pickN r.c 4 := by
  have := pickN_bd r.c 4 (by omega)
  unfold rawC
  omega

theorem nextsOf_snoc (nx : List Int) (l : List RawM) (r : RawM) : nextsOf nx (l ++ [r]) = nextOf (nextsOf nx l) r := by
  induction l generalizing nx with
  | nil => rfl
  | cons x l ih => exact ih _
theorem reqsOf_snoc (nx : List Int) (l : List RawM) (r : RawM) : reqsOf nx (l ++ [r]) = reqsOf nx l ++ [reqAt (nextsOf nx l) r] := by
  induction l generalizing nx with
  | nil => rfl
  | cons x l ih => simp only [List.cons_append, reqsOf, nextsOf]; rw [ih]

theorem nextOf_len (nx : List Int) (r : RawM) : (nextOf nx r).length = nx.length := by unfold nextOf; split <;> simp
theorem nextsOf_len (nx : List Int) (l : List RawM) : (nextsOf nx l).length = nx.length := by
  induction l generalizing nx with
  | nil => rfl
  | cons x l ih => exact (ih _).trans (nextOf_len nx x)
theorem reqsOf_len (nx : List Int) (l : List RawM) : (reqsOf nx l).length = l.length := by
  induction l generalizing nx with
  | nil => rfl
  | cons x l ih => simp [reqsOf, ih]

/-- The numbers stay within bounds. -/
theorem nextOf_bd (nx : List Int) (r : RawM) (k : Int) (h : ∀ x ∈ nx, 0 ≤ x ∧ x ≤ k) : ∀ x ∈ nextOf nx r, 0 ≤ x ∧ x ≤ k + 1 := by
  have hg : 0 ≤ nx.getD (rawC r) 0 ∧ (nx.getD (rawC r) 0 ≤ k ∨ nx.getD (rawC r) 0 = 0) := by
    by_cases hi : rawC r < nx.length
    · have := h _ (List.getElem_mem hi)
      simp only [List.getD, List.getElem?_eq_getElem hi, Option.getD_some]
      exact ⟨this.1, Or.inl this.2⟩
    · simp [List.getD, List.getElem?_eq_none (Nat.le_of_not_lt hi)]
  unfold nextOf
  intro x hx
  split at hx
  · rcases List.mem_or_eq_of_mem_set hx with hx | rfl
    · have := h x hx; omega
    · rename_i hc
      by_cases hi : rawC r < nx.length
      · have := h _ (List.getElem_mem hi); omega
      · rw [List.set_eq_of_length_le (by omega)] at hx
        have := h _ hx; omega
  · have := h x hx; omega

theorem nextsOf_bd (l : List RawM) : ∀ (nx : List Int) (k : Int), (∀ x ∈ nx, 0 ≤ x ∧ x ≤ k) → ∀ x ∈ nextsOf nx l, 0 ≤ x ∧ x ≤ k + l.length := by
  induction l with
  | nil => intro nx k h x hx; have := h x hx; simp; omega
  | cons r l ih =>
    intro nx k h x hx
    have := ih (nextOf nx r) (k + 1) (nextOf_bd nx r k h) x hx
    simp; omega

/-- Each request may be. -/
theorem reqAt_ok (nx : List Int) (r : RawM) (hl : nx.length = 5) (k : Int) (hk : k ≤ 1000) (h : ∀ x ∈ nx, 0 ≤ x ∧ x ≤ k) : reqFault (reqAt nx r) = 0 := by
  have hc := rawC_bd r
  have hi : rawC r < nx.length := by omega
  have hb := nextOf_bd nx r k h
  have hi' : rawC r < (nextOf nx r).length := by rw [nextOf_len]; exact hi
  have hm := hb _ (List.getElem_mem hi')
  have e : (nextOf nx r).getD (rawC r) 0 = (nextOf nx r)[rawC r] := by simp [List.getD, hi']
  have hpos : 1 ≤ (nextOf nx r).getD (rawC r) 0 := by
    have h0 := h _ (List.getElem_mem hi)
    have e0 : nx.getD (rawC r) 0 = nx[rawC r] := by simp [List.getD, hi]
    unfold nextOf
    split
    · rw [show (nx.set (rawC r) (nx.getD (rawC r) 0 + 1)).getD (rawC r) 0 = nx.getD (rawC r) 0 + 1 by simp [List.getD, hi]]
      rw [e0]; omega
    · rename_i hn
      rw [e0] at hn ⊢
      omega
  unfold reqFault reqAt
  simp only
  rw [if_pos ⟨⟨by omega, by omega⟩, ⟨hpos, by rw [e]; omega⟩⟩]
  exact opOf_ok r

theorem reqsOf_ok : ∀ (l : List RawM) (nx : List Int) (k : Int), nx.length = 5 → k + l.length ≤ 1000 → (∀ x ∈ nx, 0 ≤ x ∧ x ≤ k) → ∀ r ∈ reqsOf nx l, reqFault r = 0
  | [], _, _, _, _, _, r, hr => by simp [reqsOf] at hr
  | x :: l, nx, k, hl, hk, h, r, hr => by
    simp only [List.length_cons] at hk
    simp only [reqsOf, List.mem_cons] at hr
    rcases hr with rfl | hr
    · exact reqAt_ok nx x hl k (by omega) h
    · exact reqsOf_ok l (nextOf nx x) (k + 1) (by rw [nextOf_len]; exact hl) (by omega) (nextOf_bd nx x k h) r hr

end Go.Proofs.YtmdgkjbiicaljagDoor
