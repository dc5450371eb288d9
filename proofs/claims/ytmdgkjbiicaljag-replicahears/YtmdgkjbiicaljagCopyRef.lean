/- The document's ReplicaCopy. -/
import Derived.Test.YtmdgkjbiicaljagJointRegLast
import Derived.Test.YtmdgkjbiicaljagTakeGo
import Derived.Test.YtmdgkjbiicaljagJointNumIs
import Derived.Test.YtmdgkjbiicaljagJointWantRef
import Derived.Test.YtmdgkjbiicaljagCopyGo
import Derived.Test.YtmdgkjbiicaljagJointSteps
import Derived.Deep.RegionLaw
namespace Go.Proofs.Ytmdgkjbiicaljag
open Go.RowKit
set_option linter.unusedVariables false
set_option linter.unusedSimpArgs false

theorem enter_keptCopy (us : Array Value) (w : World) : (callFunc 18 us).run Try.prog w = .ok (.enter 18 us) w := by kernel_rfl
def noGives (R : ReplM) : ReplM := ⟨R.me, R.kept, R.hav, R.wants, [], R.given⟩
def crefPr (R : ReplM) (vl vh vw vn : Value) (b B : Nat) : Nat → Value → World → Prop
  | 0, v, _ => v = .pointer (some ⟨b, 0, none⟩)
  | 1, v, _ => v = .int .i64 R.me
  | 2, v, _ => v = .pointer (some ⟨b, 1, none⟩)
  | 3, v, _ => v = .agg #[.int .i64 R.kept.view, .int .i64 R.kept.normal, .bool R.kept.calm, vl, .int .i64 R.kept.commit]
  | 4, v, W => KeptNew W B v R.kept
  | 5, v, _ => v = .pointer (some ⟨b, 6, none⟩)
  | 6, v, _ => v = vh
  | 7, v, W => W.ownsRow B 3 1 v R.hav.length (R.hav.map encI)
  | 8, v, _ => v = .pointer (some ⟨b, 7, none⟩)
  | 9, v, _ => v = vw
  | 10, v, W => W.ownsRow B 4 1 v R.wants.length (R.wants.map encB)
  | 11, v, _ => v = .pointer (some ⟨b, 9, none⟩)
  | 12, v, _ => v = vn
  | 13, v, W => W.ownsRow B 4 1 v R.given.length (R.given.map encB)
  | 14, v, W => ∃ al cl ah ch aw cw an cn, v = .agg (replCells (noGives R) (.slice al R.kept.log.length cl) (.slice ah R.hav.length ch) (.slice aw R.wants.length cw) (.slice none 0 0) (.slice an R.given.length cn)).toArray ∧ ReplOwn W B (noGives R) (.slice al R.kept.log.length cl) (.slice ah R.hav.length ch) (.slice aw R.wants.length cw) (.slice none 0 0) (.slice an R.given.length cn) []
  | 15, v, W => ∃ b3, v = .pointer (some ⟨b3, 0, none⟩) ∧ B ≤ b3 ∧ Box W b3 29 [.int .i64 0, .int .i64 0, .int .i64 0, .bool false, .slice none 0 0, .int .i64 0, .slice none 0 0, .slice none 0 0, .slice none 0 0, .slice none 0 0]
  | _, _, _ => True
theorem crefPr_below {R : ReplM} {vl vh vw vn : Value} {b B : Nat} {W W' : World} (hb : Below W.heap.size W W') : ∀ (j : Nat) (u : Value), crefPr R vl vh vw vn b B j u W → crefPr R vl vh vw vn b B j u W'
  | 0, _, h => h
  | 1, _, h => h
  | 2, _, h => h
  | 3, _, h => h
  | 4, _, h => KeptNew.below h hb
  | 5, _, h => h
  | 6, _, h => h
  | 7, _, h => own_below h hb (own_lt h)
  | 8, _, h => h
  | 9, _, h => h
  | 10, _, h => own_below h hb (own_lt h)
  | 11, _, h => h
  | 12, _, h => h
  | 13, _, h => own_below h hb (own_lt h)
  | 14, _, h => by obtain ⟨al, cl, ah, ch, aw, cw, an, cn, hv, ho⟩ := h; exact ⟨al, cl, ah, ch, aw, cw, an, cn, hv, ho.below hb⟩
  | 15, _, h => by obtain ⟨b3, hv, h1, h2⟩ := h; exact ⟨b3, hv, h1, h2.below hb h2.lt⟩
  | _ + 16, _, _ => trivial
theorem cref_last {R : ReplM} {vl vh vw vn u v : Value} {b B : Nat} {W : World} (h : crefPr R vl vh vw vn b B 14 u W) (h' : crefPr R vl vh vw vn b B 15 v W) : ∃ al cl ah ch aw cw an cn b3, u = .agg #[.int .i64 R.me, .int .i64 R.kept.view, .int .i64 R.kept.normal, .bool R.kept.calm, .slice al R.kept.log.length cl, .int .i64 R.kept.commit, .slice ah R.hav.length ch, .slice aw R.wants.length cw, .slice none 0 0, .slice an R.given.length cn] ∧
    ReplOwn W B (noGives R) (.slice al R.kept.log.length cl) (.slice ah R.hav.length ch) (.slice aw R.wants.length cw) (.slice none 0 0) (.slice an R.given.length cn) [] ∧ v = .pointer (some ⟨b3, 0, none⟩) ∧ B ≤ b3 ∧ Box W b3 29 [.int .i64 0, .int .i64 0, .int .i64 0, .bool false, .slice none 0 0, .int .i64 0, .slice none 0 0, .slice none 0 0, .slice none 0 0, .slice none 0 0] := by
  obtain ⟨al, cl, ah, ch, aw, cw, an, cn, h1, h2⟩ := h
  obtain ⟨b3, h3, h4, h5⟩ := h'
  exact ⟨al, cl, ah, ch, aw, cw, an, cn, b3, h1, h2, h3, h4, h5⟩
def crefA (i j : Nat) (u v : Value) : Prop := (i = 10 ∧ j = 13 ∨ i = 13 ∧ j = 10) → Asunder u v
def crefG (w : World) (cs : List Value) (W : World) : Prop :=
  Below w.heap.size w W ∧ w.heap.size + 2 ≤ W.heap.size ∧ Box W w.heap.size 29 cs ∧ Box W (w.heap.size + 1) 29 [.int .i64 0, .int .i64 0, .int .i64 0, .bool false, .slice none 0 0, .int .i64 0, .slice none 0 0, .slice none 0 0, .slice none 0 0, .slice none 0 0]
theorem crefG.below {w : World} {cs : List Value} {W W' : World} (h : crefG w cs W) (hb : Below W.heap.size W W') : crefG w cs W' := by
  obtain ⟨h1, h2, h3, h4⟩ := h
  exact ⟨Below.far h1 hb, Nat.le_trans h2 hb.size, h3.below hb h3.lt, h4.below hb h4.lt⟩

/-- The copy, with so many of what is given. -/
def CopyTo (w : World) (b3 : Nat) (R : ReplM) (k : Nat) (W : World) : Prop :=
  ∃ vl vh vw vg vn ps, Box W b3 29 [.int .i64 R.me, .int .i64 R.kept.view, .int .i64 R.kept.normal, .bool R.kept.calm, vl, .int .i64 R.kept.commit, vh, vw, vg, vn] ∧ ReplOwn W (w.heap.size + 2) ⟨R.me, R.kept, R.hav, R.wants, R.gives.take k, R.given⟩ vl vh vw vg vn ps
theorem ReplOwn.snoc {w w' : World} {B k : Nat} {R : ReplM} {vl vh vw vg vg' vn vk : Value} {ps : List (KeptM × Value)} {q : KeptM} (h : ReplOwn w B ⟨R.me, R.kept, R.hav, R.wants, R.gives.take k, R.given⟩ vl vh vw vg vn ps) (hq : R.gives.take (k + 1) = R.gives.take k ++ [q])
    (ho : ∀ (e : TypeId) (s : Nat) (x : Value) (m : Nat) (xs : List Value), (e = 9 ∨ e = 3 ∨ e = 4) → w.ownsRow B e s x m xs → w'.ownsRow B e s x m xs)
    (hg : w'.ownsRow B 24 5 vg' (ps.length + 1) (ps.flatMap keptRow ++ keptCells q vk)) (hk : w'.ownsRow B 9 1 vk q.log.length (q.log.map enc)) (hs : Asunder vl vk) :
    ReplOwn w' B ⟨R.me, R.kept, R.hav, R.wants, R.gives.take (k + 1), R.given⟩ vl vh vw vg' vn (ps ++ [(q, vk)]) := by
  obtain ⟨h0, h1, h2, h3, h4, h5, h6, h7⟩ := h
  refine ⟨?_, ho _ _ _ _ _ (by simp) h1, ho _ _ _ _ _ (by simp) h2, ho _ _ _ _ _ (by simp) h3, ⟨by simpa [keptRow] using hg, fun p hp => ?_⟩, ho _ _ _ _ _ (by simp) h5, h6, fun p hp => ?_⟩
  · show R.gives.take (k + 1) = _
    rw [hq, List.map_append]
    have : R.gives.take k = ps.map Prod.fst := h0
    rw [this]
    rfl
  · rcases List.mem_append.1 hp with hp | hp
    · exact ho _ _ _ _ _ (by simp) (h4.2 p hp)
    · have : p = (q, vk) := by simpa using hp
      subst this
      exact hk
  · rcases List.mem_append.1 hp with hp | hp
    · exact h7 p hp
    · have : p = (q, vk) := by simpa using hp
      subst this
      exact hs

set_option maxRecDepth 8000 in
set_option maxHeartbeats 8000000 in
theorem replicaCopyOf_any (R : ReplM) (v : Value) (w : World) (h : ReplAt w v R) (hf : ReplFits R) :
    Calls Try.prog 7 #[v] w fun e w' => ∃ v', e = .returned v' ∧ ReplNew w' w.heap.size v' R ∧ Below w.heap.size w w' := by
  obtain ⟨vl, vh, vw, vg, vn, rfl, hl, hh, hw, hg, hn⟩ := h
  have HSC : Hid (∀ W, Below w.heap.size w W → Calls _ _ _ W _) := fun W hW => keptCopyOf_any R.kept _ W ⟨vl, rfl, hl.below hW⟩ hf.log.1
  have HIC : Hid (∀ W, Below w.heap.size w W → RowAt W vh R.hav.length 1 (R.hav.map encI)) := fun W hW => (hh.below hW).row
  have HWC : Hid (∀ W, Below w.heap.size w W → RowAt W vw R.wants.length 1 (R.wants.map encB)) := fun W hW => (hw.below hW).row
  have HNC : Hid (∀ W, Below w.heap.size w W → RowAt W vn R.given.length 1 (R.given.map encB)) := fun W hW => (hn.below hW).row
  have hz0 := hf.hav
  have hz3 := hf.wants
  have hz4 := hf.given
  obtain ⟨me, ⟨vi, nm, cm, l, ct⟩, hav, wants, gives, given⟩ := R
  have hz1 := hf.gives
  have hz2 := hf.each
  simp only [replCells] at *
  obtain ⟨al, cl, rfl, hl1, _⟩ := hl
  obtain ⟨ah, ch, rfl, hh1, _⟩ := hh
  obtain ⟨aw, cw, rfl, hw1, _⟩ := hw
  obtain ⟨ag, cg, rfl, hg1, hg2⟩ := hg
  obtain ⟨an, cn, rfl, hn1, _⟩ := hn
  obtain ⟨b0, b1, hb⟩ := boxes2 w 29 29 [.int .i64 me, .int .i64 vi, .int .i64 nm, .bool cm, .slice al l.length cl, .int .i64 ct, .slice ah hav.length ch, .slice aw wants.length cw, .slice ag gives.length cg, .slice an given.length cn] [.int .i64 0, .int .i64 0, .int .i64 0, .bool false, .slice none 0 0, .int .i64 0, .slice none 0 0, .slice none 0 0, .slice none 0 0, .slice none 0 0]
  obtain ⟨w0, hw0⟩ : ∃ w0, w0 = (w.alloc (.cells #[.int .i64 me, .int .i64 vi, .int .i64 nm, .bool cm, .slice al l.length cl, .int .i64 ct, .slice ah hav.length ch, .slice aw wants.length cw, .slice ag gives.length cg, .slice an given.length cn] 29)).alloc (.cells #[.int .i64 0, .int .i64 0, .int .i64 0, .bool false, .slice none 0 0, .int .i64 0, .slice none 0 0, .slice none 0 0, .slice none 0 0, .slice none 0 0] 29) := ⟨_, rfl⟩
  have hsz : w0.heap.size = w.heap.size + 2 := by rw [hw0]; simp
  go_enter Try.func7, Try.ntmps7
  go_upto_region 1 with fail
  rw [← hw0] at b0 b1 hb ⊢
  clear hw0
  have HBW : Hid (Below w.heap.size w w0) := hb
  have HSZ : Hid (w0.heap.size = w.heap.size + 2) := hsz
  refine wp_region_last' 16 _ rfl (by kernel_rfl) (by kernel_rfl)
    (crefG w [.int .i64 me, .int .i64 vi, .int .i64 nm, .bool cm, .slice al l.length cl, .int .i64 ct, .slice ah hav.length ch, .slice aw wants.length cw, .slice ag gives.length cg, .slice an given.length cn])
    (crefPr ⟨me, ⟨vi, nm, cm, l, ct⟩, hav, wants, gives, given⟩ (.slice al l.length cl) (.slice ah hav.length ch) (.slice aw wants.length cw) (.slice an given.length cn) w.heap.size (w.heap.size + 2))
    crefA ?_ ?_ ?_
  · have hs2 : w.heap.size + 2 ≤ w0.drew.heap.size := by show _ ≤ w0.heap.size; omega
    exact ⟨hb.drew, hs2, b0, b1⟩
  · clear b0 b1 hb hsz
    intro i o hi ho a W vs hG hout hdep hdA
    obtain ⟨gB, gS, gb0, gb1⟩ := id hG
    match i, hi, ho with
    | 0, _, ho =>
      obtain rfl := Option.some.inj ho
      have e0 : a.tmps.getD 1 undef = .pointer (some ⟨w.heap.size, 0, none⟩) := hout 1 (by kernel_rfl)
      refine op_value (v := .pointer (some ⟨w.heap.size, 0, none⟩)) (w' := W) ?_ ⟨_, rfl, hG, rfl, fun j u _ h => ⟨h, fun h9 => absurd h9 (by omega)⟩⟩
      show (execOp a.eval { dst := _, op := .fieldAddr 29 (.tmp 1) 0, type := _, pos := _, after := _, guard := _ }).run Try.prog W = _
      clear hout hdep hdA
      simp only [Array.getD_eq_getD_getElem?] at e0
      simp [execOp, Act.eval, e0, go_sem]
    | 1, _, ho =>
      obtain rfl := Option.some.inj ho
      obtain ⟨p0, e0⟩ := hdep 0 (by kernel_rfl)
      have p0 : vs 0 = .pointer (some ⟨w.heap.size, 0, none⟩) := p0
      have f0 := e0 5 (by kernel_rfl)
      rw [p0] at f0
      have x0 := gb0.cell 0 _ rfl
      refine op_value (v := .int .i64 me) (w' := W) ?_ ⟨_, rfl, hG, rfl, fun j u _ h => ⟨h, fun h9 => absurd h9 (by omega)⟩⟩
      show (execOp a.eval { dst := _, op := .load 3 (.tmp 5), type := _, pos := _, after := _, guard := _ }).run Try.prog W = _
      clear hout hdep hdA
      simp only [Array.getD_eq_getD_getElem?] at f0
      simp [execOp, Act.eval, f0, go_sem, x0]
    | 2, _, ho =>
      obtain rfl := Option.some.inj ho
      have e0 : a.tmps.getD 1 undef = .pointer (some ⟨w.heap.size, 0, none⟩) := hout 1 (by kernel_rfl)
      refine op_value (v := .pointer (some ⟨w.heap.size, 1, none⟩)) (w' := W) ?_ ⟨_, rfl, hG, rfl, fun j u _ h => ⟨h, fun h9 => absurd h9 (by omega)⟩⟩
      show (execOp a.eval { dst := _, op := .fieldAddr 29 (.tmp 1) 1, type := _, pos := _, after := _, guard := _ }).run Try.prog W = _
      clear hout hdep hdA
      simp only [Array.getD_eq_getD_getElem?] at e0
      simp [execOp, Act.eval, e0, go_sem]
    | 3, _, ho =>
      obtain rfl := Option.some.inj ho
      obtain ⟨p0, e0⟩ := hdep 2 (by kernel_rfl)
      have p0 : vs 2 = .pointer (some ⟨w.heap.size, 1, none⟩) := p0
      have f0 := e0 7 (by kernel_rfl)
      rw [p0] at f0
      have x1 := gb0.cell 1 _ rfl
      have x2 := gb0.cell 2 _ rfl
      have x3 := gb0.cell 3 _ rfl
      have x4 := gb0.cell 4 _ rfl
      have x5 := gb0.cell 5 _ rfl
      refine op_value (v := .agg #[.int .i64 vi, .int .i64 nm, .bool cm, .slice al l.length cl, .int .i64 ct]) (w' := W) ?_ ⟨_, rfl, hG, rfl, fun j u _ h => ⟨h, fun h9 => absurd h9 (by omega)⟩⟩
      show (execOp a.eval { dst := _, op := .load 24 (.tmp 7), type := _, pos := _, after := _, guard := _ }).run Try.prog W = _
      clear hout hdep hdA
      simp only [Array.getD_eq_getD_getElem?] at f0
      simp [execOp, Act.eval, f0, go_sem, x1, x2, x3, x4, x5]
    | 4, _, ho =>
      obtain rfl := Option.some.inj ho
      obtain ⟨p0, e0⟩ := hdep 3 (by kernel_rfl)
      have p0 : vs 3 = .agg #[.int .i64 vi, .int .i64 nm, .bool cm, .slice al l.length cl, .int .i64 ct] := p0
      have f0 := e0 8 (by kernel_rfl)
      rw [p0] at f0
      refine op_call 18 [.tmp 8] _ rfl [.agg #[.int .i64 vi, .int .i64 nm, .bool cm, .slice al l.length cl, .int .i64 ct]] (by simp only [List.map_cons, List.map_nil, Act.eval, f0]) enter_keptCopy ((HSC.out W gB).mono ?_)
      rintro e w9 ⟨v9, rfl, hn9, hb9⟩
      exact ⟨v9, rfl, v9, rfl, hG.below hb9, KeptNew.base hn9 gS, fun j u _ h => ⟨crefPr_below hb9 j u h, fun h9 => absurd h9 (by omega)⟩⟩
    | 5, _, ho =>
      obtain rfl := Option.some.inj ho
      have e0 : a.tmps.getD 1 undef = .pointer (some ⟨w.heap.size, 0, none⟩) := hout 1 (by kernel_rfl)
      refine op_value (v := .pointer (some ⟨w.heap.size, 6, none⟩)) (w' := W) ?_ ⟨_, rfl, hG, rfl, fun j u _ h => ⟨h, fun h9 => absurd h9 (by omega)⟩⟩
      show (execOp a.eval { dst := _, op := .fieldAddr 29 (.tmp 1) 2, type := _, pos := _, after := _, guard := _ }).run Try.prog W = _
      clear hout hdep hdA
      simp only [Array.getD_eq_getD_getElem?] at e0
      simp [execOp, Act.eval, e0, go_sem]
    | 6, _, ho =>
      obtain rfl := Option.some.inj ho
      obtain ⟨p0, e0⟩ := hdep 5 (by kernel_rfl)
      have p0 : vs 5 = .pointer (some ⟨w.heap.size, 6, none⟩) := p0
      have f0 := e0 10 (by kernel_rfl)
      rw [p0] at f0
      have x6 := gb0.cell 6 _ rfl
      refine op_value (v := .slice ah hav.length ch) (w' := W) ?_ ⟨_, rfl, hG, rfl, fun j u _ h => ⟨h, fun h9 => absurd h9 (by omega)⟩⟩
      show (execOp a.eval { dst := _, op := .load 25 (.tmp 10), type := _, pos := _, after := _, guard := _ }).run Try.prog W = _
      clear hout hdep hdA
      simp only [Array.getD_eq_getD_getElem?] at f0
      simp [execOp, Act.eval, f0, go_sem, x6]
    | 7, _, ho =>
      obtain rfl := Option.some.inj ho
      obtain ⟨p0, e0⟩ := hdep 6 (by kernel_rfl)
      have p0 : vs 6 = .slice ah hav.length ch := p0
      have f0 := e0 11 (by kernel_rfl)
      rw [p0] at f0
      refine wp_append_row W (.const (.slice none 0 0)) (.tmp 11) 25 rfl W.heap.size 3 Try.t3 _ 1 8 Try.underlying25 infoIntsC zeroIntsC sizeIntsC bytesIntsC rfl (by decide) _ 0 [] rfl (World.ownsRow_nil _ _ _ _) _ hav.length (hav.map encI) (by simpa only [Act.eval] using f0) (HIC.out W gB) (encI_one _) (by unfold maxLen; omega) (by omega) (Nat.le_refl _) ?_
      intro v9 w9 hn9 hg9 _
      rw [Nat.zero_add, List.nil_append] at hn9
      have hb9 : Below W.heap.size W w9 := (Below.refl _ _).grown hg9 (Nat.le_refl _) (fun k e => by cases e)
      exact ⟨v9, rfl, hG.below hb9, own_base hn9 gS, fun j u _ h => ⟨crefPr_below hb9 j u h, fun h9 => absurd h9 (by omega)⟩⟩
    | 8, _, ho =>
      obtain rfl := Option.some.inj ho
      have e0 : a.tmps.getD 1 undef = .pointer (some ⟨w.heap.size, 0, none⟩) := hout 1 (by kernel_rfl)
      refine op_value (v := .pointer (some ⟨w.heap.size, 7, none⟩)) (w' := W) ?_ ⟨_, rfl, hG, rfl, fun j u _ h => ⟨h, fun h9 => absurd h9 (by omega)⟩⟩
      show (execOp a.eval { dst := _, op := .fieldAddr 29 (.tmp 1) 3, type := _, pos := _, after := _, guard := _ }).run Try.prog W = _
      clear hout hdep hdA
      simp only [Array.getD_eq_getD_getElem?] at e0
      simp [execOp, Act.eval, e0, go_sem]
    | 9, _, ho =>
      obtain rfl := Option.some.inj ho
      obtain ⟨p0, e0⟩ := hdep 8 (by kernel_rfl)
      have p0 : vs 8 = .pointer (some ⟨w.heap.size, 7, none⟩) := p0
      have f0 := e0 13 (by kernel_rfl)
      rw [p0] at f0
      have x7 := gb0.cell 7 _ rfl
      refine op_value (v := .slice aw wants.length cw) (w' := W) ?_ ⟨_, rfl, hG, rfl, fun j u _ h => ⟨h, fun h9 => absurd h9 (by omega)⟩⟩
      show (execOp a.eval { dst := _, op := .load 26 (.tmp 13), type := _, pos := _, after := _, guard := _ }).run Try.prog W = _
      clear hout hdep hdA
      simp only [Array.getD_eq_getD_getElem?] at f0
      simp [execOp, Act.eval, f0, go_sem, x7]
    | 10, _, ho =>
      obtain rfl := Option.some.inj ho
      obtain ⟨p0, e0⟩ := hdep 9 (by kernel_rfl)
      have p0 : vs 9 = .slice aw wants.length cw := p0
      have f0 := e0 14 (by kernel_rfl)
      rw [p0] at f0
      refine wp_append_row W (.const (.slice none 0 0)) (.tmp 14) 26 rfl W.heap.size 4 Try.t4 _ 1 1 Try.underlying26 infoBoolsC zeroBoolsC sizeBoolsC bytesBoolsC rfl (by decide) _ 0 [] rfl (World.ownsRow_nil _ _ _ _) _ wants.length (wants.map encB) (by simpa only [Act.eval] using f0) (HWC.out W gB) (encB_one _) (by unfold maxLen; omega) (by omega) (Nat.le_refl _) ?_
      intro v9 w9 hn9 hg9 _
      rw [Nat.zero_add, List.nil_append] at hn9
      have hb9 : Below W.heap.size W w9 := (Below.refl _ _).grown hg9 (Nat.le_refl _) (fun k e => by cases e)
      exact ⟨v9, rfl, hG.below hb9, own_base hn9 gS, fun j u _ h => ⟨crefPr_below hb9 j u h, fun h9 => by
        rcases h9 with ⟨e1, e2⟩ | ⟨e1, e2⟩
        · cases e2
        · subst e1; exact fun m m1 m2 => by have q1 := own_lt (show W.ownsRow _ _ _ _ _ _ from h) m m1; have q2 := own_ge hn9 m m2; omega⟩⟩
    | 11, _, ho =>
      obtain rfl := Option.some.inj ho
      have e0 : a.tmps.getD 1 undef = .pointer (some ⟨w.heap.size, 0, none⟩) := hout 1 (by kernel_rfl)
      refine op_value (v := .pointer (some ⟨w.heap.size, 9, none⟩)) (w' := W) ?_ ⟨_, rfl, hG, rfl, fun j u _ h => ⟨h, fun h9 => absurd h9 (by omega)⟩⟩
      show (execOp a.eval { dst := _, op := .fieldAddr 29 (.tmp 1) 5, type := _, pos := _, after := _, guard := _ }).run Try.prog W = _
      clear hout hdep hdA
      simp only [Array.getD_eq_getD_getElem?] at e0
      simp [execOp, Act.eval, e0, go_sem]
    | 12, _, ho =>
      obtain rfl := Option.some.inj ho
      obtain ⟨p0, e0⟩ := hdep 11 (by kernel_rfl)
      have p0 : vs 11 = .pointer (some ⟨w.heap.size, 9, none⟩) := p0
      have f0 := e0 16 (by kernel_rfl)
      rw [p0] at f0
      have x9 := gb0.cell 9 _ rfl
      refine op_value (v := .slice an given.length cn) (w' := W) ?_ ⟨_, rfl, hG, rfl, fun j u _ h => ⟨h, fun h9 => absurd h9 (by omega)⟩⟩
      show (execOp a.eval { dst := _, op := .load 26 (.tmp 16), type := _, pos := _, after := _, guard := _ }).run Try.prog W = _
      clear hout hdep hdA
      simp only [Array.getD_eq_getD_getElem?] at f0
      simp [execOp, Act.eval, f0, go_sem, x9]
    | 13, _, ho =>
      obtain rfl := Option.some.inj ho
      obtain ⟨p0, e0⟩ := hdep 12 (by kernel_rfl)
      have p0 : vs 12 = .slice an given.length cn := p0
      have f0 := e0 17 (by kernel_rfl)
      rw [p0] at f0
      refine wp_append_row W (.const (.slice none 0 0)) (.tmp 17) 26 rfl W.heap.size 4 Try.t4 _ 1 1 Try.underlying26 infoBoolsC zeroBoolsC sizeBoolsC bytesBoolsC rfl (by decide) _ 0 [] rfl (World.ownsRow_nil _ _ _ _) _ given.length (given.map encB) (by simpa only [Act.eval] using f0) (HNC.out W gB) (encB_one _) (by unfold maxLen; omega) (by omega) (Nat.le_refl _) ?_
      intro v9 w9 hn9 hg9 _
      rw [Nat.zero_add, List.nil_append] at hn9
      have hb9 : Below W.heap.size W w9 := (Below.refl _ _).grown hg9 (Nat.le_refl _) (fun k e => by cases e)
      exact ⟨v9, rfl, hG.below hb9, own_base hn9 gS, fun j u _ h => ⟨crefPr_below hb9 j u h, fun h9 => by
        rcases h9 with ⟨e1, e2⟩ | ⟨e1, e2⟩
        · subst e1; exact fun m m1 m2 => by have q1 := own_lt (show W.ownsRow _ _ _ _ _ _ from h) m m1; have q2 := own_ge hn9 m m2; omega
        · cases e2⟩⟩
    | 14, _, ho =>
      obtain rfl := Option.some.inj ho
      obtain ⟨p1, e1⟩ := hdep 1 (by kernel_rfl)
      obtain ⟨p4, e4⟩ := hdep 4 (by kernel_rfl)
      obtain ⟨p7, e7⟩ := hdep 7 (by kernel_rfl)
      obtain ⟨p10, e10⟩ := hdep 10 (by kernel_rfl)
      obtain ⟨p14, e14⟩ := hdep 13 (by kernel_rfl)
      have hap : Asunder (vs 10) (vs 13) := by
        rcases hdA 10 13 (by decide) (by kernel_rfl) (by kernel_rfl) with h | h
        · exact h (Or.inl ⟨rfl, rfl⟩)
        · exact (h (Or.inr ⟨rfl, rfl⟩)).symm
      have p1 : vs 1 = .int .i64 me := p1
      obtain ⟨vl9, p4, q4⟩ := (show KeptNew W (w.heap.size + 2) (vs 4) ⟨vi, nm, cm, l, ct⟩ from p4)
      have p7 : W.ownsRow (w.heap.size + 2) 3 1 (vs 7) hav.length (hav.map encI) := p7
      have p10 : W.ownsRow (w.heap.size + 2) 4 1 (vs 10) wants.length (wants.map encB) := p10
      have p14 : W.ownsRow (w.heap.size + 2) 4 1 (vs 13) given.length (given.map encB) := p14
      obtain ⟨a4, k4, rfl⟩ := own_form q4
      obtain ⟨a7, k7, r7⟩ := own_form p7
      obtain ⟨a10, k10, r10⟩ := own_form p10
      obtain ⟨a14, k14, r14⟩ := own_form p14
      have f1 := e1 6 (by kernel_rfl)
      have f4 := e4 9 (by kernel_rfl)
      have f7 := e7 12 (by kernel_rfl)
      have f10 := e10 15 (by kernel_rfl)
      have f14 := e14 18 (by kernel_rfl)
      rw [p1] at f1
      rw [p4] at f4
      rw [r7] at f7 p7
      rw [r10] at f10 p10 hap
      rw [r14] at f14 p14 hap
      refine op_value (v := .agg #[.int .i64 me, .int .i64 vi, .int .i64 nm, .bool cm, .slice a4 l.length k4, .int .i64 ct, .slice a7 hav.length k7, .slice a10 wants.length k10, .slice none 0 0, .slice a14 given.length k14]) (w' := W) ?_ ⟨_, rfl, hG, ⟨a4, k4, a7, k7, a10, k10, a14, k14, rfl, ?_⟩, fun j u _ h => ⟨h, fun h9 => absurd h9 (by omega)⟩⟩
      · show (execOp a.eval { dst := _, op := .build 29 #[(0, .tmp 6), (1, .tmp 9), (2, .tmp 12), (3, .tmp 15), (5, .tmp 18)], type := _, pos := _, after := _, guard := _ }).run Try.prog W = _
        clear hout hdep hdA
        simp only [Array.getD_eq_getD_getElem?] at f1 f4 f7 f10 f14
        simp [execOp, Act.eval, f1, f4, f7, f10, f14, go_sem]
      · exact ⟨rfl, q4, p7, p10, ⟨World.ownsRow_nil _ _ _ _, fun p hp => by simp at hp⟩, p14, hap, fun p hp => by simp at hp⟩
    | 15, _, ho =>
      obtain rfl := Option.some.inj ho
      refine op_value (v := .pointer (some ⟨W.heap.size, 0, none⟩)) (w' := W.alloc (.cells #[.int .i64 0, .int .i64 0, .int .i64 0, .bool false, .slice none 0 0, .int .i64 0, .slice none 0 0, .slice none 0 0, .slice none 0 0, .slice none 0 0] 29)) ?_ ⟨_, rfl, hG.below (below_alloc W _), ⟨_, rfl, gS, Box.new W _ _⟩, fun j u _ h => ⟨crefPr_below (below_alloc W _) j u h, fun h9 => absurd h9 (by omega)⟩⟩
      show (execOp a.eval { dst := _, op := .alloc 29, type := _, pos := _, after := _, guard := _ }).run Try.prog W = _
      clear hout hdep hdA
      simp [execOp, Act.eval, go_sem]
    | n + 16, hi, _ => exact absurd hi (by omega)
  · intro vs W fa hfa hfs hG hP hA
    have key := cref_last (hP 14 (by decide)) (hP 15 (by decide))
    have g19 := hfs 14 19 (by decide) rfl
    have g3 := hfs 15 3 (by decide) rfl
    clear hP hA hfs
    obtain ⟨gB, gS, gb0, gb1⟩ := hG
    obtain ⟨al2, cl2, ah2, ch2, aw2, cw2, an2, cn2, b3, p14, hO, p15, hb3, gb3⟩ := key
    rw [p14] at g19
    rw [p15] at g3
    have HGB : Hid (Below w.heap.size w W) := gB
    have HO : Hid (ReplOwn W _ _ _ _ _ _ _ _) := hO
    have HG3 : Hid (Box W b3 _ _) := gb3
    have HG0 : Hid (Box W w.heap.size _ _) := gb0
    have HG1 : Hid (Box W (w.heap.size + 1) _ _) := gb1
    have y0 := gb3.cell 0 _ rfl
    have y1 := gb3.cell 1 _ rfl
    have y2 := gb3.cell 2 _ rfl
    have y3 := gb3.cell 3 _ rfl
    have y4 := gb3.cell 4 _ rfl
    have y5 := gb3.cell 5 _ rfl
    have y6 := gb3.cell 6 _ rfl
    have y7 := gb3.cell 7 _ rfl
    have y8 := gb3.cell 8 _ rfl
    have y9 := gb3.cell 9 _ rfl
    have f0 := gb3.frozen 0
    have f1 := gb3.frozen 1
    have f2 := gb3.frozen 2
    have f3 := gb3.frozen 3
    have f4 := gb3.frozen 4
    have f5 := gb3.frozen 5
    have f6 := gb3.frozen 6
    have f7 := gb3.frozen 7
    have f8 := gb3.frozen 8
    have f9 := gb3.frozen 9
    obtain ⟨w3, hw3⟩ : ∃ w3, w3 = setAll W b3 0 [.int .i64 me, .int .i64 vi, .int .i64 nm, .bool cm, .slice al2 l.length cl2, .int .i64 ct, .slice ah2 hav.length ch2, .slice aw2 wants.length cw2, .slice none 0 0, .slice an2 given.length cn2] := ⟨_, rfl⟩
    refine op_skip (w' := w3) ?_ ?_
    · rw [hw3]
      clear HO HG3 HG0 HG1 HGB hO gb3 gb0 gb1 hfa p14 p15
      show (execOp fa.eval { dst := _, op := .store 29 (.tmp 3) (.tmp 19), type := _, pos := _, after := _, guard := _ }).run Try.prog W = _
      simp only [Array.getD_eq_getD_getElem?] at g3 g19
      simp [execOp, Act.eval, g3, g19, go_sem, setAll, y0, y1, y2, y3, y4, y5, y6, y7, y8, y9, f0, f1, f2, f3, f4, f5, f6, f7, f8, f9]
    · have HC0 : Hid (CopyTo w b3 ⟨me, ⟨vi, nm, cm, l, ct⟩, hav, wants, gives, given⟩ 0 w3 ∧ Below w.heap.size w w3 ∧ Box w3 w.heap.size 29 [.int .i64 me, .int .i64 vi, .int .i64 nm, .bool cm, .slice al l.length cl, .int .i64 ct, .slice ah hav.length ch, .slice aw wants.length cw, .slice ag gives.length cg, .slice an given.length cn] ∧ Box w3 (w.heap.size + 1) 29 [.int .i64 0, .int .i64 0, .int .i64 0, .bool false, .slice none 0 0, .int .i64 0, .slice none 0 0, .slice none 0 0, .slice none 0 0, .slice none 0 0] ∧ b3 < w3.heap.size) := by
        have h1 := setAll_box gb3 [.int .i64 me, .int .i64 vi, .int .i64 nm, .bool cm, .slice al2 l.length cl2, .int .i64 ct, .slice ah2 hav.length ch2, .slice aw2 wants.length cw2, .slice none 0 0, .slice an2 given.length cn2] rfl
        have h2 := hO.setAll gb3 (by decide) (by decide) (by decide) (by decide) 0 [.int .i64 me, .int .i64 vi, .int .i64 nm, .bool cm, .slice al2 l.length cl2, .int .i64 ct, .slice ah2 hav.length ch2, .slice aw2 wants.length cw2, .slice none 0 0, .slice an2 given.length cn2]
        have h4 := setAll_beside (B := w.heap.size + 2) [.int .i64 me, .int .i64 vi, .int .i64 nm, .bool cm, .slice al2 l.length cl2, .int .i64 ct, .slice ah2 hav.length ch2, .slice aw2 wants.length cw2, .slice none 0 0, .slice an2 given.length cn2] W W 0 (Beside.refl _ b3 W)
        rw [← hw3] at h1 h2 h4
        clear hw3
        exact ⟨⟨_, _, _, _, _, _, h1, h2⟩, gB.trans (h4.below (by omega) (by omega)), gb0.beside h4 (by omega) (by omega), gb1.beside h4 (by omega) (by omega), h1.lt⟩
      clear hw3 HO HG3 HG0 HG1 HGB hO gb3 gb0 gb1 gB gS y0 y1 y2 y3 y4 y5 y6 y7 y8 y9 f0 f1 f2 f3 f4 f5 f6 f7 f8 f9 g3 g19 b0 b1 hb hsz
      subst hfa
      simp only [fillGo, Act.put]
      go_wp2_with fail
      have HEACH : Hid (∀ k ∈ gives, TextsIn k.log) := hz2
      go_loopw [4] (fun i wr => ∃ k : Nat, k ≤ gives.length ∧ i = .int .i64 k ∧ CopyTo w b3 ⟨me, ⟨vi, nm, cm, l, ct⟩, hav, wants, gives, given⟩ k wr ∧ Below w.heap.size w wr ∧ Box wr w.heap.size 29 [.int .i64 me, .int .i64 vi, .int .i64 nm, .bool cm, .slice al l.length cl, .int .i64 ct, .slice ah hav.length ch, .slice aw wants.length cw, .slice ag gives.length cg, .slice an given.length cn] ∧ Box wr (w.heap.size + 1) 29 [.int .i64 0, .int .i64 0, .int .i64 0, .bool false, .slice none 0 0, .int .i64 0, .slice none 0 0, .slice none 0 0, .slice none 0 0, .slice none 0 0]) (fun i wr => gives.length - (intOf i).toNat)
      case atStart => exact ⟨0, by omega, rfl, HC0.out.1, HC0.out.2.1, HC0.out.2.2.1, HC0.out.2.2.2.1⟩
      case round =>
        clear HC0
        obtain ⟨k, hk, rfl, ⟨vl3, vh3, vw3, vg3, vn3, ps, hx, ho⟩, hbr, hr0, hr1⟩ := hrel
        have x8 := hr0.cell 8 _ rfl
        have x8' := x8
        obtain ⟨a3, c3, rfl⟩ := own_formN ho.2.2.2.2.1.1
        have hpl : ps.length = k := by
          have := congrArg List.length ho.1
          simp at this
          omega
        have y8 := hx.cell 8 _ rfl
        have HX : Hid (Box wr b3 _ _) := hx
        have HO : Hid (ReplOwn wr _ _ _ _ _ _ _ _) := ho
        have HBR : Hid (Below w.heap.size w wr) := hbr
        have HR0 : Hid (Box wr w.heap.size _ _) := hr0
        have HR1 : Hid (Box wr (w.heap.size + 1) _ _) := hr1
        have HPL : Hid (ps.length = k) := hpl
        have lb3 := hx.lt
        have lw := hr0.lt
        by_cases hlt : k < gives.length
        · obtain ⟨b, o, vk, rfl, hc, hs⟩ := hg2 k hlt
          have HKC : Hid (∀ W, Below w.heap.size w W → Calls _ _ _ W _) := fun W hW => keptCopyOf_any (gives.getD k zeroKept) _ W ⟨vk, rfl, hs.below hW⟩ (hz2 (gives.getD k zeroKept) (keptD_mem hlt)).1
          have HGK : Hid (gives.take (k + 1) = gives.take k ++ [gives.getD k zeroKept]) := keptD_take hlt
          have k0 : (0 : Int) ≤ (k : Int) := by omega
          have k1 : (k : Int) < (gives.length : Int) := by omega
          obtain ⟨av, cv, rfl, _, _⟩ := hs
          clear hg2 hbr hpl hz2 hx ho hr0 hr1
          generalize gives.getD k zeroKept = q at *
          obtain ⟨v1, n1, c1, l1, t1⟩ := q
          simp only [keptCells] at hc HKC
          have d0 := keep_cell9 HBR.out (hc 0 _ rfl)
          have d1 := keep_cell9 HBR.out (hc 1 _ rfl)
          have d2 := keep_cell9 HBR.out (hc 2 _ rfl)
          have d3 := keep_cell9 HBR.out (hc 3 _ rfl)
          have d4 := keep_cell9 HBR.out (hc 4 _ rfl)
          rw [Nat.add_zero] at d0
          clear hc
          have ld0 : b < wr.heap.size := lt_of_cell d0
          go_upto_region 5 with fail
          refine wp_region_free [0, 0, 0, 0, 0, 0, 0, 1, 1, 2, 2, 2] (by kernel_rfl) (by kernel_rfl) (fun h => h) (Below wr.heap.size wr) (Below.refl _ _) (fun V n hV => below_drewN n hV) ?_
          have HD : Hid (∀ V, Below wr.heap.size wr V → V.cell? ⟨b, o + k * 5, none⟩ = some (.int .i64 v1) ∧ V.cell? ⟨b, o + k * 5 + 1, none⟩ = some (.int .i64 n1) ∧ V.cell? ⟨b, o + k * 5 + 2, none⟩ = some (.bool c1) ∧ V.cell? ⟨b, o + k * 5 + 3, none⟩ = some (.slice av l1.length cv) ∧ V.cell? ⟨b, o + k * 5 + 4, none⟩ = some (.int .i64 t1)) := fun V hV => ⟨keep_cell9 hV d0, keep_cell9 hV d1, keep_cell9 hV d2, keep_cell9 hV d3, keep_cell9 hV d4⟩
          clear d0 d1 d2 d3 d4 x8 y8
          apply Exists.intro
          refine ⟨?_, ?_⟩
          · intro V hV
            obtain ⟨d0, d1, d2, d3, d4⟩ := HD.out V hV
            have x8 := (HR0.out.below hV HR0.out.lt).cell 8 _ rfl
            have y8 := (HX.out.below hV HX.out.lt).cell 8 _ rfl
            simp only [sel, ↓reduceIte, Nat.reduceEqDiff]
            repeat (go_big_quiet_step (fail))
            refine wpQuiet_nil ?_
            rfl
          · intro n5
            simp only [sel, ↓reduceIte, Nat.reduceEqDiff]
            refine wpEarly_cons ?_
            go_wp2_with fail
            refine (HKC.out (wr.drewN n5) (below_drewN n5 HBR.out)).mono ?_
            rintro e wA ⟨u', rfl, ⟨vk5, hu, hk5⟩, hbA⟩
            obtain ⟨a5, c5, rfl⟩ := own_form hk5
            subst hu
            have hbX : Below wr.heap.size wr wA := ⟨hbA.os, hbA.tape, hbA.output, hbA.size, hbA.block⟩
            have HBX : Hid (Below wr.heap.size wr wA) := hbX
            have HK5 : Hid (wA.ownsRow wr.heap.size 9 1 (.slice a5 l1.length c5) l1.length (l1.map enc)) := hk5
            clear hk5 hbA
            go_wp2_with fail
            refine wpEarly_next hbX fun m1 => ?_
            refine wpEarly_cons ?_
            go_wp2_with fail
            refine wpEarly_next ?_ fun m2 => ?_
            · exact hbX.trans ((below_drewN m1 (Below.refl wA.heap.size wA)).mono hbX.size |>.trans ((below_alloc (wA.drewN m1) _).mono hbX.size))
            refine wpEarly_nil ?_
            have bx3 := HX.out.below hbX HX.out.lt
            have y8 := bx3.cell 8 _ rfl
            have lb := bx3.lt
            have HX3 : Hid (Box wA b3 _ _) := bx3
            have ho5 := HO.out.below hbX
            have HO5 : Hid (ReplOwn wA (w.heap.size + 2) _ _ _ _ _ _ _) := ho5
            have hsz5 := hbX.size
            have hb6 : Below wA.heap.size wA (((wA.drewN m1).alloc (.cells #[.int .i64 v1, .int .i64 n1, .bool c1, .slice a5 l1.length c5, .int .i64 t1] 24)).drewN m2) := below_drewN m2 ((below_drewN m1 (Below.refl wA.heap.size wA)).trans (below_alloc (wA.drewN m1) _))
            have ho6 := ho5.below hb6
            have hx6 := bx3.below hb6 lb
            have hbk : Box (((wA.drewN m1).alloc (.cells #[.int .i64 v1, .int .i64 n1, .bool c1, .slice a5 l1.length c5, .int .i64 t1] 24)).drewN m2) (wA.drewN m1).heap.size 24 [.int .i64 v1, .int .i64 n1, .bool c1, .slice a5 l1.length c5, .int .i64 t1] := Box.new (wA.drewN m1) 24 [.int .i64 v1, .int .i64 n1, .bool c1, .slice a5 l1.length c5, .int .i64 t1]
            have hk6 : World.ownsRow (((wA.drewN m1).alloc (.cells #[.int .i64 v1, .int .i64 n1, .bool c1, .slice a5 l1.length c5, .int .i64 t1] 24)).drewN m2) wr.heap.size 9 1 (.slice a5 l1.length c5) l1.length (l1.map enc) := own_below HK5.out hb6 (own_lt HK5.out)
            have hs6 : ((((wA.drewN m1).alloc (.cells #[.int .i64 v1, .int .i64 n1, .bool c1, .slice a5 l1.length c5, .int .i64 t1] 24)).drewN m2)).heap.size = wA.heap.size + 1 := by simp
            have HB6 : Hid (Below wr.heap.size wr (((wA.drewN m1).alloc (.cells #[.int .i64 v1, .int .i64 n1, .bool c1, .slice a5 l1.length c5, .int .i64 t1] 24)).drewN m2)) := Below.far HBX.out hb6
            clear bx3 ho5 hbX hb6
            generalize hW6 : (((wA.drewN m1).alloc (.cells #[.int .i64 v1, .int .i64 n1, .bool c1, .slice a5 l1.length c5, .int .i64 t1] 24)).drewN m2) = w6 at ho6 hx6 hbk hk6 hs6 HB6 ⊢
            clear hW6
            have HO6 : Hid (ReplOwn w6 (w.heap.size + 2) _ _ _ _ _ _ _) := ho6
            have HX6 : Hid (Box w6 b3 _ _) := hx6
            have HK6 : Hid (w6.ownsRow wr.heap.size 9 1 (.slice a5 l1.length c5) l1.length (l1.map enc)) := hk6
            have HBK : Hid (Box w6 (wA.drewN m1).heap.size 24 [.int .i64 v1, .int .i64 n1, .bool c1, .slice a5 l1.length c5, .int .i64 t1]) := hbk
            clear ho6 hx6 hk6 hbk
            go_wp2_with (at_builtin; refine wpList_append_row _ (by rfl) _ _ 27 (by rfl) (w.heap.size + 2) 24 Try.t24 _ 5 56 Try.underlying27 infoKeptC zeroKeptC sizeKeptC bytesKeptC rfl (by decide) _ ps.length (ps.flatMap keptRow) (by rfl) ?_ _ 1 [.int .i64 v1, .int .i64 n1, .bool c1, .slice a5 l1.length c5, .int .i64 t1] (by rfl) ?_ ?_ ?_ ?_ ?_ ?_)
            · exact HO6.out.2.2.2.2.1.1
            · exact rowAt_box HBK.out 1 5 rfl
            · simp [Value.oneCell']
            · have := HPL.out
              unfold maxLen
              omega
            · have := HPL.out
              omega
            · rw [hs6]
              have := HR1.out.lt
              omega
            intro v7 w7 hown7 hg7 hat7
            obtain ⟨a7, c7, hv7⟩ := own_formN hown7
            subst hv7
            have ht6 := HO6.out.2.2.2.2.1.1
            have hx7 : Box w7 b3 _ _ := HX6.out.grown hg7 (own_type ht6 HX6.out (by decide))
            have y8' := hx7.cell 8 _ rfl
            have g8' := hx7.frozen 8
            have hk6 : w6.ownsRow (w.heap.size + 2) 9 1 (.slice a5 l1.length c5) l1.length (l1.map enc) := own_base HK6.out (by have := HR1.out.lt; omega)
            have hk7 : w7.ownsRow (w.heap.size + 2) 9 1 (.slice a5 l1.length c5) l1.length (l1.map enc) := own_grown hk6 hg7 fun j hj q => own_types hk6 ht6 (by decide) q.symm hj
            have ho7 := ReplOwn.snoc (k := k) (R := ⟨me, ⟨vi, nm, cm, l, ct⟩, hav, wants, gives, given⟩) HO6.out (w' := w7) (q := ⟨v1, n1, c1, l1, t1⟩) (vk := .slice a5 l1.length c5) (vg' := .slice a7 (ps.length + 1) c7) HGK.out (fun e s x m xs he r => own_grown r hg7 fun j hj q => own_types r ht6 (by rcases he with rfl | rfl | rfl <;> decide) q.symm hj) hown7 hk7 (Asunder.symm (asunder_new (W := w6) (C := 0) HO.out.2.1 (fun j hj => own_ge HK6.out j hj)))
            have HRL : Hid (CopyTo w b3 ⟨me, ⟨vi, nm, cm, l, ct⟩, hav, wants, gives, given⟩ (k + 1) (w7.setCell ⟨b3, 8, none⟩ (.slice a7 (ps.length + 1) c7)) ∧ Below w.heap.size w (w7.setCell ⟨b3, 8, none⟩ (.slice a7 (ps.length + 1) c7)) ∧ Box (w7.setCell ⟨b3, 8, none⟩ (.slice a7 (ps.length + 1) c7)) w.heap.size 29 [.int .i64 me, .int .i64 vi, .int .i64 nm, .bool cm, .slice al l.length cl, .int .i64 ct, .slice ah hav.length ch, .slice aw wants.length cw, .slice (some ⟨b, o, none⟩) gives.length cg, .slice an given.length cn] ∧ Box (w7.setCell ⟨b3, 8, none⟩ (.slice a7 (ps.length + 1) c7)) (w.heap.size + 1) 29 [.int .i64 0, .int .i64 0, .int .i64 0, .bool false, .slice none 0 0, .int .i64 0, .slice none 0 0, .slice none 0 0, .slice none 0 0, .slice none 0 0]) := by
              have b7 : Below w.heap.size w w7 := (Below.far HBR.out HB6.out).trans ⟨hg7.os, hg7.tape, hg7.output, hg7.size, fun j hj => hg7.block j (by rw [hs6]; have := HR1.out.lt; omega) (fun e => by have := own_ge ht6 j e.symm; omega)⟩
              have o0 : Box w7 w.heap.size _ _ := (HR0.out.below HB6.out lw).grown hg7 (fun e => by have := own_ge ht6 _ e; omega)
              have o1 : Box w7 (w.heap.size + 1) _ _ := (HR1.out.below HB6.out HR1.out.lt).grown hg7 (fun e => by have := own_ge ht6 _ e; omega)
              refine ⟨⟨_, _, _, _, _, _, hx7.set 8 (.slice a7 (ps.length + 1) c7), ho7.type hx7 (by decide) (by decide) (by decide) (by decide) 8 _⟩, b7.setCell (p := ⟨b3, 8, none⟩) (by simp only; omega) _, o0.other (a := ⟨b3, 8, none⟩) _ (by simp only; omega), o1.other (a := ⟨b3, 8, none⟩) _ (by simp only; omega)⟩
            clear hown7 hg7 hat7 hx7 ho7 ht6 y8 hs6 hsz5 hk6 hk7
            go_wp2_with fail
            clear y8' g8'
            go_roundw
            case rel => exact ⟨k + 1, by omega, by go_num, HRL.out.1, HRL.out.2.1, HRL.out.2.2.1, HRL.out.2.2.2⟩
            case measure => simp [intOf]; omega
        · have hkl : k = gives.length := by omega
          have ht : gives.take k = gives := by rw [hkl, List.take_length]
          rw [ht] at ho
          obtain ⟨al3, cl3, ah3, ch3, aw3, cw3, ag3, cg3, an3, cn3, e1, e2, e3, e4, e5⟩ := ho.forms
          simp only at e1 e2 e3 e5
          have e4 : (Value.slice a3 ps.length c3) = .slice ag3 gives.length cg3 := e4
          have hx' := hx
          rw [e4] at hx'
          subst e1 e2 e3 e5
          have HO9 : Hid (ReplOwn wr (w.heap.size + 2) ⟨me, ⟨vi, nm, cm, l, ct⟩, hav, wants, gives, given⟩ (.slice al3 l.length cl3) (.slice ah3 hav.length ch3) (.slice aw3 wants.length cw3) (.slice ag3 gives.length cg3) (.slice an3 given.length cn3) ps) := by
            have := ho
            rw [e4] at this
            exact this
          have HX9 : Hid (Box wr b3 29 [.int .i64 me, .int .i64 vi, .int .i64 nm, .bool cm, .slice al3 l.length cl3, .int .i64 ct, .slice ah3 hav.length ch3, .slice aw3 wants.length cw3, .slice ag3 gives.length cg3, .slice an3 given.length cn3]) := hx'
          have key : ∀ w4, w4 = setAll wr (w.heap.size + 1) 0 [.int .i64 me, .int .i64 vi, .int .i64 nm, .bool cm, .slice al3 l.length cl3, .int .i64 ct, .slice ah3 hav.length ch3, .slice aw3 wants.length cw3, .slice ag3 gives.length cg3, .slice an3 given.length cn3] → Hid (Box w4 (w.heap.size + 1) 29 [.int .i64 me, .int .i64 vi, .int .i64 nm, .bool cm, .slice al3 l.length cl3, .int .i64 ct, .slice ah3 hav.length ch3, .slice aw3 wants.length cw3, .slice ag3 gives.length cg3, .slice an3 given.length cn3] ∧ ReplNew w4 w.heap.size (.agg #[.int .i64 me, .int .i64 vi, .int .i64 nm, .bool cm, .slice al3 l.length cl3, .int .i64 ct, .slice ah3 hav.length ch3, .slice aw3 wants.length cw3, .slice ag3 gives.length cg3, .slice an3 given.length cn3]) ⟨me, ⟨vi, nm, cm, l, ct⟩, hav, wants, gives, given⟩ ∧ Below w.heap.size w w4) := by
            intro w4 e
            subst e
            refine ⟨setAll_box hr1 _ rfl, ⟨_, _, _, _, _, ps, rfl, (HO9.out.setAll hr1 (by decide) (by decide) (by decide) (by decide) 0 _).base (by omega)⟩, (setAll_beside _ _ _ _ (Beside.of (b := w.heap.size + 1) hbr)).below (Nat.le_refl _) (by omega)⟩
          have key := key _ rfl
          simp only [setAll] at key
          have x0 := hx'.cell 0 _ rfl
          have x1 := hx'.cell 1 _ rfl
          have x2 := hx'.cell 2 _ rfl
          have x3 := hx'.cell 3 _ rfl
          have x4 := hx'.cell 4 _ rfl
          have x5 := hx'.cell 5 _ rfl
          have x6 := hx'.cell 6 _ rfl
          have x7 := hx'.cell 7 _ rfl
          have x8 := hx'.cell 8 _ rfl
          have x9 := hx'.cell 9 _ rfl
          have y0 := hr1.cell 0 _ rfl
          have y1 := hr1.cell 1 _ rfl
          have y2 := hr1.cell 2 _ rfl
          have y3 := hr1.cell 3 _ rfl
          have y4 := hr1.cell 4 _ rfl
          have y5 := hr1.cell 5 _ rfl
          have y6 := hr1.cell 6 _ rfl
          have y7 := hr1.cell 7 _ rfl
          have y8 := hr1.cell 8 _ rfl
          have y9 := hr1.cell 9 _ rfl
          have f0 := hr1.frozen 0
          have f1 := hr1.frozen 1
          have f2 := hr1.frozen 2
          have f3 := hr1.frozen 3
          have f4 := hr1.frozen 4
          have f5 := hr1.frozen 5
          have f6 := hr1.frozen 6
          have f7 := hr1.frozen 7
          have f8 := hr1.frozen 8
          have f9 := hr1.frozen 9
          have hne : ¬ b3 = w.heap.size + 1 := by omega
          have hne' : ¬ w.heap.size + 1 = b3 := by omega
          have k1 : ¬ (k : Int) < (gives.length : Int) := by omega
          have HPL2 : Hid (k = gives.length) := hkl
          clear HX HO ho hx hx' hr0 hr1 hbr ht e4 hg2 hz2 hpl x8' HR0 HR1 lb3 lw hlt hkl
          go_upto_region 6 with fail
          go_wp2_with fail
          generalize hw4 : World.setCell _ ⟨w.heap.size + 1, 9, none⟩ _ = w4 at key ⊢
          have hR := key.out.1
          clear hw4 x0 x1 x2 x3 x4 x5 x6 x7 x8 x9 y0 y1 y2 y3 y4 y5 y6 y7 y8 y9 f0 f1 f2 f3 f4 f5 f6 f7 f8 f9
          have y0 := hR.cell 0 _ rfl
          have y1 := hR.cell 1 _ rfl
          have y2 := hR.cell 2 _ rfl
          have y3 := hR.cell 3 _ rfl
          have y4 := hR.cell 4 _ rfl
          have y5 := hR.cell 5 _ rfl
          have y6 := hR.cell 6 _ rfl
          have y7 := hR.cell 7 _ rfl
          have y8 := hR.cell 8 _ rfl
          have y9 := hR.cell 9 _ rfl
          clear hR
          refine bodyPost_ret (v := .agg #[.int .i64 me, .int .i64 vi, .int .i64 nm, .bool cm, .slice al3 l.length cl3, .int .i64 ct, .slice ah3 hav.length ch3, .slice aw3 wants.length cw3, .slice ag3 gives.length cg3, .slice an3 given.length cn3]) (by clear key; simp [results, Try.results7, go_sem, *]) rfl ⟨_, rfl, key.out.2.1, key.out.2.2⟩

end Go.Proofs.Ytmdgkjbiicaljag
