/- The program's own: what a turn tells; to forget, and to want. -/
import Derived.Test.YtmdgkjbiicaljagDoorJointTurnGo
namespace Go.Proofs.YtmdgkjbiicaljagDoor
open Go.RowKit
set_option linter.unusedVariables false
set_option linter.unusedSimpArgs false

theorem rowAt_nil (w : World) : RowAt w (.slice none 0 0) 0 1 [] := ⟨none, 0, rfl, rfl, fun j u h => by simp at h⟩

set_option maxRecDepth 4000 in
set_option maxHeartbeats 2000000 in
theorem tellHas_any (b B : Nat) (R : ReplM) (L : List MsgM) (w : World) (h : TurnAt w b B R L) (hn : L.length ≤ 900) (hB : B ≤ w.heap.size) :
    Calls Tryd.prog 45 #[.pointer (some ⟨b, 0, none⟩)] w fun e w' => e = .returned (.tuple #[]) ∧ TurnAt w' b B R (L ++ [hasMsg R (R.kept.view.tmod 3)]) ∧ Beside B b w w' := by
  obtain ⟨vl, vh, vw, vg, vn, vs, ps, hx, ho, hm⟩ := h
  obtain ⟨al, cl, hvl⟩ := own_form ho.2.1
  subst hvl
  have HO : Hid (ReplOwn w B R _ _ _ _ _ _) := ho
  have HM : Hid (MsgsNew w B vs L) := hm
  have HX : Hid (Box w b _ _) := hx
  have HLD : Hid (∀ W, Calls _ _ _ W _) := fun W => leader_any R.kept.view W
  have x0 := hx.cell 0 _ rfl
  have x1 := hx.cell 1 _ rfl
  have x2 := hx.cell 2 _ rfl
  have x3 := hx.cell 3 _ rfl
  have x4 := hx.cell 4 _ rfl
  have x5 := hx.cell 5 _ rfl
  have x6 := hx.cell 6 _ rfl
  have x7 := hx.cell 7 _ rfl
  have x8 := hx.cell 8 _ rfl
  have x9 := hx.cell 9 _ rfl
  have x10 := hx.cell 10 _ rfl
  clear hx ho hm
  go_enter Tryd.func45, Tryd.ntmps45
  go_upto_region 0 with fail
  refine wp_region_two [0, 0, 0, 0, 0, 0, 0, 0, 0, 0, 0, 0, 0, 0, 0, 0, 1] (by kernel_rfl) (by kernel_rfl) ?_
  simp only [sel, ↓reduceIte, Nat.reduceEqDiff]
  repeat (go_big_quiet_step (first | (go_at_call 17; refine (HLD.out _).mono ?_; rintro e w' ⟨rfl, rfl⟩; exact ⟨rfl, _, rfl⟩)))
  refine wpQuiet_nil ?_
  intro w9 hw9
  obtain ⟨nq, rfl⟩ := hw9
  obtain ⟨qs, hqL, hqs⟩ := HM.out
  have HQ : Hid (MsgsOwn w B vs qs) := hqs
  have HQL : Hid (L = qs.map Prod.fst) := hqL
  have hql : qs.length ≤ 1000 := by have := congrArg List.length hqL; simp at this; omega
  clear hqL hqs
  go_wp2_with fail
  refine (send_any b B R.me R.kept.view _ _ _ _ _ _ _ _ vs qs (R.kept.view.tmod 3) ⟨2, 0, 0, 0, 0, 0, R.kept.log.length, []⟩ _ (w.drewN nq) HX.out HQ.out (rowAt_nil _) (by simp) hql hB).mono ?_
  rintro e w' ⟨rfl, vs', vm', hb', hm', hk', hv'⟩
  have HE : Hid (TurnAt w' b B R (L ++ [hasMsg R (R.kept.view.tmod 3)]) ∧ Beside B b w w') := by
    refine ⟨⟨_, _, _, _, _, _, _, hb', HO.out.keeps hk', _, ?_, hm'⟩, ?_⟩
    · rw [List.map_append, ← HQL.out]; rfl
    · have := HM.out.beside (w := w.drewN nq) hv' hB
      exact ⟨this.os, this.tape, this.output, this.size, this.block⟩
  clear hb' hm' hk' hv' x0 x1 x2 x3 x4 x5 x6 x7 x8 x9 x10
  go_wp2_with fail
  go_end0
  exact ⟨rfl, HE.out⟩

/-! ### A cell of a row of the call's own is another one. -/
theorem MsgsNew.row {w : World} {B base : Nat} {v x : Value} {L : List MsgM} {e : TypeId} {s n g i : Nat} {xs : List Value} (h : MsgsNew w B v L) (ho : w.ownsRow base e s x n xs) (hg : x.ownBlock = some g) (h1 : 9 ≠ e) (h2 : 43 ≠ e) (u : Value) : MsgsNew (w.setCell ⟨g, i, none⟩ u) B v L := by
  obtain ⟨ps, hL, hp⟩ := h
  exact ⟨ps, hL, hp.map fun e' _ _ _ _ he r => own_other r (own_types r ho (by rcases he with rfl | rfl <;> assumption) hg) u⟩
theorem Box.row {w : World} {b base : Nat} {t : TypeId} {cs : List Value} {x : Value} {e : TypeId} {s n g i : Nat} {xs : List Value} (h : Box w b t cs) (ho : w.ownsRow base e s x n xs) (hg : x.ownBlock = some g) (h1 : e ≠ t) (u : Value) : Box (w.setCell ⟨g, i, none⟩ u) b t cs :=
  h.other u (fun e => own_type ho h h1 (by rw [hg]; exact congrArg some e.symm))
theorem ReplOwn.wants {w : World} {B g cap : Nat} {R : ReplM} {vl vh vg vn : Value} {ps : List (KeptM × Value)} (h : ReplOwn w B R vl vh (.slice (some ⟨g, 0, none⟩) R.wants.length cap) vg vn ps) (i : Nat) (x : Bool) :
    ReplOwn (w.setCell ⟨g, i, none⟩ (.bool x)) B ⟨R.me, R.kept, R.hav, R.wants.set i x, R.gives, R.given⟩ vl vh (.slice (some ⟨g, 0, none⟩) R.wants.length cap) vg vn ps := by
  obtain ⟨h0, h1, h2, h3, h4, h5, h6, h7⟩ := h
  have ot : ∀ (e : TypeId) (s : Nat) (v : Value) (n : Nat) (xs : List Value), 4 ≠ e → w.ownsRow B e s v n xs → (w.setCell ⟨g, i, none⟩ (.bool x)).ownsRow B e s v n xs := fun e s v n xs he r => own_other (a := ⟨g, i, none⟩) r (own_types r h3 (Ne.symm he) rfl) _
  have h3' := own_set h3 i (.bool x)
  refine ⟨h0, ot _ _ _ _ _ (by decide) h1, ot _ _ _ _ _ (by decide) h2, ?_, ⟨ot _ _ _ _ _ (by decide) h4.1, fun p hp => ot _ _ _ _ _ (by decide) (h4.2 p hp)⟩, own_other h5 (fun e => h6 g rfl e) _, h6, h7⟩
  show World.ownsRow _ _ _ _ _ (R.wants.set i x).length ((R.wants.set i x).map encB)
  rw [List.length_set, List.map_set]
  exact h3'

set_option maxRecDepth 4000 in
set_option maxHeartbeats 2000000 in
theorem tellWant_any (b B : Nat) (R : ReplM) (L : List MsgM) (w : World) (h : TurnAt w b B R L) (hme : 0 ≤ R.me) (hme' : R.me < R.wants.length) (hn : L.length ≤ 900) (hB : B ≤ w.heap.size) :
    Calls Tryd.prog 52 #[.pointer (some ⟨b, 0, none⟩)] w fun e w' => e = .returned (.tuple #[]) ∧ TurnAt w' b B ⟨R.me, R.kept, R.hav, R.wants.set R.me.toNat true, R.gives, R.given⟩ (L ++ toAll R 3 0 []) ∧ Beside B b w w' ∧ Leaves 68 b w w' := by
  obtain ⟨vl, vh, vw, vg, vn, vs, ps, hx, ho, hm⟩ := h
  obtain ⟨g, cw, hvw, hgB, _, hc, hf⟩ := own_cell ho.2.2.2.1 R.me.toNat (by omega)
  subst hvw
  have hcell : w.cell? ⟨g, R.me.toNat, none⟩ = some (.bool (R.wants.getD R.me.toNat false)) := by
    rw [hc]
    have : R.me.toNat < R.wants.length := by omega
    simp [encB, List.getD, this]
  obtain ⟨mi, hmi⟩ : ∃ mi : Nat, R.me = (mi : Int) := ⟨R.me.toNat, by omega⟩
  have emi : R.me.toNat = mi := by omega
  have hml : mi < R.wants.length := by omega
  have b2 := hx.row ho.2.2.2.1 rfl (by decide) (.bool true) (i := R.me.toNat)
  have HX : Hid (Box (w.setCell ⟨g, R.me.toNat, none⟩ (.bool true)) b _ _) := b2
  have HXW : Hid (Box w b _ _) := hx
  have HO : Hid (ReplOwn (w.setCell ⟨g, R.me.toNat, none⟩ (.bool true)) B _ _ _ _ _ _ _) := ho.wants R.me.toNat true
  have HM : Hid (MsgsNew (w.setCell ⟨g, R.me.toNat, none⟩ (.bool true)) B vs L) := hm.row ho.2.2.2.1 rfl (by decide) (by decide) _
  have HBS : Hid (Beside B b w (w.setCell ⟨g, R.me.toNat, none⟩ (.bool true))) := (Beside.refl B b w).setCell (Or.inr hgB) _
  have x0 := hx.cell 0 _ rfl
  have x1 := hx.cell 1 _ rfl
  have x2 := hx.cell 2 _ rfl
  have x3 := hx.cell 3 _ rfl
  have x4 := hx.cell 4 _ rfl
  have x5 := hx.cell 5 _ rfl
  have x6 := hx.cell 6 _ rfl
  have x7 := hx.cell 7 _ rfl
  have x8 := hx.cell 8 _ rfl
  have x9 := hx.cell 9 _ rfl
  have x10 := hx.cell 10 _ rfl
  rw [emi] at hcell hf HX HO HM HBS ⊢
  generalize R.wants.getD mi false = s0 at hcell
  clear hx ho hm hc b2
  have k0 : (0 : Int) ≤ (mi : Int) := by omega
  have k1 : (mi : Int) < (R.wants.length : Int) := by omega
  rw [hmi] at x0
  go_enter Tryd.func52, Tryd.ntmps52
  go_upto_region 0 with fail
  refine wp_region_two [0, 0, 0, 0, 0, 0, 0, 0, 0, 0, 0, 1] (by kernel_rfl) (by kernel_rfl) ?_
  simp only [sel, ↓reduceIte, Nat.reduceEqDiff]
  repeat (go_big_quiet_step (fail))
  refine wpQuiet_nil ?_
  intro w9 hw9
  obtain ⟨nq, rfl⟩ := hw9
  go_wp2_with fail
  refine (sendAll_any b B (mi : Int) R.kept.view _ _ _ _ _ _ _ _ vs L ⟨3, 0, 0, 0, 0, 0, 0, []⟩ _ ((w.drewN nq).setCell ⟨g, mi, none⟩ (.bool true)) (by have := HX.out; rw [hmi] at this; exact this) HM.out (fun W _ _ => rowAt_nil W) (by simp) hn (by show _ ≤ (w.setCell ⟨g, mi, none⟩ (.bool true)).heap.size; simp; exact hB)).mono ?_
  rintro e w' ⟨rfl, vs', hb', hm', hk', hv'⟩
  have HE : Hid (TurnAt w' b B ⟨R.me, R.kept, R.hav, R.wants.set mi true, R.gives, R.given⟩ (L ++ toAll R 3 0 []) ∧ Beside B b w w' ∧ Leaves 68 b w w') := by
    rw [← hmi] at hb'
    have hlv : Leaves 68 b w w' := by
      refine Leaves.of HXW.out hb' (Nat.le_trans (by simp) hv'.size) (fun c hc k e => ?_) fun k hk hkb hcs => ?_
      · simp only [List.mem_cons, List.not_mem_nil, or_false] at hc
        rcases hc with rfl | rfl | rfl | rfl | rfl | rfl | rfl | rfl | rfl | rfl | rfl
        all_goals first | (refine Or.inr ⟨_, ?_, e⟩; simp; done) | skip
        rcases hv'.fresh k e with q | q
        · exact Or.inr ⟨vs, by simp, q⟩
        · exact Or.inl (by simpa using q)
      · rw [hv'.block k (by simpa using hk) hkb (hcs _ (by simp))]
        exact Below.heap_setCell _ _ _ _ (fun e => hcs (.slice (some ⟨g, 0, none⟩) R.wants.length cw) (by simp) (congrArg some e.symm))
    have hO : ReplOwn w' B _ _ _ _ _ _ _ := HO.out.keeps hk'
    refine ⟨⟨_, _, _, _, _, _, _, hb', hO, ?_⟩, ?_⟩
    · rw [← hmi, sentTo_all R 3 0 0 [] rfl 0 0 0 0 rfl] at hm'
      exact hm'
    · have h1 := HM.out.beside (w := (w.drewN nq).setCell ⟨g, mi, none⟩ (.bool true)) hv' (by show _ ≤ (w.setCell ⟨g, mi, none⟩ (.bool true)).heap.size; simp; exact hB)
      have h2 : Beside B b (w.setCell ⟨g, mi, none⟩ (.bool true)) w' := ⟨h1.os, h1.tape, h1.output, h1.size, h1.block⟩
      exact ⟨HBS.out.trans h2, hlv⟩
  clear hb' hm' hk' hv' x0 x1 x2 x3 x4 x5 x6 x7 x8 x9 x10
  go_wp2_with fail
  go_end0
  exact ⟨rfl, HE.out⟩

set_option maxRecDepth 4000 in
set_option maxHeartbeats 2000000 in
theorem forget_raw (b B : Nat) (R : ReplM) (L : List MsgM) (vl vh vw vg vn vs : Value) (w : World) (hx : Box w b 68 [.int .i64 R.me, .int .i64 R.kept.view, .int .i64 R.kept.normal, .bool R.kept.calm, vl, .int .i64 R.kept.commit, vh, vw, vg, vn, vs]) (ho : w.ownsRow B 9 1 vl R.kept.log.length (R.kept.log.map enc)) (hm : MsgsNew w B vs L) (hB : B ≤ w.heap.size) :
    Calls Tryd.prog 51 #[.pointer (some ⟨b, 0, none⟩)] w fun e w' => e = .returned (.tuple #[]) ∧ TurnAt w' b B (forgot R) L ∧ Beside w.heap.size b w w' ∧ Leaves 68 b w w' := by
  obtain ⟨al, cl, hvl⟩ := own_form ho
  subst hvl
  have HO : Hid (w.ownsRow B 9 1 (.slice al R.kept.log.length cl) R.kept.log.length (R.kept.log.map enc)) := ho
  have HM : Hid (MsgsNew w B vs L) := hm
  have HX : Hid (Box w b _ _) := hx
  have HKN : Hid (∀ W, Calls _ _ _ W _) := fun W => knowing_any R.me R.kept al R.kept.log.length cl W
  have x0 := hx.cell 0 _ rfl
  have x1 := hx.cell 1 _ rfl
  have x2 := hx.cell 2 _ rfl
  have x3 := hx.cell 3 _ rfl
  have x4 := hx.cell 4 _ rfl
  have x5 := hx.cell 5 _ rfl
  have x6 := hx.cell 6 _ rfl
  have x7 := hx.cell 7 _ rfl
  have x8 := hx.cell 8 _ rfl
  have x9 := hx.cell 9 _ rfl
  have x10 := hx.cell 10 _ rfl
  have lb := hx.lt
  clear hx ho hm
  go_enter Tryd.func51, Tryd.ntmps51
  go_upto_region 0 with fail
  refine wp_region_first [9, 0, 0, 0, 0, 0, 0, 0, 0, 0, 0, 1, 1, 1, 1] (by kernel_rfl) (by kernel_rfl) (fun _ _ _ _ _ h => h) ?_
  simp only [sel, ↓reduceIte, Nat.reduceEqDiff]
  simp [movedAct, Act.put, Act.eval]
  repeat (go_big_quiet_step (fail))
  refine wpQuiet_nil ?_
  intro nq
  go_wp2_with fail
  refine (HKN.out _).mono ?_
  rintro e w3 ⟨bh, bw, bg, bn, rfl, hF, hb3⟩
  have hb3' : Below w.heap.size w w3 := ⟨hb3.os, hb3.tape, hb3.output, hb3.size, hb3.block⟩
  have r1 := HX.out.below hb3' lb
  have HR1 : Hid (Box w3 b _ _) := r1
  have HF : Hid (Four w.heap.size w3 _ _ _ _) := hF
  have HB3 : Hid (Below w.heap.size w w3) := hb3'
  clear x0 x1 x2 x3 x4 x5 x6 x7 x8 x9 x10 hb3 hb3' hF
  have y0 := r1.cell 0 _ rfl
  have y1 := r1.cell 1 _ rfl
  have y2 := r1.cell 2 _ rfl
  have y3 := r1.cell 3 _ rfl
  have y4 := r1.cell 4 _ rfl
  have y5 := r1.cell 5 _ rfl
  have y6 := r1.cell 6 _ rfl
  have y7 := r1.cell 7 _ rfl
  have y8 := r1.cell 8 _ rfl
  have y9 := r1.cell 9 _ rfl
  have y10 := r1.cell 10 _ rfl
  have f0 := r1.frozen 0
  have f1 := r1.frozen 1
  have f2 := r1.frozen 2
  have f3 := r1.frozen 3
  have f4 := r1.frozen 4
  have f5 := r1.frozen 5
  have f6 := r1.frozen 6
  have f7 := r1.frozen 7
  have f8 := r1.frozen 8
  have f9 := r1.frozen 9
  have f10 := r1.frozen 10
  clear r1
  simp only [row3] at *
  go_wp2_with fail
  have key : ∀ w4, w4 = setAll w3 b 0 [.int .i64 R.me, .int .i64 R.kept.view, .int .i64 R.kept.normal, .bool R.kept.calm, .slice al R.kept.log.length cl, .int .i64 R.kept.commit, .slice (some ⟨bh, 0, none⟩) 3 3, .slice (some ⟨bw, 0, none⟩) 3 3, .slice (some ⟨bg, 0, none⟩) 3 3, .slice (some ⟨bn, 0, none⟩) 3 3] → Hid (TurnAt w4 b B (forgot R) L ∧ Beside w.heap.size b w w4 ∧ Leaves 68 b w w4) := by
    intro w4 e4
    have hO := four_own (HF.out.base hB) R.me R.kept _ (own_below HO.out HB3.out (own_lt HO.out)) R.hav R.wants R.given R.gives
    subst e4
    obtain ⟨qs, hL, hq⟩ := HM.out
    have hbs : Beside w.heap.size b w (setAll w3 b 0 [.int .i64 R.me, .int .i64 R.kept.view, .int .i64 R.kept.normal, .bool R.kept.calm, .slice al R.kept.log.length cl, .int .i64 R.kept.commit, .slice (some ⟨bh, 0, none⟩) 3 3, .slice (some ⟨bw, 0, none⟩) 3 3, .slice (some ⟨bg, 0, none⟩) 3 3, .slice (some ⟨bn, 0, none⟩) 3 3]) := setAll_beside _ _ _ _ (Beside.of HB3.out)
    obtain ⟨_, f1, f2, f3, f4, _⟩ := HF.out
    refine ⟨⟨_, _, _, _, _, vs, _, setAll_put _ _ _ 0 HR1.out, hO.setAll HR1.out (by decide) (by decide) (by decide) (by decide) 0 _, qs, hL, (hq.below HB3.out).setAll HR1.out (by decide) (by decide) 0 _⟩, hbs, Leaves.of HX.out (setAll_put _ _ _ 0 HR1.out) hbs.size (fun c hc k e => ?_) fun k hk hkb _ => hbs.block k hk hkb⟩
    simp only [putAt, List.set_cons_zero, List.set_cons_succ, List.mem_cons, List.not_mem_nil, or_false] at hc
    rcases hc with rfl | rfl | rfl | rfl | rfl | rfl | rfl | rfl | rfl | rfl | rfl
    all_goals first | (refine Or.inr ⟨_, ?_, e⟩; simp; done) | (left; injection e with e; simp at e; omega)
  have key := key _ rfl
  simp only [setAll] at key
  generalize ((((((((((w3.setCell ⟨b, 0, none⟩ (.int .i64 R.me)).setCell ⟨b, 1, none⟩ (.int .i64 R.kept.view)).setCell ⟨b, 2, none⟩ (.int .i64 R.kept.normal)).setCell ⟨b, 3, none⟩ (.bool R.kept.calm)).setCell ⟨b, 4, none⟩ (.slice al R.kept.log.length cl)).setCell ⟨b, 5, none⟩ (.int .i64 R.kept.commit)).setCell ⟨b, 6, none⟩ (.slice (some ⟨bh, 0, none⟩) 3 3)).setCell ⟨b, 7, none⟩ (.slice (some ⟨bw, 0, none⟩) 3 3)).setCell ⟨b, 8, none⟩ (.slice (some ⟨bg, 0, none⟩) 3 3)).setCell ⟨b, 9, none⟩ (.slice (some ⟨bn, 0, none⟩) 3 3)) = w4 at key ⊢
  clear y0 y1 y2 y3 y4 y5 y6 y7 y8 y9 y10 f0 f1 f2 f3 f4 f5 f6 f7 f8 f9 f10
  go_end0
  exact ⟨rfl, key.out⟩

theorem forget_any (b B : Nat) (R : ReplM) (L : List MsgM) (w : World) (h : TurnAt w b B R L) (hB : B ≤ w.heap.size) :
    Calls Tryd.prog 51 #[.pointer (some ⟨b, 0, none⟩)] w fun e w' => e = .returned (.tuple #[]) ∧ TurnAt w' b B (forgot R) L ∧ Beside w.heap.size b w w' ∧ Leaves 68 b w w' := by
  obtain ⟨vl, vh, vw, vg, vn, vs, ps, hx, ho, hm⟩ := h
  exact forget_raw b B R L vl vh vw vg vn vs w hx ho.2.1 hm hB
theorem Beside.up {B b : Nat} {u v : World} (h : Beside B b u v) (hB : B ≤ u.heap.size) : B ≤ v.heap.size := Nat.le_trans hB h.size

set_option maxRecDepth 4000 in
set_option maxHeartbeats 2000000 in
theorem want_any (b B : Nat) (R : ReplM) (view : Int) (L : List MsgM) (w : World) (h : TurnAt w b B R L) (hme : 0 ≤ R.me) (hme' : R.me < 3) (hn : L.length ≤ 900) (hB : B ≤ w.heap.size) :
    Calls Tryd.prog 32 #[.pointer (some ⟨b, 0, none⟩), .int .i64 view] w fun e w' => e = .returned (.tuple #[]) ∧ TurnAt w' b B (wantR R view) (L ++ wantL R view) ∧ Beside B b w w' ∧ Leaves 68 b w w' := by
  obtain ⟨vl, vh, vw, vg, vn, vs, ps, hx, ho, hm⟩ := h
  have x0 := hx.cell 0 _ rfl
  have x1 := hx.cell 1 _ rfl
  have x2 := hx.cell 2 _ rfl
  have x3 := hx.cell 3 _ rfl
  have x4 := hx.cell 4 _ rfl
  have x5 := hx.cell 5 _ rfl
  have x6 := hx.cell 6 _ rfl
  have x7 := hx.cell 7 _ rfl
  have x8 := hx.cell 8 _ rfl
  have x9 := hx.cell 9 _ rfl
  have x10 := hx.cell 10 _ rfl
  have f1 := hx.frozen 1
  have f3 := hx.frozen 3
  have HT : Hid (TurnAt ((w.setCell ⟨b, 1, none⟩ (.int .i64 view)).setCell ⟨b, 3, none⟩ (.bool false)) b B ⟨R.me, ⟨view, R.kept.normal, false, R.kept.log, R.kept.commit⟩, R.hav, R.wants, R.gives, R.given⟩ L) := by
    have t1 : ReplOwn (w.setCell ⟨b, 1, none⟩ (.int .i64 view)) B R vl vh vw vg vn ps := ho.type hx (by decide) (by decide) (by decide) (by decide) 1 _
    have t2 : ReplOwn ((w.setCell ⟨b, 1, none⟩ (.int .i64 view)).setCell ⟨b, 3, none⟩ (.bool false)) B R vl vh vw vg vn ps := t1.type (hx.set 1 _) (by decide) (by decide) (by decide) (by decide) 3 _
    obtain ⟨qs, hL, hq⟩ := hm
    exact ⟨vl, vh, vw, vg, vn, vs, ps, (hx.set 1 (.int .i64 view)).set 3 (.bool false), t2, qs, hL, (hq.type hx (by decide) (by decide) 1 _).type (hx.set 1 _) (by decide) (by decide) 3 _⟩
  have HLV : Hid (Leaves 68 b w ((w.setCell ⟨b, 1, none⟩ (.int .i64 view)).setCell ⟨b, 3, none⟩ (.bool false))) := Leaves.of hx ((hx.set 1 (.int .i64 view)).set 3 (.bool false)) (by simp) (fun c hc k e => by
      simp only [List.set_cons_zero, List.set_cons_succ, List.mem_cons, List.not_mem_nil, or_false] at hc
      rcases hc with rfl | rfl | rfl | rfl | rfl | rfl | rfl | rfl | rfl | rfl | rfl
      all_goals first | (refine Or.inr ⟨_, ?_, e⟩; simp; done) | cases e) fun k hk hkb _ => by
        rw [Below.heap_setCell _ _ _ _ (fun e => hkb e), Below.heap_setCell _ _ _ _ (fun e => hkb e)]
  have HBS : Hid (Beside B b w ((w.setCell ⟨b, 1, none⟩ (.int .i64 view)).setCell ⟨b, 3, none⟩ (.bool false))) := ((Beside.refl B b w).setCell (a := ⟨b, 1, none⟩) (Or.inl rfl) _).setCell (a := ⟨b, 3, none⟩) (Or.inl rfl) _
  clear hx ho hm
  go_enter Tryd.func32, Tryd.ntmps32
  go_wp2_with fail
  refine (forget_any b B _ L _ HT.out (HBS.out.up hB)).mono ?_
  rintro e w2 ⟨rfl, ht2, hb2, hl2⟩
  have HT2 : Hid (TurnAt w2 b B _ L) := ht2
  have HB2 : Hid (Beside B b w w2) := HBS.out.trans (hb2.mono (HBS.out.up hB))
  have HL2 : Hid (Leaves 68 b w w2) := HLV.out.trans hl2
  clear ht2 hb2 hl2 HLV x0 x1 x2 x3 x4 x5 x6 x7 x8 x9 x10 f1 f3
  go_wp2_with fail
  refine (tellWant_any b B _ L _ HT2.out hme (by show R.me < (3 : Nat); omega) hn (HB2.out.up hB)).mono ?_
  rintro e w3 ⟨rfl, ht3, hb3, hl3⟩
  have HE : Hid (TurnAt w3 b B (wantR R view) (L ++ wantL R view) ∧ Beside B b w w3 ∧ Leaves 68 b w w3) := ⟨ht3, HB2.out.trans hb3, HL2.out.trans hl3⟩
  clear ht3 hb3 hl3
  go_wp2_with fail
  go_end0
  exact ⟨rfl, HE.out⟩

end Go.Proofs.YtmdgkjbiicaljagDoor
