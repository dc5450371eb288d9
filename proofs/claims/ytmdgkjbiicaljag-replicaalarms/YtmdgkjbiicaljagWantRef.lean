/- The document's wanted: a replica behind a pointer asks for a view. -/
import Derived.Test.YtmdgkjbiicaljagToAllRef
import Derived.Test.YtmdgkjbiicaljagJointForgetRef
import Derived.Test.YtmdgkjbiicaljagTickGo
namespace Go.Proofs.Ytmdgkjbiicaljag
open Go.RowKit
set_option linter.unusedVariables false
set_option linter.unusedSimpArgs false

/-- A replica of the call's own, in a block. -/
def HeldAt (w : World) (b B : Nat) (R : ReplM) : Prop :=
  ∃ vl vh vw vg vn ps, Box w b 29 [.int .i64 R.me, .int .i64 R.kept.view, .int .i64 R.kept.normal, .bool R.kept.calm, vl, .int .i64 R.kept.commit, vh, vw, vg, vn] ∧ ReplOwn w B R vl vh vw vg vn ps
theorem HeldAt.below {w w' : World} {b B : Nat} {R : ReplM} (h : HeldAt w b B R) (hb : Below w.heap.size w w') : HeldAt w' b B R := by
  obtain ⟨vl, vh, vw, vg, vn, ps, hx, ho⟩ := h
  exact ⟨vl, vh, vw, vg, vn, ps, hx.below hb hx.lt, ho.below hb⟩

set_option maxRecDepth 4000 in
set_option maxHeartbeats 4000000 in
theorem wantedOf_any (b B : Nat) (R : ReplM) (view : Int) (w : World) (h : HeldAt w b B R) (hme : 0 ≤ R.me) (hme' : R.me < 3) (hB : B ≤ w.heap.size) :
    Calls Try.prog 41 #[.pointer (some ⟨b, 0, none⟩), .int .i64 view] w fun e w' => ∃ v, e = .returned v ∧ HeldAt w' b B (wantR R view) ∧ MsgsNew w' w.heap.size v (wantL R view) ∧ Beside B b w w' := by
  obtain ⟨vl, vh, vw, vg, vn, ps, hx, ho⟩ := h
  obtain ⟨al, cl, hvl⟩ := own_form ho.2.1
  subst hvl
  have x0 := hx.cell 0 _ rfl
  have x1 := hx.cell 1 _ rfl
  have x2 := hx.cell 2 _ rfl
  have x3 := hx.cell 3 _ rfl
  have x4 := hx.cell 4 _ rfl
  have x5 := hx.cell 5 _ rfl
  have x6 := hx.cell 6 _ rfl
  have x7 := hx.cell 7 _ rfl
  have x8 := hx.cell 8 _ rfl
  have x9 := hx.cell 9 _ rfl
  have f1 := hx.frozen 1
  have f3 := hx.frozen 3
  have lb := hx.lt
  obtain ⟨w1, hw1⟩ : ∃ w1, w1 = (w.setCell ⟨b, 1, none⟩ (.int .i64 view)).setCell ⟨b, 3, none⟩ (.bool false) := ⟨_, rfl⟩
  have hx1 : Box w1 b 29 [.int .i64 R.me, .int .i64 view, .int .i64 R.kept.normal, .bool false, .slice al R.kept.log.length cl, .int .i64 R.kept.commit, vh, vw, vg, vn] := by rw [hw1]; exact (hx.set 1 (.int .i64 view)).set 3 (.bool false)
  have ho1 : w1.ownsRow B 9 1 (.slice al R.kept.log.length cl) R.kept.log.length (R.kept.log.map enc) := by
    rw [hw1]
    have t1 : ReplOwn (w.setCell ⟨b, 1, none⟩ (.int .i64 view)) B R _ vh vw vg vn ps := ho.type hx (by decide) (by decide) (by decide) (by decide) 1 _
    exact (t1.type (hx.set 1 _) (by decide) (by decide) (by decide) (by decide) 3 _ : ReplOwn _ B R _ vh vw vg vn ps).2.1
  have hs1 : w1.heap.size = w.heap.size := by rw [hw1]; simp
  have hbs : Beside B b w w1 := by rw [hw1]; exact ((Beside.refl B b w).setCell (a := ⟨b, 1, none⟩) (Or.inl rfl) _).setCell (a := ⟨b, 3, none⟩) (Or.inl rfl) _
  have HX1 : Hid (Box w1 b _ _) := hx1
  have HO1 : Hid (w1.ownsRow B _ _ _ _ _) := ho1
  have HS1 : Hid (w1.heap.size = w.heap.size) := hs1
  have HBS : Hid (Beside B b w w1) := hbs
  clear hx1 ho1 hs1 hbs hx ho
  go_enter Try.func41, Try.ntmps41
  go_upto_region 3 with fail
  rw [← hw1]
  clear hw1 x0 x1 x2 x3 x4 x5 x6 x7 x8 x9 f1 f3
  go_wp2_with fail
  refine (forgotten_any b _ _ _ _ _ _ _ _ _ _ w1 HX1.out).mono ?_
  rintro e w2 ⟨bh, bw, bg, bn, rfl, hF, hx2, hb2⟩
  have hs2 := hb2.size
  have hs1 := HS1.out
  have hl2 : w2.ownsRow B 9 1 (.slice al R.kept.log.length cl) R.kept.log.length (R.kept.log.map enc) := own_beside HO1.out hb2 fun k hk => ⟨own_lt HO1.out k hk, fun e => own_type HO1.out HX1.out (by decide) (by rw [← e]; exact hk)⟩
  have ho2 := four_own (hF.base (B' := B) (by omega)) R.me ⟨view, R.kept.normal, false, R.kept.log, R.kept.commit⟩ _ hl2 [] [] [] []
  have HB2 : Hid (Beside B b w w2) := HBS.out.trans (hb2.mono (by omega))
  have HS2 : Hid (w.heap.size ≤ w2.heap.size) := by unfold Hid; omega
  obtain ⟨mi, hmi⟩ : ∃ mi : Nat, R.me = (mi : Int) := ⟨R.me.toNat, by omega⟩
  have emi : R.me.toNat = mi := by omega
  have hx2 : Box w2 b 29 [.int .i64 R.me, .int .i64 view, .int .i64 R.kept.normal, .bool false, .slice al R.kept.log.length cl, .int .i64 R.kept.commit, row3 bh, row3 bw, row3 bg, row3 bn] := hx2
  have hq := hF.2.2.2.2.2.2.1
  have hbwb : bw ≠ b := by have := hF.2.2.1; omega
  have ho3 := ReplOwn.wants (g := bw) (cap := 3) ho2 mi true
  have hx3 := hx2.row ho2.2.2.2.1 rfl (by decide) (.bool true) (i := mi)
  have hfw := hq.frozen mi
  have hcw : w2.cell? ⟨bw, mi, none⟩ = some (.bool false) := by
    refine hq.cell mi _ ?_
    have : mi = 0 ∨ mi = 1 ∨ mi = 2 := by omega
    rcases this with rfl | rfl | rfl <;> rfl
  have hb3 : Beside B b w2 (w2.setCell ⟨bw, mi, none⟩ (.bool true)) := (Beside.refl B b w2).setCell (Or.inr (by have := hF.2.2.1; show B ≤ bw; omega)) _
  have x0 := hx2.cell 0 _ rfl
  have x1 := hx2.cell 1 _ rfl
  have x2 := hx2.cell 2 _ rfl
  have x3 := hx2.cell 3 _ rfl
  have x4 := hx2.cell 4 _ rfl
  have x5 := hx2.cell 5 _ rfl
  have x6 := hx2.cell 6 _ rfl
  have x7 := hx2.cell 7 _ rfl
  have x8 := hx2.cell 8 _ rfl
  have x9 := hx2.cell 9 _ rfl
  obtain ⟨w3, hw3⟩ : ∃ w3, w3 = w2.setCell ⟨bw, mi, none⟩ (.bool true) := ⟨_, rfl⟩
  have hs3 : w3.heap.size = w2.heap.size := by rw [hw3]; simp
  rw [← hw3] at ho3 hx3 hb3
  have HX3 : Hid (Box w3 b _ _) := hx3
  have HO3 : Hid (ReplOwn w3 B _ _ _ _ _ _ _) := ho3
  have HB3 : Hid (Beside B b w w3) := HB2.out.trans hb3
  have HS3 : Hid (w.heap.size ≤ w3.heap.size) := by unfold Hid; have := HS2.out; omega
  have k0 : (0 : Int) ≤ (mi : Int) := by omega
  have k1 : (mi : Int) < 3 := by omega
  rw [hmi] at x0
  simp only [row3] at x7
  have HME : Hid (R.me.toNat = mi) := emi
  have HMI : Hid (R.me = (mi : Int)) := hmi
  clear hF hx2 hb2 hl2 ho2 hq ho3 hx3 hb3 hs1 hs2 hs3 HX1 HO1 HS1 HBS emi hmi hme hme'
  go_upto_region 4 with fail
  refine wp_region_two [0, 0, 0, 0, 0, 0, 0, 0, 0, 1] (by kernel_rfl) (by kernel_rfl) ?_
  simp only [sel, ↓reduceIte, Nat.reduceEqDiff]
  repeat (go_big_quiet_step (fail))
  refine wpQuiet_nil ?_
  intro w9 hw9
  obtain ⟨nq, rfl⟩ := hw9
  go_upto_region 5 with fail
  have ew : (w2.drewN nq).setCell ⟨bw, mi, none⟩ (.bool true) = w3.drewN nq := by rw [hw3]; rfl
  rw [ew]
  clear x0 x1 x2 x3 x4 x5 x6 x7 x8 x9 ew hw3 hcw hfw
  have hx4 : Box (w3.drewN nq) b 29 [.int .i64 R.me, .int .i64 view, .int .i64 R.kept.normal, .bool false, .slice al R.kept.log.length cl, .int .i64 R.kept.commit, .slice (some ⟨bh, 0, none⟩) 3 3, .slice (some ⟨bw, 0, none⟩) 3 3, .slice (some ⟨bg, 0, none⟩) 3 3, .slice (some ⟨bn, 0, none⟩) 3 3] := HX3.out
  have x0 := hx4.cell 0 _ rfl
  have x1 := hx4.cell 1 _ rfl
  have x2 := hx4.cell 2 _ rfl
  have x3 := hx4.cell 3 _ rfl
  have x4 := hx4.cell 4 _ rfl
  have x5 := hx4.cell 5 _ rfl
  have x6 := hx4.cell 6 _ rfl
  have x7 := hx4.cell 7 _ rfl
  have x8 := hx4.cell 8 _ rfl
  have x9 := hx4.cell 9 _ rfl
  have HX4 : Hid (Box (w3.drewN nq) b _ _) := hx4
  clear hx4
  have HTA : Hid (Calls _ _ _ (w3.drewN nq) _) := toAllOf_any R.me view (.int .i64 R.kept.normal) (.bool false) (.slice al R.kept.log.length cl) (.int .i64 R.kept.commit) (.slice (some ⟨bh, 0, none⟩) 3 3) (.slice (some ⟨bw, 0, none⟩) 3 3) (.slice (some ⟨bg, 0, none⟩) 3 3) (.slice (some ⟨bn, 0, none⟩) 3 3) ⟨3, 0, 0, 0, 0, 0, 0, []⟩ (.slice none 0 0) (w3.drewN nq) (rowAt_nil _) (by simp)
  have e1 : sentTo R.me view ⟨3, 0, 0, 0, 0, 0, 0, []⟩ 3 = wantL R view := sentTo_all (wantR R view) 3 0 0 [] rfl 0 0 0 0 rfl
  rw [e1] at HTA
  simp only [msgCells] at HTA
  clear e1
  go_wp2_with fail
  refine HTA.out.mono ?_
  rintro e w4 ⟨v4, rfl, hm4, hb4⟩
  obtain ⟨a4, c4, rfl⟩ := hm4.form
  have HE : Hid (HeldAt w4 b B (wantR R view) ∧ MsgsNew w4 w.heap.size (.slice a4 (wantL R view).length c4) (wantL R view) ∧ Beside B b w w4) := by
    have hh : HeldAt (w3.drewN nq) b B (wantR R view) := by
      rw [show wantR R view = ⟨R.me, ⟨view, R.kept.normal, false, R.kept.log, R.kept.commit⟩, [0, 0, 0], [false, false, false].set mi true, [zeroKept, zeroKept, zeroKept], [false, false, false]⟩ from by unfold wantR; rw [HME.out]]
      exact ⟨_, _, _, _, _, _, HX4.out, HO3.out⟩
    have hbd : Beside B b w (w3.drewN nq) := ⟨HB3.out.os, HB3.out.tape, HB3.out.output, HB3.out.size, HB3.out.block⟩
    exact ⟨hh.below hb4, hm4.base HS3.out, hbd.far hB hb4⟩
  clear hm4 hb4 HTA x0 x1 x2 x3 x4 x5 x6 x7 x8 x9
  go_wp2_with fail
  go_ret
  exact ⟨_, rfl, HE.out⟩

end Go.Proofs.Ytmdgkjbiicaljag
