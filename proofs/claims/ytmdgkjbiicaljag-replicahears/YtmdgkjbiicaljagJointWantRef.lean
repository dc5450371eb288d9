/- The walk of the document's answer KeptCopy. -/
import Derived.Test.YtmdgkjbiicaljagJointKeptRead
import Derived.BigQuiet
import Derived.Deep.QuietTactic
import Derived.Deep.DeepCutAuto
import Derived.Test.YtmdgkjbiicaljagJointCopiedStr
import Derived.Test.YtmdgkjbiicaljagJointKeptRef
import Derived.Test.YtmdgkjbiicaljagJointNumIs
import Derived.Test.YtmdgkjbiicaljagTickGo
namespace Go.Proofs.Ytmdgkjbiicaljag
open Go.RowKit
set_option linter.unusedVariables false
set_option linter.unusedSimpArgs false
attribute [local go_sem] app_list ext_list get_list byteAt_zero

set_option maxHeartbeats 1000000 in
theorem keptCopyOf_any (K : KeptM) (v : Value) (w : World) (h : KeptAt w v K) (hf : K.log.length * 16 ≤ 140737488355328) :
    Calls Try.prog 18 #[v] w fun e w' => ∃ v', e = .returned v' ∧ KeptNew w' w.heap.size v' K ∧ Below w.heap.size w w' := by
  obtain ⟨vl, rfl, hs⟩ := h
  obtain ⟨vw, nm, cm, l, ct⟩ := K
  simp only at hs hf ⊢
  have HS : Hid (Strs w vl l) := hs
  obtain ⟨a, c, rfl, hlx, hcx⟩ := hs
  obtain ⟨b0, b1, hb⟩ := boxes2 w 24 24 [.int .i64 vw, .int .i64 nm, .bool cm, .slice a l.length c, .int .i64 ct] [.int .i64 0, .int .i64 0, .bool false, .slice none 0 0, .int .i64 0]
  obtain ⟨w0, hw0⟩ : ∃ w0, w0 = (w.alloc (.cells #[.int .i64 vw, .int .i64 nm, .bool cm, .slice a l.length c, .int .i64 ct] 24)).alloc (.cells #[.int .i64 0, .int .i64 0, .bool false, .slice none 0 0, .int .i64 0] 24) := ⟨_, rfl⟩
  have HSZ : Hid (w0.heap.size = w.heap.size + 1 + 1) := by unfold Hid; rw [hw0]; simp
  go_enter Try.func18, Try.ntmps18
  go_upto_region 1 with fail
  rw [← hw0] at b0 b1 hb ⊢
  clear hw0
  have x3 := b0.cell 3 _ rfl
  have HR : Hid (RowAt w0 (.slice a l.length c) l.length 1 (l.map enc)) := (HS.out.below hb).row
  have HB0 : Hid (Box w0 w.heap.size _ _) := b0
  have HB1 : Hid (Box w0 (w.heap.size + 1) _ _) := b1
  have HBW : Hid (Below w.heap.size w w0) := hb
  clear b0 b1 hb hcx
  go_wp2_with (at_builtin; refine wpList_append_row _ rfl _ _ 22 rfl w0.heap.size 9 Try.t9 _ 1 16 Try.underlying22 infoStr zeroStr sizeStr bytesStr rfl (by decide) _ 0 [] rfl (World.ownsRow_nil _ _ _ _) _ l.length (l.map enc) rfl HR.out (by intro u hu; obtain ⟨x, _, rfl⟩ := List.mem_map.1 hu; rfl) (by unfold maxLen; omega) (by omega) (Nat.le_refl _) ?_)
  intro v5 wB hownB hgB hatB
  try rw [Nat.zero_add, List.nil_append] at hownB
  have hsz := HSZ.out
  have hbB : Below w0.heap.size w0 wB := (Below.refl _ _).grown hgB (Nat.le_refl _) (fun k e => by cases e)
  obtain ⟨a5, c5, rfl⟩ := own_formN hownB
  have e0 := HB0.out.below hbB HB0.out.lt
  have e1 := HB1.out.below hbB HB1.out.lt
  have hbb := Below.far HBW.out hbB
  clear x3 hgB hatB HR HS
  have x0 := e0.cell 0 _ rfl
  have x1 := e0.cell 1 _ rfl
  have x2 := e0.cell 2 _ rfl
  have x3 := e0.cell 3 _ rfl
  have x4 := e0.cell 4 _ rfl
  have z3 := e0.frozen 3
  have y0 := e1.cell 0 _ rfl
  have y1 := e1.cell 1 _ rfl
  have y2 := e1.cell 2 _ rfl
  have y3 := e1.cell 3 _ rfl
  have y4 := e1.cell 4 _ rfl
  have f0 := e1.frozen 0
  have f1 := e1.frozen 1
  have f2 := e1.frozen 2
  have f3 := e1.frozen 3
  have f4 := e1.frozen 4
  have HN : Hid (KeptNew _ w.heap.size _ ⟨vw, nm, cm, l, ct⟩) := (((((((show KeptNew wB w0.heap.size (.agg #[.int .i64 vw, .int .i64 nm, .bool cm, .slice a5 l.length c5, .int .i64 ct]) ⟨vw, nm, cm, l, ct⟩ from ⟨_, rfl, hownB⟩).other (a := ⟨w.heap.size, 3, none⟩) (by simp; omega) (.slice a5 l.length c5)).other (a := ⟨w.heap.size + 1, 0, none⟩) (by simp; omega) (.int .i64 vw)).other (a := ⟨w.heap.size + 1, 1, none⟩) (by simp; omega) (.int .i64 nm)).other (a := ⟨w.heap.size + 1, 2, none⟩) (by simp; omega) (.bool cm)).other (a := ⟨w.heap.size + 1, 3, none⟩) (by simp; omega) (.slice a5 l.length c5)).other (a := ⟨w.heap.size + 1, 4, none⟩) (by simp; omega) (.int .i64 ct)).base (by omega)
  have HB : Hid (Below w.heap.size w _) := (((((hbb.setCell (p := ⟨w.heap.size, 3, none⟩) (by simp) (.slice a5 l.length c5)).setCell (p := ⟨w.heap.size + 1, 0, none⟩) (by simp) (.int .i64 vw)).setCell (p := ⟨w.heap.size + 1, 1, none⟩) (by simp) (.int .i64 nm)).setCell (p := ⟨w.heap.size + 1, 2, none⟩) (by simp) (.bool cm)).setCell (p := ⟨w.heap.size + 1, 3, none⟩) (by simp) (.slice a5 l.length c5)).setCell (p := ⟨w.heap.size + 1, 4, none⟩) (by simp) (.int .i64 ct)
  clear hownB hbB e0 e1 hbb HB0 HB1 HBW hsz HSZ
  go_wp2_with fail
  refine bodyPost_ret (v := .agg #[.int .i64 vw, .int .i64 nm, .bool cm, .slice a5 l.length c5, .int .i64 ct]) ?_ rfl ⟨_, rfl, HN.out, HB.out⟩
  clear HN HB
  simp [results, Try.results18, go_sem, *]

end Go.Proofs.Ytmdgkjbiicaljag

/- The document's forgotten and ReplicaOf. -/
namespace Go.Proofs.Ytmdgkjbiicaljag
open Go.RowKit
set_option linter.unusedVariables false
set_option linter.unusedSimpArgs false
attribute [local go_sem] mkInts mkBools mkKepts

theorem mk_store {w : World} {b : Nat} {cs : List Value} (t : TypeId) (zs : List Value) (i : Nat) (hx : Box w b 29 cs) :
    Box ((w.setCell ⟨b, i, none⟩ (.slice (some ⟨w.heap.size, 0, none⟩) 3 3)).alloc (.cells zs.toArray t)) b 29 (cs.set i (row3 w.heap.size)) ∧ Box ((w.setCell ⟨b, i, none⟩ (.slice (some ⟨w.heap.size, 0, none⟩) 3 3)).alloc (.cells zs.toArray t)) w.heap.size t zs ∧
    ((w.setCell ⟨b, i, none⟩ (.slice (some ⟨w.heap.size, 0, none⟩) 3 3)).alloc (.cells zs.toArray t)).heap.size > w.heap.size ∧ Beside w.heap.size b w ((w.setCell ⟨b, i, none⟩ (.slice (some ⟨w.heap.size, 0, none⟩) 3 3)).alloc (.cells zs.toArray t)) := by
  have lb := hx.lt
  have hn := Box.new (w.setCell ⟨b, i, none⟩ (.slice (some ⟨w.heap.size, 0, none⟩) 3 3)) t zs
  rw [show (w.setCell ⟨b, i, none⟩ (.slice (some ⟨w.heap.size, 0, none⟩) 3 3)).heap.size = w.heap.size from by simp] at hn
  exact ⟨(hx.set i _).alloc _, hn, by simp, ((Beside.refl w.heap.size b w).setCell (Or.inl rfl) _).alloc (Nat.le_refl _) _⟩

set_option maxRecDepth 4000 in
set_option maxHeartbeats 2000000 in
theorem forgotten_any (b : Nat) (c0 c1 c2 c3 c4 c5 c6 c7 c8 c9 : Value) (w : World) (hx : Box w b 29 [c0, c1, c2, c3, c4, c5, c6, c7, c8, c9]) :
    Calls Try.prog 56 #[.pointer (some ⟨b, 0, none⟩)] w fun e w' => ∃ bh bw bg bn, e = .returned (.tuple #[]) ∧ Four w.heap.size w' bh bw bg bn ∧ Box w' b 29 [c0, c1, c2, c3, c4, c5, row3 bh, row3 bw, row3 bg, row3 bn] ∧ Beside w.heap.size b w w' := by
  have lb := hx.lt
  have x6 := hx.cell 6 _ rfl
  have f6 := hx.frozen 6
  have n0 : ¬ b = w.heap.size := by omega
  have m1 := mk_store 3 [.int .i64 0, .int .i64 0, .int .i64 0] 6 hx
  obtain ⟨w1, hw1⟩ : ∃ w1, w1 = (w.setCell ⟨b, 6, none⟩ (.slice (some ⟨w.heap.size, 0, none⟩) 3 3)).alloc (.cells #[.int .i64 0, .int .i64 0, .int .i64 0] 3) := ⟨_, rfl⟩
  have M1 : Hid _ := m1
  clear m1
  have HX : Hid (Box w b _ _) := hx
  clear hx
  go_enter Try.func56, Try.ntmps56
  go_upto_region 1 with fail
  rw [← hw1]
  have m1 := M1.out
  rw [show (w.setCell ⟨b, 6, none⟩ (.slice (some ⟨w.heap.size, 0, none⟩) 3 3)).alloc (.cells [.int .i64 0, .int .i64 0, .int .i64 0].toArray 3) = w1 from hw1.symm] at m1
  clear hw1 M1 x6 f6
  obtain ⟨p1, q1, z1, s1⟩ := m1
  have p1 : Box w1 b 29 [c0, c1, c2, c3, c4, c5, row3 w.heap.size, c7, c8, c9] := p1
  have x7 := p1.cell 7 _ rfl
  have f7 := p1.frozen 7
  have n1 : ¬ b = w1.heap.size := by omega
  have lb1 : b < w1.heap.size := by omega
  have m2 := mk_store 4 [.bool false, .bool false, .bool false] 7 p1
  obtain ⟨w2, hw2⟩ : ∃ w2, w2 = (w1.setCell ⟨b, 7, none⟩ (.slice (some ⟨w1.heap.size, 0, none⟩) 3 3)).alloc (.cells #[.bool false, .bool false, .bool false] 4) := ⟨_, rfl⟩
  have M2 : Hid _ := m2
  have Z1 : Hid (w1.heap.size > w.heap.size) := z1
  have P1 : Hid (Box w1 b _ _) := p1
  have Q1 : Hid (Box w1 w.heap.size _ _) := q1
  have S1 : Hid (Beside w.heap.size b w w1) := s1
  clear m2 z1 p1 q1 s1
  go_upto_region 2 with fail
  rw [← hw2]
  have m2 := M2.out
  rw [show (w1.setCell ⟨b, 7, none⟩ (.slice (some ⟨w1.heap.size, 0, none⟩) 3 3)).alloc (.cells [.bool false, .bool false, .bool false].toArray 4) = w2 from hw2.symm] at m2
  clear hw2 M2 x7 f7
  obtain ⟨p2, q2, z2, s2⟩ := m2
  have p2 : Box w2 b 29 [c0, c1, c2, c3, c4, c5, row3 w.heap.size, row3 w1.heap.size, c8, c9] := p2
  have x8 := p2.cell 8 _ rfl
  have f8 := p2.frozen 8
  have hz1 := Z1.out
  have n2 : ¬ b = w2.heap.size := by omega
  have lb2 : b < w2.heap.size := by omega
  have m3 := mk_store 24 zK 8 p2
  obtain ⟨w3, hw3⟩ : ∃ w3, w3 = (w2.setCell ⟨b, 8, none⟩ (.slice (some ⟨w2.heap.size, 0, none⟩) 3 3)).alloc (.cells #[.int .i64 0, .int .i64 0, .bool false, .slice none 0 0, .int .i64 0, .int .i64 0, .int .i64 0, .bool false, .slice none 0 0, .int .i64 0, .int .i64 0, .int .i64 0, .bool false, .slice none 0 0, .int .i64 0] 24) := ⟨_, rfl⟩
  have M3 : Hid _ := m3
  have Z2 : Hid (w2.heap.size > w1.heap.size) := z2
  have P2 : Hid (Box w2 b _ _) := p2
  have Q2 : Hid (Box w2 w1.heap.size _ _) := q2
  have S2 : Hid (Beside w1.heap.size b w1 w2) := s2
  clear m3 z2 p2 q2 s2 hz1
  go_upto_region 3 with fail
  rw [← hw3]
  have m3 := M3.out
  rw [show (w2.setCell ⟨b, 8, none⟩ (.slice (some ⟨w2.heap.size, 0, none⟩) 3 3)).alloc (.cells zK.toArray 24) = w3 from hw3.symm] at m3
  clear hw3 M3 x8 f8
  obtain ⟨p3, q3, z3, s3⟩ := m3
  have p3 : Box w3 b 29 [c0, c1, c2, c3, c4, c5, row3 w.heap.size, row3 w1.heap.size, row3 w2.heap.size, c9] := p3
  have x9 := p3.cell 9 _ rfl
  have f9 := p3.frozen 9
  have hz1 := Z1.out
  have hz2 := Z2.out
  have n3 : ¬ b = w3.heap.size := by omega
  have lb3 : b < w3.heap.size := by omega
  have M4 : Hid _ := mk_store 4 [.bool false, .bool false, .bool false] 9 p3
  have Z3 : Hid (w3.heap.size > w2.heap.size) := z3
  have Q3 : Hid (Box w3 w2.heap.size _ _) := q3
  have S3 : Hid (Beside w2.heap.size b w2 w3) := s3
  clear z3 p3 q3 s3 hz1 hz2
  go_wp2_with fail
  go_end0
  obtain ⟨p4, q4, z4, s4⟩ := M4.out
  have hz1 := Z1.out
  have hz2 := Z2.out
  have hz3 := Z3.out
  refine ⟨w.heap.size, w1.heap.size, w2.heap.size, w3.heap.size, rfl, ⟨by omega, Nat.le_refl _, by omega, by omega, by omega, ?_, ?_, ?_, q4⟩, p4, ?_⟩
  · exact ((Q1.out.beside S2.out (by omega) (by omega)).beside S3.out (by omega) (by omega)).beside s4 (by omega) (by omega)
  · exact (Q2.out.beside S3.out (by omega) (by omega)).beside s4 (by omega) (by omega)
  · exact Q3.out.beside s4 (by omega) (by omega)
  · exact ((S1.out.trans (S2.out.mono (by omega))).trans (S3.out.mono (by omega))).trans (s4.mono (by omega))

end Go.Proofs.Ytmdgkjbiicaljag

/- The document's wanted: a replica behind a pointer asks for a view. -/
namespace Go.Proofs.Ytmdgkjbiicaljag
open Go.RowKit
set_option linter.unusedVariables false
set_option linter.unusedSimpArgs false

/-- A replica of the call's own, in a block. -/
def HeldAt (w : World) (b B : Nat) (R : ReplM) : Prop :=
  ∃ vl vh vw vg vn ps, Box w b 29 [.int .i64 R.me, .int .i64 R.kept.view, .int .i64 R.kept.normal, .bool R.kept.calm, vl, .int .i64 R.kept.commit, vh, vw, vg, vn] ∧ ReplOwn w B R vl vh vw vg vn ps
theorem HeldAt.below {w w' : World} {b B : Nat} {R : ReplM} (h : HeldAt w b B R) (hb : Below w.heap.size w w') : HeldAt w' b B R := by
  obtain ⟨vl, vh, vw, vg, vn, ps, hx, ho⟩ := h
  exact ⟨vl, vh, vw, vg, vn, ps, hx.below hb hx.lt, ho.below hb⟩

set_option maxRecDepth 4000 in
set_option maxHeartbeats 4000000 in
theorem wantedOf_any (b B : Nat) (R : ReplM) (view : Int) (w : World) (h : HeldAt w b B R) (hme : 0 ≤ R.me) (hme' : R.me < 3) (hB : B ≤ w.heap.size) :
    Calls Try.prog 41 #[.pointer (some ⟨b, 0, none⟩), .int .i64 view] w fun e w' => ∃ v, e = .returned v ∧ HeldAt w' b B (wantR R view) ∧ MsgsNew w' w.heap.size v (wantL R view) ∧ Beside B b w w' := by
  obtain ⟨vl, vh, vw, vg, vn, ps, hx, ho⟩ := h
  obtain ⟨al, cl, hvl⟩ := own_form ho.2.1
  subst hvl
  have x0 := hx.cell 0 _ rfl
  have x1 := hx.cell 1 _ rfl
  have x2 := hx.cell 2 _ rfl
  have x3 := hx.cell 3 _ rfl
  have x4 := hx.cell 4 _ rfl
  have x5 := hx.cell 5 _ rfl
  have x6 := hx.cell 6 _ rfl
  have x7 := hx.cell 7 _ rfl
  have x8 := hx.cell 8 _ rfl
  have x9 := hx.cell 9 _ rfl
  have f1 := hx.frozen 1
  have f3 := hx.frozen 3
  have lb := hx.lt
  obtain ⟨w1, hw1⟩ : ∃ w1, w1 = (w.setCell ⟨b, 1, none⟩ (.int .i64 view)).setCell ⟨b, 3, none⟩ (.bool false) := ⟨_, rfl⟩
  have hx1 : Box w1 b 29 [.int .i64 R.me, .int .i64 view, .int .i64 R.kept.normal, .bool false, .slice al R.kept.log.length cl, .int .i64 R.kept.commit, vh, vw, vg, vn] := by rw [hw1]; exact (hx.set 1 (.int .i64 view)).set 3 (.bool false)
  have ho1 : w1.ownsRow B 9 1 (.slice al R.kept.log.length cl) R.kept.log.length (R.kept.log.map enc) := by
    rw [hw1]
    have t1 : ReplOwn (w.setCell ⟨b, 1, none⟩ (.int .i64 view)) B R _ vh vw vg vn ps := ho.type hx (by decide) (by decide) (by decide) (by decide) 1 _
    exact (t1.type (hx.set 1 _) (by decide) (by decide) (by decide) (by decide) 3 _ : ReplOwn _ B R _ vh vw vg vn ps).2.1
  have hs1 : w1.heap.size = w.heap.size := by rw [hw1]; simp
  have hbs : Beside B b w w1 := by rw [hw1]; exact ((Beside.refl B b w).setCell (a := ⟨b, 1, none⟩) (Or.inl rfl) _).setCell (a := ⟨b, 3, none⟩) (Or.inl rfl) _
  have HX1 : Hid (Box w1 b _ _) := hx1
  have HO1 : Hid (w1.ownsRow B _ _ _ _ _) := ho1
  have HS1 : Hid (w1.heap.size = w.heap.size) := hs1
  have HBS : Hid (Beside B b w w1) := hbs
  clear hx1 ho1 hs1 hbs hx ho
  go_enter Try.func41, Try.ntmps41
  go_upto_region 3 with fail
  rw [← hw1]
  clear hw1 x0 x1 x2 x3 x4 x5 x6 x7 x8 x9 f1 f3
  go_wp2_with fail
  refine (forgotten_any b _ _ _ _ _ _ _ _ _ _ w1 HX1.out).mono ?_
  rintro e w2 ⟨bh, bw, bg, bn, rfl, hF, hx2, hb2⟩
  have hs2 := hb2.size
  have hs1 := HS1.out
  have hl2 : w2.ownsRow B 9 1 (.slice al R.kept.log.length cl) R.kept.log.length (R.kept.log.map enc) := own_beside HO1.out hb2 fun k hk => ⟨own_lt HO1.out k hk, fun e => own_type HO1.out HX1.out (by decide) (by rw [← e]; exact hk)⟩
  have ho2 := four_own (hF.base (B' := B) (by omega)) R.me ⟨view, R.kept.normal, false, R.kept.log, R.kept.commit⟩ _ hl2 [] [] [] []
  have HB2 : Hid (Beside B b w w2) := HBS.out.trans (hb2.mono (by omega))
  have HS2 : Hid (w.heap.size ≤ w2.heap.size) := by unfold Hid; omega
  obtain ⟨mi, hmi⟩ : ∃ mi : Nat, R.me = (mi : Int) := ⟨R.me.toNat, by omega⟩
  have emi : R.me.toNat = mi := by omega
  have hx2 : Box w2 b 29 [.int .i64 R.me, .int .i64 view, .int .i64 R.kept.normal, .bool false, .slice al R.kept.log.length cl, .int .i64 R.kept.commit, row3 bh, row3 bw, row3 bg, row3 bn] := hx2
  have hq := hF.2.2.2.2.2.2.1
  have hbwb : bw ≠ b := by have := hF.2.2.1; omega
  have ho3 := ReplOwn.wants (g := bw) (cap := 3) ho2 mi true
  have hx3 := hx2.row ho2.2.2.2.1 rfl (by decide) (.bool true) (i := mi)
  have hfw := hq.frozen mi
  have hcw : w2.cell? ⟨bw, mi, none⟩ = some (.bool false) := by
    refine hq.cell mi _ ?_
    have : mi = 0 ∨ mi = 1 ∨ mi = 2 := by omega
    rcases this with rfl | rfl | rfl <;> rfl
  have hb3 : Beside B b w2 (w2.setCell ⟨bw, mi, none⟩ (.bool true)) := (Beside.refl B b w2).setCell (Or.inr (by have := hF.2.2.1; show B ≤ bw; omega)) _
  have x0 := hx2.cell 0 _ rfl
  have x1 := hx2.cell 1 _ rfl
  have x2 := hx2.cell 2 _ rfl
  have x3 := hx2.cell 3 _ rfl
  have x4 := hx2.cell 4 _ rfl
  have x5 := hx2.cell 5 _ rfl
  have x6 := hx2.cell 6 _ rfl
  have x7 := hx2.cell 7 _ rfl
  have x8 := hx2.cell 8 _ rfl
  have x9 := hx2.cell 9 _ rfl
  obtain ⟨w3, hw3⟩ : ∃ w3, w3 = w2.setCell ⟨bw, mi, none⟩ (.bool true) := ⟨_, rfl⟩
  have hs3 : w3.heap.size = w2.heap.size := by rw [hw3]; simp
  rw [← hw3] at ho3 hx3 hb3
  have HX3 : Hid (Box w3 b _ _) := hx3
  have HO3 : Hid (ReplOwn w3 B _ _ _ _ _ _ _) := ho3
  have HB3 : Hid (Beside B b w w3) := HB2.out.trans hb3
  have HS3 : Hid (w.heap.size ≤ w3.heap.size) := by unfold Hid; have := HS2.out; omega
  have k0 : (0 : Int) ≤ (mi : Int) := by omega
  have k1 : (mi : Int) < 3 := by omega
  rw [hmi] at x0
  simp only [row3] at x7
  have HME : Hid (R.me.toNat = mi) := emi
  have HMI : Hid (R.me = (mi : Int)) := hmi
  clear hF hx2 hb2 hl2 ho2 hq ho3 hx3 hb3 hs1 hs2 hs3 HX1 HO1 HS1 HBS emi hmi hme hme'
  go_upto_region 4 with fail
  refine wp_region_two [0, 0, 0, 0, 0, 0, 0, 0, 0, 1] (by kernel_rfl) (by kernel_rfl) ?_
  simp only [sel, ↓reduceIte, Nat.reduceEqDiff]
  repeat (go_big_quiet_step (fail))
  refine wpQuiet_nil ?_
  intro w9 hw9
  obtain ⟨nq, rfl⟩ := hw9
  go_upto_region 5 with fail
  have ew : (w2.drewN nq).setCell ⟨bw, mi, none⟩ (.bool true) = w3.drewN nq := by rw [hw3]; rfl
  rw [ew]
  clear x0 x1 x2 x3 x4 x5 x6 x7 x8 x9 ew hw3 hcw hfw
  have hx4 : Box (w3.drewN nq) b 29 [.int .i64 R.me, .int .i64 view, .int .i64 R.kept.normal, .bool false, .slice al R.kept.log.length cl, .int .i64 R.kept.commit, .slice (some ⟨bh, 0, none⟩) 3 3, .slice (some ⟨bw, 0, none⟩) 3 3, .slice (some ⟨bg, 0, none⟩) 3 3, .slice (some ⟨bn, 0, none⟩) 3 3] := HX3.out
  have x0 := hx4.cell 0 _ rfl
  have x1 := hx4.cell 1 _ rfl
  have x2 := hx4.cell 2 _ rfl
  have x3 := hx4.cell 3 _ rfl
  have x4 := hx4.cell 4 _ rfl
  have x5 := hx4.cell 5 _ rfl
  have x6 := hx4.cell 6 _ rfl
  have x7 := hx4.cell 7 _ rfl
  have x8 := hx4.cell 8 _ rfl
  have x9 := hx4.cell 9 _ rfl
  have HX4 : Hid (Box (w3.drewN nq) b _ _) := hx4
  clear hx4
  have HTA : Hid (Calls _ _ _ (w3.drewN nq) _) := toAllOf_any R.me view (.int .i64 R.kept.normal) (.bool false) (.slice al R.kept.log.length cl) (.int .i64 R.kept.commit) (.slice (some ⟨bh, 0, none⟩) 3 3) (.slice (some ⟨bw, 0, none⟩) 3 3) (.slice (some ⟨bg, 0, none⟩) 3 3) (.slice (some ⟨bn, 0, none⟩) 3 3) ⟨3, 0, 0, 0, 0, 0, 0, []⟩ (.slice none 0 0) (w3.drewN nq) (rowAt_nil _) (by simp)
  have e1 : sentTo R.me view ⟨3, 0, 0, 0, 0, 0, 0, []⟩ 3 = wantL R view := sentTo_all (wantR R view) 3 0 0 [] rfl 0 0 0 0 rfl
  rw [e1] at HTA
  simp only [msgCells] at HTA
  clear e1
  go_wp2_with fail
  refine HTA.out.mono ?_
  rintro e w4 ⟨v4, rfl, hm4, hb4⟩
  obtain ⟨a4, c4, rfl⟩ := hm4.form
  have HE : Hid (HeldAt w4 b B (wantR R view) ∧ MsgsNew w4 w.heap.size (.slice a4 (wantL R view).length c4) (wantL R view) ∧ Beside B b w w4) := by
    have hh : HeldAt (w3.drewN nq) b B (wantR R view) := by
      rw [show wantR R view = ⟨R.me, ⟨view, R.kept.normal, false, R.kept.log, R.kept.commit⟩, [0, 0, 0], [false, false, false].set mi true, [zeroKept, zeroKept, zeroKept], [false, false, false]⟩ from by unfold wantR; rw [HME.out]]
      exact ⟨_, _, _, _, _, _, HX4.out, HO3.out⟩
    have hbd : Beside B b w (w3.drewN nq) := ⟨HB3.out.os, HB3.out.tape, HB3.out.output, HB3.out.size, HB3.out.block⟩
    exact ⟨hh.below hb4, hm4.base HS3.out, hbd.far hB hb4⟩
  clear hm4 hb4 HTA x0 x1 x2 x3 x4 x5 x6 x7 x8 x9
  go_wp2_with fail
  go_ret
  exact ⟨_, rfl, HE.out⟩

end Go.Proofs.Ytmdgkjbiicaljag
