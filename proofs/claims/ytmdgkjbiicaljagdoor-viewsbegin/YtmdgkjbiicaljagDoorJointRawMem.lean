/- The walks of the laws' own small functions: picked and Op. -/
import Derived.Test.YtmdgkjbiicaljagDoorJointCodecIs
import Derived.Test.YtmdgkjbiicaljagDoorJointStageMem
import Derived.Test.YtmdgkjbiicaljagDoorJointReqsMath
import Derived.Test.YtmdgkjbiicaljagDoorShelf
import Derived.Deep.RegionLaw
import Derived.Deep.RegionWith
import Derived.BigRegion
import Derived.Lib.AppendIntMem
namespace Go.Proofs.YtmdgkjbiicaljagDoor
open Go.RowKit
set_option linter.unusedVariables false
set_option linter.unusedSimpArgs false
attribute [local go_sem] app_list ext_list get_list byteAt_zero

theorem pick_neg (n m : Int) (h : n < 0) : -(n + 1).tmod m = pickN n m := by
  rw [pickN, if_pos h, ← Int.neg_tmod, Int.tmod_eq_emod_of_nonneg (by omega)]
theorem pick_pos (n m : Int) (h : 0 ≤ n) : n % m = pickN n m := by
  rw [pickN, if_neg (by omega)]

set_option maxHeartbeats 400000 in
theorem picked_any (n m : Int) (w : World) (h0 : -9223372036854775808 ≤ n) (h1 : n ≤ 9223372036854775807) (h2 : 0 < m) (h3 : m ≤ 1073741824) :
    Calls Tryd.prog 6 #[.int .i64 n, .int .i64 m] w fun e w' => e = .returned (.int .i64 (pickN n m)) ∧ w' = w := by
  by_cases h : n < 0
  · have hz : (m == 0) = false := by simp; omega
    go_enter Tryd.func6, Tryd.ntmps6
    go_wp2
    go_ret
    exact ⟨ret_eq (congrArg (Value.int .i64) (pick_neg n m h)), rfl⟩
  · have hz : (m == 0) = false := by simp; omega
    go_enter Tryd.func6, Tryd.ntmps6
    go_wp2
    go_ret
    exact ⟨ret_eq (congrArg (Value.int .i64) (pick_pos n m (by omega))), rfl⟩

/-- The library's table of powers of ten lies there. -/
def Tab (w : World) : Prop := Lib.TabIs Tryd.prog w "internal/strconv.uint64pow10" .u64 Lib.pow10Tab
theorem Tab.below {w w' : World} (h : Tab w) (hb : Below w.heap.size w w') : Tab w' := Lib.tabBelow_of_tabIs h w' hb

theorem below_grow (w : World) (k : Nat) (os : Array Obj) : Below w.heap.size w (Sort.grow (w.drewN k) os) :=
  ⟨rfl, rfl, rfl, by simp [Sort.grow], fun i hi => by
    show (w.heap ++ os)[i]? = _
    rw [Array.getElem?_append_left hi]⟩

theorem itoa_any (n : Int) (w : World) (h0 : 0 ≤ n) (h1 : n < 1000) (ht : Tab w) :
    Calls Tryd.prog 37 #[.int .i64 n] w fun e w' => e = .returned (.string ⟨(Lib.itoa n).toArray⟩) ∧ Below w.heap.size w w' :=
  (Tryd.strconv_Itoa n (by omega) (by omega) w ht).mono fun e w' ⟨he, k, os, hw⟩ => ⟨he, by rw [hw]; exact below_grow w k os⟩

def rawCells (r : RawM) : List Value := [.int .i64 r.kind, .int .i64 r.a, .int .i64 r.b, .int .i64 r.c]
structure RawIn (r : RawM) : Prop where
  k0 : -9223372036854775808 ≤ r.kind
  k1 : r.kind ≤ 9223372036854775807
  a0 : -9223372036854775808 ≤ r.a
  a1 : r.a ≤ 9223372036854775807
  b0 : -9223372036854775808 ≤ r.b
  b1 : r.b ≤ 9223372036854775807
  c0 : -9223372036854775808 ≤ r.c
  c1 : r.c ≤ 9223372036854775807

set_option maxHeartbeats 2000000 in
theorem keepOp_write (r : RawM) (w : World) (hr : RawIn r) (ht : Tab w) (h5 : pickN r.kind 12 < 5) :
    Calls Tryd.prog 23 #[.agg (rawCells r).toArray] w fun e w' => e = .returned (.agg #[.int .i64 (opOf r).kind, .int .i64 (opOf r).place, .int .i64 (opOf r).snap, .string ⟨(opOf r).data.toArray⟩]) ∧ Below w.heap.size w w' := by
  obtain ⟨k, a, b, c⟩ := r
  simp only at *
  unfold rawCells
  have r0 := hr.k0
  have r1 := hr.k1
  have r2 := hr.a0
  have r3 := hr.a1
  have r4 := hr.b0
  have r5 := hr.b1
  simp only at r0 r1 r2 r3 r4 r5
  have ho : opOf ⟨k, a, b, c⟩ = ⟨1, pickN a 6, 0, 119 :: Go.Lib.itoa (pickN b 1000)⟩ := by unfold opOf; simp only; rw [if_pos h5]
  rw [ho]
  clear ho
  have HC := pickN_bd b 1000 (by omega)
  have hlen := itoa_len _ HC.1 HC.2
  have ht2 : Hid (∀ o1 o2, Tab ((w.alloc o1).alloc o2).drew) := fun o1 o2 => (ht.below (below_alloc2 w o1 o2)).below ((Below.refl _ _).drew)
  have HBX : Hid (∀ o1, Box ((w.alloc o1).alloc (.cells #[.int .i64 0, .int .i64 0, .int .i64 0, .string ⟨#[]⟩] 56)) (w.heap.size + 1) 56 [.int .i64 0, .int .i64 0, .int .i64 0, .string ⟨#[]⟩]) := fun o1 => by
    have := Box.new (w.alloc o1) 56 [.int .i64 0, .int .i64 0, .int .i64 0, .string ⟨#[]⟩]
    simpa using this
  go_enter Tryd.func23, Tryd.ntmps23
  go_wp2_with fail
  refine (picked_any _ _ _ r0 r1 (by omega) (by omega)).mono ?_
  rintro e w1 ⟨rfl, rfl⟩
  go_wp2_with fail
  go_region_with (first
    | (go_at_call 6
       refine (picked_any _ _ _ (by omega) (by omega) (by omega) (by omega)).mono ?_
       rintro e w1 ⟨rfl, rfl⟩)
    | (go_at_call 37
       refine (itoa_any _ _ HC.1 HC.2 (ht2.out _ _)).mono ?_
       rintro e w1 ⟨rfl, hb1⟩
       have hb2 := undrew hb1
       have B1 := (HBX.out _).below hb2 (by simp)
       have c0 := B1.cell 0 _ rfl
       have c1 := B1.cell 1 _ rfl
       have c2 := B1.cell 2 _ rfl
       have c3 := B1.cell 3 _ rfl
       have f0 := B1.frozen 0
       have f1 := B1.frozen 1
       have f2 := B1.frozen 2
       have f3 := B1.frozen 3))
  all_goals
    have HD : Hid (Below _ _ _) := (((((below_alloc2 w _ _).trans (hb2.mono (by simp <;> omega))).setCell (p := ⟨w.heap.size + 1, 0, none⟩) (by simp) (.int .i64 1)).setCell (p := ⟨w.heap.size + 1, 1, none⟩) (by simp) (.int .i64 (pickN a 6))).setCell (p := ⟨w.heap.size + 1, 2, none⟩) (by simp) (.int .i64 0)).setCell (p := ⟨w.heap.size + 1, 3, none⟩) (by simp) (.string ⟨(119 :: Lib.itoa (pickN b 1000)).toArray⟩)
    clear hb1 hb2 B1 HBX ht2
    go_wp2_with fail
    refine bodyPost_ret (v := .agg #[.int .i64 1, .int .i64 (pickN a 6), .int .i64 0, .string ⟨(119 :: Lib.itoa (pickN b 1000)).toArray⟩]) ?_ rfl ?_
    · clear HD
      simp [results, Tryd.results23, go_sem, *]
    · exact ⟨rfl, HD.out⟩

set_option maxHeartbeats 1000000 in
theorem keepOp_trim (r : RawM) (w : World) (hr : RawIn r) (ht : Tab w) (h6 : pickN r.kind 12 = 5) :
    Calls Tryd.prog 23 #[.agg (rawCells r).toArray] w fun e w' => e = .returned (.agg #[.int .i64 (opOf r).kind, .int .i64 (opOf r).place, .int .i64 (opOf r).snap, .string ⟨(opOf r).data.toArray⟩]) ∧ Below w.heap.size w w' := by
  obtain ⟨k, a, b, c⟩ := r
  simp only at *
  unfold rawCells
  have r0 := hr.k0
  have r1 := hr.k1
  have r2 := hr.a0
  have r3 := hr.a1
  have r4 := hr.b0
  have r5 := hr.b1
  simp only at r0 r1 r2 r3 r4 r5
  have ho : opOf ⟨k, a, b, c⟩ = ⟨2, pickN a 6, 0, []⟩ := by unfold opOf; simp only; rw [if_neg (by omega), if_pos h6]
  rw [ho]
  clear ho
  have q5 : (pickN k 12 == 5) = true := by simpa using h6
  have h5 : ¬ pickN k 12 < 5 := by omega
  clear h6
  go_enter Tryd.func23, Tryd.ntmps23
  go_wp2_with fail
  refine (picked_any _ _ _ r0 r1 (by omega) (by omega)).mono ?_
  rintro e w1 ⟨rfl, rfl⟩
  go_wp2_with fail
  refine (picked_any _ _ _ r2 r3 (by omega) (by omega)).mono ?_
  rintro e w1 ⟨rfl, rfl⟩
  go_wp2_with fail
  refine bodyPost_ret (v := .agg #[.int .i64 2, .int .i64 (pickN a 6), .int .i64 0, .string ⟨#[]⟩]) ?_ rfl ?_
  · simp [results, Tryd.results23, go_sem]
  · exact ⟨rfl, below_alloc2 _ _ _⟩

set_option maxHeartbeats 1000000 in
theorem keepOp_snap (r : RawM) (w : World) (hr : RawIn r) (ht : Tab w) (h7 : pickN r.kind 12 = 6) :
    Calls Tryd.prog 23 #[.agg (rawCells r).toArray] w fun e w' => e = .returned (.agg #[.int .i64 (opOf r).kind, .int .i64 (opOf r).place, .int .i64 (opOf r).snap, .string ⟨(opOf r).data.toArray⟩]) ∧ Below w.heap.size w w' := by
  obtain ⟨k, a, b, c⟩ := r
  simp only at *
  unfold rawCells
  have r0 := hr.k0
  have r1 := hr.k1
  have r2 := hr.a0
  have r3 := hr.a1
  have r4 := hr.b0
  have r5 := hr.b1
  simp only at r0 r1 r2 r3 r4 r5
  have ho : opOf ⟨k, a, b, c⟩ = ⟨4, 0, 0, []⟩ := by unfold opOf; simp only; rw [if_neg (by omega), if_neg (by omega), if_pos h7]
  rw [ho]
  clear ho
  have q5 : (pickN k 12 == 5) = false := by simp; omega
  have q6 : (pickN k 12 == 6) = true := by simpa using h7
  have h5 : ¬ pickN k 12 < 5 := by omega
  clear h7
  go_enter Tryd.func23, Tryd.ntmps23
  go_wp2_with fail
  refine (picked_any _ _ _ r0 r1 (by omega) (by omega)).mono ?_
  rintro e w1 ⟨rfl, rfl⟩
  go_wp2_with fail
  refine bodyPost_ret (v := .agg #[.int .i64 4, .int .i64 0, .int .i64 0, .string ⟨#[]⟩]) ?_ rfl ?_
  · simp [results, Tryd.results23, go_sem]
  · exact ⟨rfl, below_alloc2 _ _ _⟩

set_option maxHeartbeats 1000000 in
theorem keepOp_read (r : RawM) (w : World) (hr : RawIn r) (ht : Tab w) (h8 : 6 < pickN r.kind 12) :
    Calls Tryd.prog 23 #[.agg (rawCells r).toArray] w fun e w' => e = .returned (.agg #[.int .i64 (opOf r).kind, .int .i64 (opOf r).place, .int .i64 (opOf r).snap, .string ⟨(opOf r).data.toArray⟩]) ∧ Below w.heap.size w w' := by
  obtain ⟨k, a, b, c⟩ := r
  simp only at *
  unfold rawCells
  have r0 := hr.k0
  have r1 := hr.k1
  have r2 := hr.a0
  have r3 := hr.a1
  have r4 := hr.b0
  have r5 := hr.b1
  simp only at r0 r1 r2 r3 r4 r5
  have ho : opOf ⟨k, a, b, c⟩ = ⟨3, pickN a 6, max 0 (pickN b 6 - 2), []⟩ := by unfold opOf; simp only; rw [if_neg (by omega), if_neg (by omega), if_neg (by omega)]
  rw [ho]
  clear ho
  have q5 : (pickN k 12 == 5) = false := by simp; omega
  have q6 : (pickN k 12 == 6) = false := by simp; omega
  have h5 : ¬ pickN k 12 < 5 := by omega
  have HB := pickN_bd b 6 (by omega)
  clear h8
  go_enter Tryd.func23, Tryd.ntmps23
  go_wp2_with fail
  refine (picked_any _ _ _ r0 r1 (by omega) (by omega)).mono ?_
  rintro e w1 ⟨rfl, rfl⟩
  go_wp2_with fail
  go_region_with (first
    | (go_at_call 6
       refine (picked_any _ _ _ (by omega) (by omega) (by omega) (by omega)).mono ?_
       rintro e w1 ⟨rfl, rfl⟩))
  all_goals go_wp2_with fail
  all_goals
    have hw : IntKind.i64.wrap (pickN b 6 - 2) = pickN b 6 - 2 := IntWalk.i64_in _ ⟨by omega, by omega⟩
    rw [hw]
    refine bodyPost_ret (v := .agg #[.int .i64 3, .int .i64 (pickN a 6), .int .i64 (max 0 (pickN b 6 - 2)), .string ⟨#[]⟩]) ?_ rfl ?_
    · simp [results, Tryd.results23, go_sem]
    · exact ⟨rfl, (below_alloc2 _ _ _).drew⟩

theorem keepOp_any (r : RawM) (w : World) (hr : RawIn r) (ht : Tab w) :
    Calls Tryd.prog 23 #[.agg (rawCells r).toArray] w fun e w' => e = .returned (.agg #[.int .i64 (opOf r).kind, .int .i64 (opOf r).place, .int .i64 (opOf r).snap, .string ⟨(opOf r).data.toArray⟩]) ∧ Below w.heap.size w w' := by
  have hk := pickN_bd r.kind 12 (by omega)
  by_cases h1 : pickN r.kind 12 < 5
  · exact keepOp_write r w hr ht h1
  · by_cases h2 : pickN r.kind 12 = 5
    · exact keepOp_trim r w hr ht h2
    · by_cases h3 : pickN r.kind 12 = 6
      · exact keepOp_snap r w hr ht h3
      · exact keepOp_read r w hr ht (by omega)

end Go.Proofs.YtmdgkjbiicaljagDoor

/- Raw things in memory. -/
namespace Go.Proofs.YtmdgkjbiicaljagDoor
open Go.RowKit
set_option linter.unusedVariables false

/-- A slice of raw things. -/
def Raws (w : World) (v : Value) (l : List RawM) : Prop :=
  ∃ a cap, v = .slice a l.length cap ∧ l.length ≤ 140737488355328 ∧ ∀ i, i < l.length → ∃ b o, a = some ⟨b, o, none⟩ ∧ RawIn (l.getD i ⟨0, 0, 0, 0⟩) ∧
    w.cell? ⟨b, o + i * 4, none⟩ = some (.int .i64 (l.getD i ⟨0, 0, 0, 0⟩).kind) ∧ w.cell? ⟨b, o + i * 4 + 1, none⟩ = some (.int .i64 (l.getD i ⟨0, 0, 0, 0⟩).a) ∧
    w.cell? ⟨b, o + i * 4 + 2, none⟩ = some (.int .i64 (l.getD i ⟨0, 0, 0, 0⟩).b) ∧ w.cell? ⟨b, o + i * 4 + 3, none⟩ = some (.int .i64 (l.getD i ⟨0, 0, 0, 0⟩).c)

theorem Raws.below {w w' : World} {v : Value} {l : List RawM} (h : Raws w v l) (hb : Below w.heap.size w w') : Raws w' v l := by
  obtain ⟨a, cap, hv, hl, hc⟩ := h
  refine ⟨a, cap, hv, hl, fun i hi => ?_⟩
  obtain ⟨b, o, ha, hr, c0, c1, c2, c3⟩ := hc i hi
  have lt := lt_of_cell c0
  exact ⟨b, o, ha, hr, (hb.cell (p := ⟨b, _, none⟩) lt).trans c0, (hb.cell (p := ⟨b, _, none⟩) lt).trans c1, (hb.cell (p := ⟨b, _, none⟩) lt).trans c2, (hb.cell (p := ⟨b, _, none⟩) lt).trans c3⟩

end Go.Proofs.YtmdgkjbiicaljagDoor
