/- The walk of the law SlotsSpoilt. -/
import Derived.Test.YtdnogggadocilaeDoorKeptRaw
import Derived.Test.YtdnogggadocilaeDoorKdecGo3
import Derived.Test.YtdnogggadocilaeDoorKencGo
import Derived.Test.YtdnogggadocilaeDoorRead
import Derived.Lib.ConvBytes
import Derived.Laws.IdiomStrings
namespace Go.Proofs.YtdnogggadocilaeDoor
open Go.RowKit Go.ChangeShapes Go.WideShapes Go.ChangeAt
set_option linter.unusedVariables false
set_option linter.unusedSimpArgs false
attribute [local go_sem] app_list ext_list get_list byteAt_zero

theorem enter_kept (us : Array Value) (w : World) : (callFunc 5 us).run Tryd.prog w = .ok (.enter 5 us) w := by kernel_rfl
theorem enter_same (us : Array Value) (w : World) : (callFunc 11 us).run Tryd.prog w = .ok (.enter 11 us) w := by kernel_rfl

theorem keptNew_at' {W : World} {B : Nat} {v : Value} {K : KeptM} (hK : keptFault K = 0) (h : KeptNew W B v K) : KeptAt W v K :=
  have m := keptMay_of K hK
  h.at (by have := m.len; omega) (fun x hx => by have := decE_len x (m.log x hx); omega)

theorem toBytes (w : World) (s : ByteArray) : (convert 9 40 (.string s)).run Tryd.prog w = .ok (.slice (some ⟨w.heap.size, 0, none⟩) s.size (grownCap w s.size 0 5)) (Lib.bytesWorld w 5 s) :=
  Lib.run_convert_string_bytes w 9 40 5 s (u := .string) Tryd.underlying9 Tryd.underlying40 Tryd.underlying5
theorem bytes_frozen (w : World) (e : TypeId) (s : ByteArray) (j : Nat) (hj : j < s.size) : (Lib.bytesWorld w e s).frozen? ⟨w.heap.size, j, none⟩ = false := by
  have h := Lib.bytesWorld_at_new w e s
  have hs : s.size ≤ (Lib.bytesCells w e s).size := by simp [Lib.bytesCells]
  simp [World.frozen?, h]
  omega
theorem bytes_below (w : World) (e : TypeId) (s : ByteArray) : Below w.heap.size w (Lib.bytesWorld w e s) :=
  ⟨rfl, rfl, rfl, by rw [Lib.bytesWorld_size]; omega, fun j hj => Lib.bytesWorld_at_old w e s j hj⟩

theorem cell_set_self {w : World} {p : Addr} {v : Value} (h : w.cell? p = some v) (u : Value) : (w.setCell p u).cell? p = some u := by
  exact World.cell?_setCell_same w p u h
theorem cell_set_other {w : World} {p q : Addr} {u : Value} (h : p ≠ q) : (w.setCell q u).cell? p = w.cell? p := by
  exact World.cell?_setCell_other w q p u (Ne.symm h)

/-- A call of a Go function at a step of a region that draws its order, behind a guard that is met. -/
theorem step_go_w {P : Program} (w : World) {ops : Array Oper} {o : Oper} {a : Act} {K : Act → World → Prop} {Q : Exit → Act → World → Prop} {E : Prop} (hw : Region.wanted o (yielded ops a.tmps) = true) (f : FuncId) (args : List Operand) (ts : Array TypeId)
    (ho : o.op = .call { callee := .value (.func f), args := args.toArray, argTypes := ts }) (vs : List Value) (hv : args.map a.eval = vs) (hcf : ∀ us w, (callFunc f us).run P w = .ok (.enter f us) w) (R : Value → World → Prop)
    (hc : Calls P f vs.toArray w fun e w' => ∃ v', e = .returned v' ∧ R v' w') (h : ∀ v' w', R v' w' → K (a.put o.dst v') w') :
    if Region.wanted o (yielded ops a.tmps) = true then Oper.wp P o a w K Q else E := by
  rw [if_pos hw]
  unfold Oper.wp execOp
  simp only [ho, resolve, invoke, Act.eval, go_sem, Sem.run_bind, Sem.run_pure, Result.andThen_ok, List.map_toArray, hv]
  rw [hcf]
  unfold Oper.upon
  simp only [Array.empty_append, Array.append_empty]
  refine hc.mono ?_
  rintro e w' ⟨v', rfl, hr⟩
  exact h v' w' hr

section
variable {P : Program} {ops : Array Oper} {Q : Exit → Act → World → Prop}
/-- An operation that may come up, carried out. -/
theorem hcons (i : Nat) {d : Tmp} {v : Value} {o : Oper} {fuel : Nat} {listed : Array Bool} {a : Act} {w : World} {rs : List Nat} (ho : ops[i]? = some o) (hw : Region.wanted o (yielded ops a.tmps) = true) (hd : o.dst = some d)
    (hrun : (execOp a.eval o).run P w = .ok (.value v) w) (h : wpAny P .any ops Q fuel (listed.setIfInBounds i true) (a.put (some d) v) w) (hs : AllReady P .any ops Q fuel listed a w rs) : AllReady P .any ops Q fuel listed a w (i :: rs) :=
  AllReady.cons ho (fun K' hK => by
    rw [if_pos hw]
    unfold Oper.wp
    rw [hrun, Oper.upon_value, hd]
    exact hK _ _ h) hs
theorem hand (i : Nat) {d : Tmp} {v : Value} {o : Oper} {fuel : Nat} {listed : Array Bool} {a : Act} {w : World} (hr : Region.ready .any ops listed = [i]) (ho : ops[i]? = some o) (hw : Region.wanted o (yielded ops a.tmps) = true) (hd : o.dst = some d)
    (hrun : (execOp a.eval o).run P w = .ok (.value v) w) (h : wpAny P .any ops Q fuel (listed.setIfInBounds i true) (a.put (some d) v) w) : wpAny P .any ops Q (fuel + 1) listed a w :=
  wpAny_ready hr (by simp) (hcons i ho hw hd hrun h AllReady.nil)
/-- One that its guard passes over. -/
theorem hskip (i : Nat) {d : Tmp} {o : Oper} {fuel : Nat} {listed : Array Bool} {a : Act} {w : World} (hr : Region.ready .any ops listed = [i]) (ho : ops[i]? = some o) (hw : Region.wanted o (yielded ops a.tmps) = false) (hd : o.dst = some d)
    (h : wpAny P .any ops Q fuel (listed.setIfInBounds i true) (a.put (some d) undef) w) : wpAny P .any ops Q (fuel + 1) listed a w :=
  wpAny_ready hr (by simp) (AllReady.cons ho (fun K' hK => by
    rw [if_neg (by rw [hw]; exact Bool.false_ne_true), hd]
    exact hK _ _ h) AllReady.nil)
/-- A call of a Go function. -/
theorem hcall (i : Nat) {d : Tmp} {o : Oper} {fuel : Nat} {listed : Array Bool} {a : Act} {w : World} {rs : List Nat} (ho : ops[i]? = some o) (hw : Region.wanted o (yielded ops a.tmps) = true) (hd : o.dst = some d) (f : FuncId) (args : List Operand) (ts : Array TypeId)
    (hop : o.op = .call { callee := .value (.func f), args := args.toArray, argTypes := ts }) (vs : List Value) (hv : args.map a.eval = vs) (hcf : ∀ us w, (callFunc f us).run P w = .ok (.enter f us) w) (R : Value → World → Prop)
    (hc : Calls P f vs.toArray w fun e w' => ∃ v', e = .returned v' ∧ R v' w') (h : ∀ v' w', R v' w' → wpAny P .any ops Q fuel (listed.setIfInBounds i true) (a.put (some d) v') w') (hs : AllReady P .any ops Q fuel listed a w rs) : AllReady P .any ops Q fuel listed a w (i :: rs) :=
  AllReady.cons ho (fun K' hK => step_go_w w hw f args ts hop vs hv hcf R hc (fun v' w' hr => by
    rw [hd]
    exact hK _ _ (h v' w' hr))) hs
end
theorem run_load_kept (ρ : Operand → Value) (o : Oper) (t : Tmp) (ho : o.op = .load 25 (.tmp t)) (b : Nat) (hρ : ρ (.tmp t) = .pointer (some ⟨b, 0, none⟩)) (W : World) (c0 c1 : Int) (c2 : Bool) (c3 : Option Addr) (c4 c5 : Nat) (c6 : Int)
    (EB : Box W b 25 [.int .i64 c0, .int .i64 c1, .bool c2, .slice c3 c4 c5, .int .i64 c6]) : (execOp ρ o).run Tryd.prog W = .ok (.value (.agg #[.int .i64 c0, .int .i64 c1, .bool c2, .slice c3 c4 c5, .int .i64 c6])) W := by
  have q0 := EB.cell 0 _ rfl
  have q1 := EB.cell 1 _ rfl
  have q2 := EB.cell 2 _ rfl
  have q3 := EB.cell 3 _ rfl
  have q4 := EB.cell 4 _ rfl
  unfold execOp
  rw [ho]
  simp [hρ, go_sem, q0, q1, q2, q3, q4]

set_option maxRecDepth 10000 in
set_option maxHeartbeats 8000000 in
theorem slotsSpoilt_in (w : World) (l : List RawM) (n t : Int) (y : Int) (h0 : -9223372036854775808 ≤ n) (h1 : n ≤ 9223372036854775807) (h2 : -9223372036854775808 ≤ t) (h3 : t ≤ 9223372036854775807) (h4 : 0 ≤ y) (h5 : y ≤ 255) {v : Value} (h : Raws w v l) (ht : Tab w) :
    Calls Tryd.prog 4 #[v, .int .i64 n, .int .i64 t, .int .u8 y] w fun e w' => e = .returned (.bool true) ∧ Below w.heap.size w w' := by
  have HA : Hid (∀ W, Below w.heap.size w W → Calls _ _ _ W _) := fun W hW => keptRaw_any l n _ W (h.below hW) (ht.below hW) h0 h1
  have HFA : Hid (keptFault (keptRaw l n) = 0) := keptRaw_ok l n
  obtain ⟨a, c, rfl, _⟩ := h
  obtain ⟨A, hA⟩ : ∃ A, keptRaw l n = A := ⟨_, rfl⟩
  rw [hA] at HA HFA
  clear hA ht
  have HKA : Hid (∀ W B v, KeptNew W B v A → KeptAt W v A) := fun W B v hn => keptNew_at' HFA.out hn
  have eE : kencE A 5 = 0 := by unfold kencE; rw [if_pos HFA.out]; rfl
  have eS : kencS A 5 = keptB A 5 := by unfold kencS; rw [if_pos eE]
  have hSl := keptB_len A 5 HFA.out
  obtain ⟨k1, k2, k3, _⟩ := kept_back A 5 HFA.out (by omega)
  have hS4 : 4 ≤ (keptB A 5).length := by unfold keptB; rw [List.length_append, seal_len]; omega
  have HSP : Hid (∀ (p : Nat) (c : UInt8) (hp : p < (keptB A 5).length), c ≠ (keptB A 5)[p] → kdecE ((keptB A 5).set p c) = 11) := fun p c hp hc => kept_spoilt A 5 p c HFA.out hp hc
  have HE : Hid (∀ W v, KeptAt W v A → Calls _ _ _ W _) := fun W v hv => stageEnc_any A 5 v W hv
  have HD : Hid (∀ W, Calls _ _ _ W _) := fun W => stageDec_any (keptB A 5) W (by omega)
  rw [eE, eS] at HE
  rw [k1, k2, k3] at HD
  clear eE eS k1 k2 k3
  obtain ⟨S, hS⟩ : ∃ S, keptB A 5 = S := ⟨_, rfl⟩
  rw [hS] at HE HD hSl hS4
  have HSP' : Hid (∀ (p : Nat) (c : UInt8) (hp : p < S.length), c ≠ S[p] → kdecE (S.set p c) = 11) := by
    subst hS
    exact HSP.out
  clear hS HSP
  have kb := toBytes
  go_enter Tryd.func4, Tryd.ntmps4
  go_wp2_with fail
  refine (HA.out _ (Below.refl _ _)).mono ?_
  rintro e w1 ⟨v1, rfl, hn1, hb1⟩
  have hr1 := HKA.out _ _ _ hn1
  obtain ⟨a1, c1, rfl⟩ := hn1.form
  have HR1 : Hid (KeptAt w1 _ A) := hr1
  have HW1 : Hid (Below w.heap.size w w1) := hb1
  clear hn1 hr1 hb1
  go_wp2_with fail
  refine (HE.out _ _ HR1.out).mono ?_
  rintro e w2 ⟨rfl, hb2⟩
  have HW2 : Hid (Below w.heap.size w w2) := Below.far HW1.out hb2
  clear HE HR1 HW1 hb2
  go_wp2_with fail
  refine (HD.out _).mono ?_
  rintro e w3 ⟨v3, rfl, hn3, hb3⟩
  obtain ⟨a3, c3, rfl⟩ := hn3.form
  have B11 := Box.new w3 25 [.int .i64 A.view, .int .i64 A.normal, .bool A.calm, .slice a3 A.log.length c3, .int .i64 A.commit]
  have hw4 := Below.up (Below.far HW2.out hb3) (.cells #[.int .i64 A.view, .int .i64 A.normal, .bool A.calm, .slice a3 A.log.length c3, .int .i64 A.commit] 25)
  have hn4 := HKA.out _ _ _ (hn3.below (below_alloc w3 (.cells #[.int .i64 A.view, .int .i64 A.normal, .bool A.calm, .slice a3 A.log.length c3, .int .i64 A.commit] 25)))
  obtain ⟨w4, hw4e⟩ : ∃ w4, w4 = w3.alloc (.cells #[.int .i64 A.view, .int .i64 A.normal, .bool A.calm, .slice a3 A.log.length c3, .int .i64 A.commit] 25) := ⟨_, rfl⟩
  go_upto_region 3 with fail
  rw [← hw4e] at B11 hw4 hn4 ⊢
  obtain ⟨b11, hb11⟩ : ∃ b11, w3.heap.size = b11 := ⟨_, rfl⟩
  rw [hb11] at B11 ⊢
  have HB11 : Hid (Box w4 b11 _ _) := B11
  have HW4 : Hid (Below w.heap.size w w4) := hw4
  have HK4 : Hid (KeptAt w4 _ A) := hn4
  clear hw4e hb11 B11 hw4 hn4 hn3 hb3 HW2 HD
  have q4 : decide ((S.length : Int) < 4) = false := by simp; omega
  have hsz : (⟨S.toArray⟩ : ByteArray).size = S.length := by simp [ByteArray.size]
  go_upto_region 6 with fail
  have HCL : Hid (∀ j, j < S.length → (Lib.bytesWorld w4 5 ⟨S.toArray⟩).cell? ⟨w4.heap.size, j, none⟩ = some (.int .u8 ((S.getD j 0).toNat : Int))) := fun j hj => by
    have := Lib.bytesWorld_cell w4 5 ⟨S.toArray⟩ j (by rw [hsz]; exact hj)
    simpa using this
  have HFZ : Hid (∀ j, j < S.length → (Lib.bytesWorld w4 5 ⟨S.toArray⟩).frozen? ⟨w4.heap.size, j, none⟩ = false) := fun j hj => bytes_frozen w4 5 ⟨S.toArray⟩ j (by rw [hsz]; exact hj)
  have HW5 : Hid (Below w4.heap.size w4 (Lib.bytesWorld w4 5 ⟨S.toArray⟩)) := bytes_below _ _ _
  have HS5 : Hid ((Lib.bytesWorld w4 5 ⟨S.toArray⟩).heap.size = w4.heap.size + 1) := Lib.bytesWorld_size _ _ _
  obtain ⟨w5, hw5⟩ : ∃ w5, Lib.bytesWorld w4 5 ⟨S.toArray⟩ = w5 := ⟨_, rfl⟩
  obtain ⟨b5, hb5⟩ : ∃ b5, w4.heap.size = b5 := ⟨_, rfl⟩
  obtain ⟨cap, hcap⟩ : ∃ cap, grownCap w4 S.length 0 5 = cap := ⟨_, rfl⟩
  rw [hw5] at HCL HFZ HW5 HS5 ⊢
  rw [hcap]
  have HW5' : Hid (Below w.heap.size w w5) := Below.far HW4.out HW5.out
  have HKS : Hid (∀ i z, KeptAt (w5.setCell ⟨w4.heap.size, i, none⟩ z) _ A) := fun i z => HK4.out.below (HW5.out.setCell (p := ⟨w4.heap.size, i, none⟩) (Nat.le_refl _) z)
  have HB11' : Hid (Box w5 b11 _ _) := HB11.out.below HW5.out HB11.out.lt
  have HK5 : Hid (KeptAt w5 _ A) := HK4.out.below HW5.out
  have hge5 : w.heap.size ≤ w4.heap.size := HW4.out.size
  have hl11 : b11 < w4.heap.size := HB11.out.lt
  rw [hb5] at HCL HFZ HS5 HKS hge5 hl11 ⊢
  clear hw5 hcap HW5 HB11 HK4 HW4 kb q4 hsz
  have l5 : b5 < w5.heap.size := by have := HS5.out; omega
  have hp := pickN_bd t (S.length : Int) (by omega)
  have HPK : Hid (∀ w, Calls _ _ _ w _) := fun w => picked_any t (S.length : Int) w h2 h3 (by omega) (by omega)
  obtain ⟨q, hq⟩ : ∃ q : Nat, pickN t (S.length : Int) = (q : Int) := ⟨(pickN t (S.length : Int)).toNat, by omega⟩
  rw [hq] at HPK hp
  have hq1 : q < S.length := by omega
  have x0 := HCL.out q hq1
  have f0 := HFZ.out q hq1
  have hx := (S.getD q 0).toNat_lt
  obtain ⟨x, hxx⟩ : ∃ x : UInt8, S.getD q 0 = x := ⟨_, rfl⟩
  rw [hxx] at x0 hx
  have HGX : Hid (S.getD q 0 = x) := hxx
  have k0 : (0 : Int) ≤ (q : Int) := by omega
  have k1 : (q : Int) < (S.length : Int) := by omega
  clear hq hxx
  go_wp2_with fail
  refine (HPK.out _).mono ?_
  rintro e w6 ⟨rfl, hw6⟩
  subst hw6
  go_upto_region 7 with fail
  have hc7 : ∀ j (hj : j < (S.set q (b8 ((x.toNat : Int) + y))).length), (w6.setCell ⟨b5, q, none⟩ (.int .u8 (((x.toNat : Int) + y) % 256))).cell? ((⟨b5, 0, none⟩ : Addr).add j) = some (.int .u8 (((S.set q (b8 ((x.toNat : Int) + y)))[j]).toNat : Int)) := by
    intro j hj
    have hj' : j < S.length := by simpa using hj
    have ea : (⟨b5, 0, none⟩ : Addr).add j = ⟨b5, j, none⟩ := by simp [Addr.add]; omega
    rw [ea, List.getElem_set]
    by_cases hjq : q = j
    · subst hjq
      rw [if_pos rfl, b8_toNat]
      exact cell_set_self x0 _
    · rw [if_neg hjq, cell_set_other (by intro e; cases e; exact hjq rfl), HCL.out j hj']
      simp [List.getD, hj']
  have hcb := run_convert_bytes_back (P := Tryd.prog) (w6.setCell ⟨b5, q, none⟩ (.int .u8 (((x.toNat : Int) + y) % 256))) 40 9 5 ⟨b5, 0, none⟩ cap (S.set q (b8 ((x.toNat : Int) + y))) Tryd.underlying40 Tryd.underlying5 Tryd.underlying9 hc7
  rw [List.length_set] at hcb
  have HW7 : Hid (Below w.heap.size w _) := HW5'.out.setCell (p := ⟨b5, q, none⟩) hge5 (.int .u8 (((x.toNat : Int) + y) % 256))
  have HB7 : Hid (Box _ b11 _ _) := HB11'.out.other (a := ⟨b5, q, none⟩) (.int .u8 (((x.toNat : Int) + y) % 256)) (by simp; omega)
  have HK7 : Hid (KeptAt (w6.setCell ⟨b5, q, none⟩ (.int .u8 (((x.toNat : Int) + y) % 256))) (.agg #[.int .i64 A.view, .int .i64 A.normal, .bool A.calm, .slice a3 A.log.length c3, .int .i64 A.commit]) A) := HKS.out q _
  obtain ⟨S', hS'⟩ : ∃ S', S.set q (b8 ((x.toNat : Int) + y)) = S' := ⟨_, rfl⟩
  have hSl' : S'.length ≤ 3000 := by rw [← hS', List.length_set]; exact hSl
  have HG : Hid (y = 0 ∨ kdecE S' = 11) := by
    by_cases hy : y = 0
    · exact Or.inl hy
    · right
      rw [← hS']
      refine HSP'.out q _ hq1 ?_
      have hgx : x = S[q] := by rw [← HGX.out]; simp [List.getD, hq1]
      rw [← hgx]
      intro e
      have e2 := congrArg (fun z : UInt8 => (z.toNat : Int)) e
      simp only [b8_toNat] at e2
      have := x.toNat_lt
      omega
  have HD2 : Hid (∀ W, Calls _ _ _ W _) := fun W => stageDec_any S' W (by omega)
  generalize kdecK S' = C at HD2
  generalize kdecG S' = g2 at HD2
  rw [hS'] at hcb
  obtain ⟨E', hE'⟩ : ∃ E', kdecE S' = E' := ⟨_, rfl⟩
  rw [hE'] at HG HD2
  obtain ⟨w7, hw7⟩ : ∃ w7, w7 = w6.setCell ⟨b5, q, none⟩ (.int .u8 (((x.toNat : Int) + y) % 256)) := ⟨_, rfl⟩
  rw [← hw7] at hcb HW7 HB7 HK7 ⊢
  clear hw7 hE' hS' hc7 HCL HFZ x0 f0 HGX HSP' HPK HB11' HK5 HW5' HS5 HKS hb5 l5
  go_wp2_with fail
  refine (HD2.out _).mono ?_
  rintro e w8 ⟨v8, rfl, hn8, hb8⟩
  obtain ⟨a8, c8, rfl⟩ := hn8.form
  have HW9 : Hid (Below w.heap.size w _) := Below.up (Below.far HW7.out hb8) (.cells #[.int .i64 C.view, .int .i64 C.normal, .bool C.calm, .slice a8 C.log.length c8, .int .i64 C.commit] 25)
  have HB9 : Hid (Box _ b11 _ _) := (HB7.out.below hb8 HB7.out.lt).alloc (.cells #[.int .i64 C.view, .int .i64 C.normal, .bool C.calm, .slice a8 C.log.length c8, .int .i64 C.commit] 25)
  have HK9 : Hid (KeptAt _ _ A) := (HK7.out.below hb8).below (below_alloc w8 (.cells #[.int .i64 C.view, .int .i64 C.normal, .bool C.calm, .slice a8 C.log.length c8, .int .i64 C.commit] 25))
  obtain ⟨w9, hw9⟩ : ∃ w9, w9 = w8.alloc (.cells #[.int .i64 C.view, .int .i64 C.normal, .bool C.calm, .slice a8 C.log.length c8, .int .i64 C.commit] 25) := ⟨_, rfl⟩
  go_upto_region 8 with fail
  rw [← hw9] at HW9 HB9 HK9 ⊢
  clear hw9 hn8 hb8 HW7 HB7 HK7 HD2 hcb
  have HKP : Hid (∀ W, Below w9.heap.size w9 W → Calls Tryd.prog 5 [.slice a l.length c, .int .i64 n].toArray W fun e w' => ∃ v', e = .returned v' ∧ (KeptNew w' W.heap.size v' A ∧ Below W.heap.size W w')) := fun W hW => (HA.out W (Below.far HW9.out hW)).mono fun e w' ⟨v', he, h1, h2⟩ => ⟨v', he, h1, h2⟩
  have HSM : Hid (∀ W v', KeptAt W (.agg #[.int .i64 A.view, .int .i64 A.normal, .bool A.calm, .slice a3 A.log.length c3, .int .i64 A.commit]) A → KeptAt W v' A → Calls Tryd.prog 11 [.agg #[.int .i64 A.view, .int .i64 A.normal, .bool A.calm, .slice a3 A.log.length c3, .int .i64 A.commit], v'].toArray W fun e w' => ∃ u', e = .returned u' ∧ (u' = .bool true ∧ Below W.heap.size W w')) := fun W v' h1 h2 => (same_same A _ _ W h1 h2).mono fun e w' ⟨he, hb⟩ => ⟨_, he, rfl, hb⟩
  have r11 := HB9.out
  have x0 := r11.cell 0 _ rfl
  have x1 := r11.cell 1 _ rfl
  have x2 := r11.cell 2 _ rfl
  have x3 := r11.cell 3 _ rfl
  have x4 := r11.cell 4 _ rfl
  have l11 := r11.lt
  clear r11 HA
  have key : (y = 0 ∧ (y == 0) = true) ∨ (E' = 11 ∧ (y == 0) = false) := by
    by_cases hy : y = 0
    · exact Or.inl ⟨hy, by simp [hy]⟩
    · exact Or.inr ⟨HG.out.resolve_left hy, by simpa using hy⟩
  generalize Value.tuple #[.agg #[.int .i64 A.view, .int .i64 A.normal, .bool A.calm, .slice a3 A.log.length c3, .int .i64 A.commit], .int .i64 5, .int .i64 0] = T1
  generalize Value.agg #[.int .i64 A.view, .int .i64 A.normal, .bool A.calm, .slice a1 A.log.length c1, .int .i64 A.commit] = T2
  generalize Value.tuple #[.string ⟨S.toArray⟩, .int .i64 0] = T3
  generalize Value.string ⟨S.toArray⟩ = T4
  generalize Value.slice (some ⟨b5, 0, none⟩) S.length cap = T5
  generalize Value.agg #[.int .i64 A.view, .int .i64 A.normal, .bool A.calm, .slice a3 A.log.length c3, .int .i64 A.commit] = T6
  generalize Value.tuple #[.agg #[.int .i64 C.view, .int .i64 C.normal, .bool C.calm, .slice a8 C.log.length c8, .int .i64 C.commit], .int .i64 g2, .int .i64 E'] = T7
  generalize Value.agg #[.int .i64 C.view, .int .i64 C.normal, .bool C.calm, .slice a8 C.log.length c8, .int .i64 C.commit] = T8
  generalize Value.string ⟨S'.toArray⟩ = T9
  have HW9' : Hid (Below w.heap.size w w9) := HW9.out
  clear h0 h1 h2 h3 h4 h5 HFA hSl hS4 HW9 HG hge5 hl11 hp hq1 hx k0 k1 hSl'
  rcases key with ⟨rfl, d1⟩ | ⟨rfl, d1⟩
  · go_cut [8] (fun x wx => x = .bool true ∧ Below w9.heap.size w9 wx)
    case first =>
      refine wp_region_any (by kernel_rfl) ?_
      refine hand 0 (v := .int .i64 0) (by kernel_rfl) rfl (by kernel_rfl) rfl (by kernel_rfl) ?_
      refine hand 1 (v := .bool true) (by kernel_rfl) rfl (by kernel_rfl) rfl (by kernel_rfl) ?_
      refine hand 2 (v := .bool true) (by kernel_rfl) rfl (by kernel_rfl) rfl (by kernel_rfl) ?_
      refine hand 3 (v := .int .i64 0) (by kernel_rfl) rfl (by kernel_rfl) rfl (by kernel_rfl) ?_
      refine hand 4 (v := .bool true) (by kernel_rfl) rfl (by kernel_rfl) rfl (by kernel_rfl) ?_
      refine hand 5 (v := .bool true) (by kernel_rfl) rfl (by kernel_rfl) rfl (by kernel_rfl) ?_
      refine hand 6 (v := .bool true) (by kernel_rfl) rfl (by kernel_rfl) rfl (by kernel_rfl) ?_
      refine hand 7 (v := .int .i64 5) (by kernel_rfl) rfl (by kernel_rfl) rfl (by kernel_rfl) ?_
      refine hand 8 (v := .bool true) (by kernel_rfl) rfl (by kernel_rfl) rfl (by kernel_rfl) ?_
      refine hand 9 (v := .bool true) (by kernel_rfl) rfl (by kernel_rfl) rfl (by kernel_rfl) ?_
      refine hand 10 (v := .bool true) (by kernel_rfl) rfl (by kernel_rfl) rfl (by kernel_rfl) ?_
      refine wpAny_ready (rs := [11, 12, 13]) (by kernel_rfl) (by simp) (hcons 11 (v := .agg #[.int .i64 A.view, .int .i64 A.normal, .bool A.calm, .slice a3 A.log.length c3, .int .i64 A.commit]) rfl (by kernel_rfl) rfl (run_load_kept _ _ 11 rfl b11 (by kernel_rfl) _ _ _ _ _ _ _ _ HB9.out) ?_ (hcons 12 (v := .slice a l.length c) rfl (by kernel_rfl) rfl (by kernel_rfl) ?_ (hcons 13 (v := .int .i64 n) rfl (by kernel_rfl) rfl (by kernel_rfl) ?_ AllReady.nil)))
      · skip
        refine wpAny_ready (rs := [12, 13]) (by kernel_rfl) (by simp) (hcons 12 (v := .slice a l.length c) rfl (by kernel_rfl) rfl (by kernel_rfl) ?_ (hcons 13 (v := .int .i64 n) rfl (by kernel_rfl) rfl (by kernel_rfl) ?_ AllReady.nil))
        · skip
          refine wpAny_ready (rs := [13]) (by kernel_rfl) (by simp) (hcons 13 (v := .int .i64 n) rfl (by kernel_rfl) rfl (by kernel_rfl) ?_ AllReady.nil)
          refine wpAny_ready (rs := [14]) (by kernel_rfl) (by simp) (hcall 14 rfl (by kernel_rfl) rfl 5 [.tmp 65, .tmp 66] _ rfl _ (by kernel_rfl) enter_kept _ (HKP.out _ (below_drew_n w9 1)) (fun vA wA hA => ?_) AllReady.nil)
          · obtain ⟨hnA, hbA⟩ := hA
            have hkA := HKA.out _ _ _ hnA
            have hAU : Below w9.heap.size w9 wA := Below.far (below_drew_n w9 1) hbA
            have EA := HB9.out.below hAU HB9.out.lt
            refine wpAny_ready (rs := [15]) (by kernel_rfl) (by simp) (hcall 15 rfl (by kernel_rfl) rfl 11 [.tmp 64, .tmp 67] _ rfl _ (by kernel_rfl) enter_same _ (HSM.out _ _ (HK9.out.below hAU) hkA) (fun uS wS hS => ?_) AllReady.nil)
            obtain ⟨rfl, hbS⟩ := hS
            have hSU : Below w9.heap.size w9 wS := Below.far hAU hbS
            refine hand 16 (v := .bool true) (by kernel_rfl) rfl (by kernel_rfl) rfl (by kernel_rfl) ?_
            refine hand 17 (v := .bool true) (by kernel_rfl) rfl (by kernel_rfl) rfl (by kernel_rfl) ?_
            refine hand 18 (v := .int .u8 0) (by kernel_rfl) rfl (by kernel_rfl) rfl (by kernel_rfl) ?_
            refine hand 19 (v := .bool true) (by kernel_rfl) rfl (by kernel_rfl) rfl (by kernel_rfl) ?_
            refine hand 20 (v := .bool true) (by kernel_rfl) rfl (by kernel_rfl) rfl (by kernel_rfl) ?_
            refine hskip 21 (by kernel_rfl) rfl (by kernel_rfl) rfl ?_
            refine hskip 22 (by kernel_rfl) rfl (by kernel_rfl) rfl ?_
            refine hand 23 (v := .bool true) (by kernel_rfl) rfl (by kernel_rfl) rfl (by kernel_rfl) ?_
            refine hand 24 (v := .bool true) (by kernel_rfl) rfl (by kernel_rfl) rfl (by kernel_rfl) ?_
            refine hand 25 (v := .bool true) (by kernel_rfl) rfl (by kernel_rfl) rfl (by kernel_rfl) ?_
            refine wpAny_done (by kernel_rfl) ?_ _
            go_wp2_with fail
            go_meet
            exact ⟨rfl, hSU⟩
        · skip
          refine wpAny_ready (rs := [12]) (by kernel_rfl) (by simp) (hcons 12 (v := .slice a l.length c) rfl (by kernel_rfl) rfl (by kernel_rfl) ?_ AllReady.nil)
          refine wpAny_ready (rs := [14]) (by kernel_rfl) (by simp) (hcall 14 rfl (by kernel_rfl) rfl 5 [.tmp 65, .tmp 66] _ rfl _ (by kernel_rfl) enter_kept _ (HKP.out _ (below_drew_n w9 1)) (fun vA wA hA => ?_) AllReady.nil)
          · obtain ⟨hnA, hbA⟩ := hA
            have hkA := HKA.out _ _ _ hnA
            have hAU : Below w9.heap.size w9 wA := Below.far (below_drew_n w9 1) hbA
            have EA := HB9.out.below hAU HB9.out.lt
            refine wpAny_ready (rs := [15]) (by kernel_rfl) (by simp) (hcall 15 rfl (by kernel_rfl) rfl 11 [.tmp 64, .tmp 67] _ rfl _ (by kernel_rfl) enter_same _ (HSM.out _ _ (HK9.out.below hAU) hkA) (fun uS wS hS => ?_) AllReady.nil)
            obtain ⟨rfl, hbS⟩ := hS
            have hSU : Below w9.heap.size w9 wS := Below.far hAU hbS
            refine hand 16 (v := .bool true) (by kernel_rfl) rfl (by kernel_rfl) rfl (by kernel_rfl) ?_
            refine hand 17 (v := .bool true) (by kernel_rfl) rfl (by kernel_rfl) rfl (by kernel_rfl) ?_
            refine hand 18 (v := .int .u8 0) (by kernel_rfl) rfl (by kernel_rfl) rfl (by kernel_rfl) ?_
            refine hand 19 (v := .bool true) (by kernel_rfl) rfl (by kernel_rfl) rfl (by kernel_rfl) ?_
            refine hand 20 (v := .bool true) (by kernel_rfl) rfl (by kernel_rfl) rfl (by kernel_rfl) ?_
            refine hskip 21 (by kernel_rfl) rfl (by kernel_rfl) rfl ?_
            refine hskip 22 (by kernel_rfl) rfl (by kernel_rfl) rfl ?_
            refine hand 23 (v := .bool true) (by kernel_rfl) rfl (by kernel_rfl) rfl (by kernel_rfl) ?_
            refine hand 24 (v := .bool true) (by kernel_rfl) rfl (by kernel_rfl) rfl (by kernel_rfl) ?_
            refine hand 25 (v := .bool true) (by kernel_rfl) rfl (by kernel_rfl) rfl (by kernel_rfl) ?_
            refine wpAny_done (by kernel_rfl) ?_ _
            go_wp2_with fail
            go_meet
            exact ⟨rfl, hSU⟩
      · skip
        refine wpAny_ready (rs := [11, 13]) (by kernel_rfl) (by simp) (hcons 11 (v := .agg #[.int .i64 A.view, .int .i64 A.normal, .bool A.calm, .slice a3 A.log.length c3, .int .i64 A.commit]) rfl (by kernel_rfl) rfl (run_load_kept _ _ 11 rfl b11 (by kernel_rfl) _ _ _ _ _ _ _ _ HB9.out) ?_ (hcons 13 (v := .int .i64 n) rfl (by kernel_rfl) rfl (by kernel_rfl) ?_ AllReady.nil))
        · skip
          refine wpAny_ready (rs := [13]) (by kernel_rfl) (by simp) (hcons 13 (v := .int .i64 n) rfl (by kernel_rfl) rfl (by kernel_rfl) ?_ AllReady.nil)
          refine wpAny_ready (rs := [14]) (by kernel_rfl) (by simp) (hcall 14 rfl (by kernel_rfl) rfl 5 [.tmp 65, .tmp 66] _ rfl _ (by kernel_rfl) enter_kept _ (HKP.out _ (below_drew_n w9 1)) (fun vA wA hA => ?_) AllReady.nil)
          · obtain ⟨hnA, hbA⟩ := hA
            have hkA := HKA.out _ _ _ hnA
            have hAU : Below w9.heap.size w9 wA := Below.far (below_drew_n w9 1) hbA
            have EA := HB9.out.below hAU HB9.out.lt
            refine wpAny_ready (rs := [15]) (by kernel_rfl) (by simp) (hcall 15 rfl (by kernel_rfl) rfl 11 [.tmp 64, .tmp 67] _ rfl _ (by kernel_rfl) enter_same _ (HSM.out _ _ (HK9.out.below hAU) hkA) (fun uS wS hS => ?_) AllReady.nil)
            obtain ⟨rfl, hbS⟩ := hS
            have hSU : Below w9.heap.size w9 wS := Below.far hAU hbS
            refine hand 16 (v := .bool true) (by kernel_rfl) rfl (by kernel_rfl) rfl (by kernel_rfl) ?_
            refine hand 17 (v := .bool true) (by kernel_rfl) rfl (by kernel_rfl) rfl (by kernel_rfl) ?_
            refine hand 18 (v := .int .u8 0) (by kernel_rfl) rfl (by kernel_rfl) rfl (by kernel_rfl) ?_
            refine hand 19 (v := .bool true) (by kernel_rfl) rfl (by kernel_rfl) rfl (by kernel_rfl) ?_
            refine hand 20 (v := .bool true) (by kernel_rfl) rfl (by kernel_rfl) rfl (by kernel_rfl) ?_
            refine hskip 21 (by kernel_rfl) rfl (by kernel_rfl) rfl ?_
            refine hskip 22 (by kernel_rfl) rfl (by kernel_rfl) rfl ?_
            refine hand 23 (v := .bool true) (by kernel_rfl) rfl (by kernel_rfl) rfl (by kernel_rfl) ?_
            refine hand 24 (v := .bool true) (by kernel_rfl) rfl (by kernel_rfl) rfl (by kernel_rfl) ?_
            refine hand 25 (v := .bool true) (by kernel_rfl) rfl (by kernel_rfl) rfl (by kernel_rfl) ?_
            refine wpAny_done (by kernel_rfl) ?_ _
            go_wp2_with fail
            go_meet
            exact ⟨rfl, hSU⟩
        · skip
          refine wpAny_ready (rs := [11, 14]) (by kernel_rfl) (by simp) (hcons 11 (v := .agg #[.int .i64 A.view, .int .i64 A.normal, .bool A.calm, .slice a3 A.log.length c3, .int .i64 A.commit]) rfl (by kernel_rfl) rfl (run_load_kept _ _ 11 rfl b11 (by kernel_rfl) _ _ _ _ _ _ _ _ HB9.out) ?_ (hcall 14 rfl (by kernel_rfl) rfl 5 [.tmp 65, .tmp 66] _ rfl _ (by kernel_rfl) enter_kept _ (HKP.out _ (below_drew_n w9 1)) (fun vA wA hA => ?_) AllReady.nil))
          · skip
            refine wpAny_ready (rs := [14]) (by kernel_rfl) (by simp) (hcall 14 rfl (by kernel_rfl) rfl 5 [.tmp 65, .tmp 66] _ rfl _ (by kernel_rfl) enter_kept _ (HKP.out _ (below_drew_n w9 1)) (fun vA wA hA => ?_) AllReady.nil)
            · obtain ⟨hnA, hbA⟩ := hA
              have hkA := HKA.out _ _ _ hnA
              have hAU : Below w9.heap.size w9 wA := Below.far (below_drew_n w9 1) hbA
              have EA := HB9.out.below hAU HB9.out.lt
              refine wpAny_ready (rs := [15]) (by kernel_rfl) (by simp) (hcall 15 rfl (by kernel_rfl) rfl 11 [.tmp 64, .tmp 67] _ rfl _ (by kernel_rfl) enter_same _ (HSM.out _ _ (HK9.out.below hAU) hkA) (fun uS wS hS => ?_) AllReady.nil)
              obtain ⟨rfl, hbS⟩ := hS
              have hSU : Below w9.heap.size w9 wS := Below.far hAU hbS
              refine hand 16 (v := .bool true) (by kernel_rfl) rfl (by kernel_rfl) rfl (by kernel_rfl) ?_
              refine hand 17 (v := .bool true) (by kernel_rfl) rfl (by kernel_rfl) rfl (by kernel_rfl) ?_
              refine hand 18 (v := .int .u8 0) (by kernel_rfl) rfl (by kernel_rfl) rfl (by kernel_rfl) ?_
              refine hand 19 (v := .bool true) (by kernel_rfl) rfl (by kernel_rfl) rfl (by kernel_rfl) ?_
              refine hand 20 (v := .bool true) (by kernel_rfl) rfl (by kernel_rfl) rfl (by kernel_rfl) ?_
              refine hskip 21 (by kernel_rfl) rfl (by kernel_rfl) rfl ?_
              refine hskip 22 (by kernel_rfl) rfl (by kernel_rfl) rfl ?_
              refine hand 23 (v := .bool true) (by kernel_rfl) rfl (by kernel_rfl) rfl (by kernel_rfl) ?_
              refine hand 24 (v := .bool true) (by kernel_rfl) rfl (by kernel_rfl) rfl (by kernel_rfl) ?_
              refine hand 25 (v := .bool true) (by kernel_rfl) rfl (by kernel_rfl) rfl (by kernel_rfl) ?_
              refine wpAny_done (by kernel_rfl) ?_ _
              go_wp2_with fail
              go_meet
              exact ⟨rfl, hSU⟩
          · obtain ⟨hnA, hbA⟩ := hA
            have hkA := HKA.out _ _ _ hnA
            have hAU : Below w9.heap.size w9 wA := Below.far (below_drew_n w9 1) hbA
            have EA := HB9.out.below hAU HB9.out.lt
            refine wpAny_ready (rs := [11]) (by kernel_rfl) (by simp) (hcons 11 (v := .agg #[.int .i64 A.view, .int .i64 A.normal, .bool A.calm, .slice a3 A.log.length c3, .int .i64 A.commit]) rfl (by kernel_rfl) rfl (run_load_kept _ _ 11 rfl b11 (by kernel_rfl) _ _ _ _ _ _ _ _ EA) ?_ AllReady.nil)
            refine wpAny_ready (rs := [15]) (by kernel_rfl) (by simp) (hcall 15 rfl (by kernel_rfl) rfl 11 [.tmp 64, .tmp 67] _ rfl _ (by kernel_rfl) enter_same _ (HSM.out _ _ (HK9.out.below hAU) hkA) (fun uS wS hS => ?_) AllReady.nil)
            obtain ⟨rfl, hbS⟩ := hS
            have hSU : Below w9.heap.size w9 wS := Below.far hAU hbS
            refine hand 16 (v := .bool true) (by kernel_rfl) rfl (by kernel_rfl) rfl (by kernel_rfl) ?_
            refine hand 17 (v := .bool true) (by kernel_rfl) rfl (by kernel_rfl) rfl (by kernel_rfl) ?_
            refine hand 18 (v := .int .u8 0) (by kernel_rfl) rfl (by kernel_rfl) rfl (by kernel_rfl) ?_
            refine hand 19 (v := .bool true) (by kernel_rfl) rfl (by kernel_rfl) rfl (by kernel_rfl) ?_
            refine hand 20 (v := .bool true) (by kernel_rfl) rfl (by kernel_rfl) rfl (by kernel_rfl) ?_
            refine hskip 21 (by kernel_rfl) rfl (by kernel_rfl) rfl ?_
            refine hskip 22 (by kernel_rfl) rfl (by kernel_rfl) rfl ?_
            refine hand 23 (v := .bool true) (by kernel_rfl) rfl (by kernel_rfl) rfl (by kernel_rfl) ?_
            refine hand 24 (v := .bool true) (by kernel_rfl) rfl (by kernel_rfl) rfl (by kernel_rfl) ?_
            refine hand 25 (v := .bool true) (by kernel_rfl) rfl (by kernel_rfl) rfl (by kernel_rfl) ?_
            refine wpAny_done (by kernel_rfl) ?_ _
            go_wp2_with fail
            go_meet
            exact ⟨rfl, hSU⟩
      · skip
        refine wpAny_ready (rs := [11, 12]) (by kernel_rfl) (by simp) (hcons 11 (v := .agg #[.int .i64 A.view, .int .i64 A.normal, .bool A.calm, .slice a3 A.log.length c3, .int .i64 A.commit]) rfl (by kernel_rfl) rfl (run_load_kept _ _ 11 rfl b11 (by kernel_rfl) _ _ _ _ _ _ _ _ HB9.out) ?_ (hcons 12 (v := .slice a l.length c) rfl (by kernel_rfl) rfl (by kernel_rfl) ?_ AllReady.nil))
        · skip
          refine wpAny_ready (rs := [12]) (by kernel_rfl) (by simp) (hcons 12 (v := .slice a l.length c) rfl (by kernel_rfl) rfl (by kernel_rfl) ?_ AllReady.nil)
          refine wpAny_ready (rs := [14]) (by kernel_rfl) (by simp) (hcall 14 rfl (by kernel_rfl) rfl 5 [.tmp 65, .tmp 66] _ rfl _ (by kernel_rfl) enter_kept _ (HKP.out _ (below_drew_n w9 1)) (fun vA wA hA => ?_) AllReady.nil)
          · obtain ⟨hnA, hbA⟩ := hA
            have hkA := HKA.out _ _ _ hnA
            have hAU : Below w9.heap.size w9 wA := Below.far (below_drew_n w9 1) hbA
            have EA := HB9.out.below hAU HB9.out.lt
            refine wpAny_ready (rs := [15]) (by kernel_rfl) (by simp) (hcall 15 rfl (by kernel_rfl) rfl 11 [.tmp 64, .tmp 67] _ rfl _ (by kernel_rfl) enter_same _ (HSM.out _ _ (HK9.out.below hAU) hkA) (fun uS wS hS => ?_) AllReady.nil)
            obtain ⟨rfl, hbS⟩ := hS
            have hSU : Below w9.heap.size w9 wS := Below.far hAU hbS
            refine hand 16 (v := .bool true) (by kernel_rfl) rfl (by kernel_rfl) rfl (by kernel_rfl) ?_
            refine hand 17 (v := .bool true) (by kernel_rfl) rfl (by kernel_rfl) rfl (by kernel_rfl) ?_
            refine hand 18 (v := .int .u8 0) (by kernel_rfl) rfl (by kernel_rfl) rfl (by kernel_rfl) ?_
            refine hand 19 (v := .bool true) (by kernel_rfl) rfl (by kernel_rfl) rfl (by kernel_rfl) ?_
            refine hand 20 (v := .bool true) (by kernel_rfl) rfl (by kernel_rfl) rfl (by kernel_rfl) ?_
            refine hskip 21 (by kernel_rfl) rfl (by kernel_rfl) rfl ?_
            refine hskip 22 (by kernel_rfl) rfl (by kernel_rfl) rfl ?_
            refine hand 23 (v := .bool true) (by kernel_rfl) rfl (by kernel_rfl) rfl (by kernel_rfl) ?_
            refine hand 24 (v := .bool true) (by kernel_rfl) rfl (by kernel_rfl) rfl (by kernel_rfl) ?_
            refine hand 25 (v := .bool true) (by kernel_rfl) rfl (by kernel_rfl) rfl (by kernel_rfl) ?_
            refine wpAny_done (by kernel_rfl) ?_ _
            go_wp2_with fail
            go_meet
            exact ⟨rfl, hSU⟩
        · skip
          refine wpAny_ready (rs := [11, 14]) (by kernel_rfl) (by simp) (hcons 11 (v := .agg #[.int .i64 A.view, .int .i64 A.normal, .bool A.calm, .slice a3 A.log.length c3, .int .i64 A.commit]) rfl (by kernel_rfl) rfl (run_load_kept _ _ 11 rfl b11 (by kernel_rfl) _ _ _ _ _ _ _ _ HB9.out) ?_ (hcall 14 rfl (by kernel_rfl) rfl 5 [.tmp 65, .tmp 66] _ rfl _ (by kernel_rfl) enter_kept _ (HKP.out _ (below_drew_n w9 1)) (fun vA wA hA => ?_) AllReady.nil))
          · skip
            refine wpAny_ready (rs := [14]) (by kernel_rfl) (by simp) (hcall 14 rfl (by kernel_rfl) rfl 5 [.tmp 65, .tmp 66] _ rfl _ (by kernel_rfl) enter_kept _ (HKP.out _ (below_drew_n w9 1)) (fun vA wA hA => ?_) AllReady.nil)
            · obtain ⟨hnA, hbA⟩ := hA
              have hkA := HKA.out _ _ _ hnA
              have hAU : Below w9.heap.size w9 wA := Below.far (below_drew_n w9 1) hbA
              have EA := HB9.out.below hAU HB9.out.lt
              refine wpAny_ready (rs := [15]) (by kernel_rfl) (by simp) (hcall 15 rfl (by kernel_rfl) rfl 11 [.tmp 64, .tmp 67] _ rfl _ (by kernel_rfl) enter_same _ (HSM.out _ _ (HK9.out.below hAU) hkA) (fun uS wS hS => ?_) AllReady.nil)
              obtain ⟨rfl, hbS⟩ := hS
              have hSU : Below w9.heap.size w9 wS := Below.far hAU hbS
              refine hand 16 (v := .bool true) (by kernel_rfl) rfl (by kernel_rfl) rfl (by kernel_rfl) ?_
              refine hand 17 (v := .bool true) (by kernel_rfl) rfl (by kernel_rfl) rfl (by kernel_rfl) ?_
              refine hand 18 (v := .int .u8 0) (by kernel_rfl) rfl (by kernel_rfl) rfl (by kernel_rfl) ?_
              refine hand 19 (v := .bool true) (by kernel_rfl) rfl (by kernel_rfl) rfl (by kernel_rfl) ?_
              refine hand 20 (v := .bool true) (by kernel_rfl) rfl (by kernel_rfl) rfl (by kernel_rfl) ?_
              refine hskip 21 (by kernel_rfl) rfl (by kernel_rfl) rfl ?_
              refine hskip 22 (by kernel_rfl) rfl (by kernel_rfl) rfl ?_
              refine hand 23 (v := .bool true) (by kernel_rfl) rfl (by kernel_rfl) rfl (by kernel_rfl) ?_
              refine hand 24 (v := .bool true) (by kernel_rfl) rfl (by kernel_rfl) rfl (by kernel_rfl) ?_
              refine hand 25 (v := .bool true) (by kernel_rfl) rfl (by kernel_rfl) rfl (by kernel_rfl) ?_
              refine wpAny_done (by kernel_rfl) ?_ _
              go_wp2_with fail
              go_meet
              exact ⟨rfl, hSU⟩
          · obtain ⟨hnA, hbA⟩ := hA
            have hkA := HKA.out _ _ _ hnA
            have hAU : Below w9.heap.size w9 wA := Below.far (below_drew_n w9 1) hbA
            have EA := HB9.out.below hAU HB9.out.lt
            refine wpAny_ready (rs := [11]) (by kernel_rfl) (by simp) (hcons 11 (v := .agg #[.int .i64 A.view, .int .i64 A.normal, .bool A.calm, .slice a3 A.log.length c3, .int .i64 A.commit]) rfl (by kernel_rfl) rfl (run_load_kept _ _ 11 rfl b11 (by kernel_rfl) _ _ _ _ _ _ _ _ EA) ?_ AllReady.nil)
            refine wpAny_ready (rs := [15]) (by kernel_rfl) (by simp) (hcall 15 rfl (by kernel_rfl) rfl 11 [.tmp 64, .tmp 67] _ rfl _ (by kernel_rfl) enter_same _ (HSM.out _ _ (HK9.out.below hAU) hkA) (fun uS wS hS => ?_) AllReady.nil)
            obtain ⟨rfl, hbS⟩ := hS
            have hSU : Below w9.heap.size w9 wS := Below.far hAU hbS
            refine hand 16 (v := .bool true) (by kernel_rfl) rfl (by kernel_rfl) rfl (by kernel_rfl) ?_
            refine hand 17 (v := .bool true) (by kernel_rfl) rfl (by kernel_rfl) rfl (by kernel_rfl) ?_
            refine hand 18 (v := .int .u8 0) (by kernel_rfl) rfl (by kernel_rfl) rfl (by kernel_rfl) ?_
            refine hand 19 (v := .bool true) (by kernel_rfl) rfl (by kernel_rfl) rfl (by kernel_rfl) ?_
            refine hand 20 (v := .bool true) (by kernel_rfl) rfl (by kernel_rfl) rfl (by kernel_rfl) ?_
            refine hskip 21 (by kernel_rfl) rfl (by kernel_rfl) rfl ?_
            refine hskip 22 (by kernel_rfl) rfl (by kernel_rfl) rfl ?_
            refine hand 23 (v := .bool true) (by kernel_rfl) rfl (by kernel_rfl) rfl (by kernel_rfl) ?_
            refine hand 24 (v := .bool true) (by kernel_rfl) rfl (by kernel_rfl) rfl (by kernel_rfl) ?_
            refine hand 25 (v := .bool true) (by kernel_rfl) rfl (by kernel_rfl) rfl (by kernel_rfl) ?_
            refine wpAny_done (by kernel_rfl) ?_ _
            go_wp2_with fail
            go_meet
            exact ⟨rfl, hSU⟩
    case rest =>
      obtain ⟨rfl, hbZ⟩ := hcut
      have HZ : Hid (Below w.heap.size w wc) := Below.far HW9'.out hbZ
      clear hbZ
      go_wp2_with fail
      go_ret
      exact ⟨rfl, HZ.out⟩
  · go_cut [8] (fun x wx => x = .bool true ∧ Below w9.heap.size w9 wx)
    case first =>
      refine wp_region_any (by kernel_rfl) ?_
      refine hand 0 (v := .int .i64 0) (by kernel_rfl) rfl (by kernel_rfl) rfl (by kernel_rfl) ?_
      refine hand 1 (v := .bool true) (by kernel_rfl) rfl (by kernel_rfl) rfl (by kernel_rfl) ?_
      refine hand 2 (v := .bool true) (by kernel_rfl) rfl (by kernel_rfl) rfl (by kernel_rfl) ?_
      refine hand 3 (v := .int .i64 0) (by kernel_rfl) rfl (by kernel_rfl) rfl (by kernel_rfl) ?_
      refine hand 4 (v := .bool true) (by kernel_rfl) rfl (by kernel_rfl) rfl (by kernel_rfl) ?_
      refine hand 5 (v := .bool true) (by kernel_rfl) rfl (by kernel_rfl) rfl (by kernel_rfl) ?_
      refine hand 6 (v := .bool true) (by kernel_rfl) rfl (by kernel_rfl) rfl (by kernel_rfl) ?_
      refine hand 7 (v := .int .i64 5) (by kernel_rfl) rfl (by kernel_rfl) rfl (by kernel_rfl) ?_
      refine hand 8 (v := .bool true) (by kernel_rfl) rfl (by kernel_rfl) rfl (by kernel_rfl) ?_
      refine hand 9 (v := .bool true) (by kernel_rfl) rfl (by kernel_rfl) rfl (by kernel_rfl) ?_
      refine hand 10 (v := .bool true) (by kernel_rfl) rfl (by kernel_rfl) rfl (by kernel_rfl) ?_
      refine wpAny_ready (rs := [11, 12, 13]) (by kernel_rfl) (by simp) (hcons 11 (v := .agg #[.int .i64 A.view, .int .i64 A.normal, .bool A.calm, .slice a3 A.log.length c3, .int .i64 A.commit]) rfl (by kernel_rfl) rfl (run_load_kept _ _ 11 rfl b11 (by kernel_rfl) _ _ _ _ _ _ _ _ HB9.out) ?_ (hcons 12 (v := .slice a l.length c) rfl (by kernel_rfl) rfl (by kernel_rfl) ?_ (hcons 13 (v := .int .i64 n) rfl (by kernel_rfl) rfl (by kernel_rfl) ?_ AllReady.nil)))
      · skip
        refine wpAny_ready (rs := [12, 13]) (by kernel_rfl) (by simp) (hcons 12 (v := .slice a l.length c) rfl (by kernel_rfl) rfl (by kernel_rfl) ?_ (hcons 13 (v := .int .i64 n) rfl (by kernel_rfl) rfl (by kernel_rfl) ?_ AllReady.nil))
        · skip
          refine wpAny_ready (rs := [13]) (by kernel_rfl) (by simp) (hcons 13 (v := .int .i64 n) rfl (by kernel_rfl) rfl (by kernel_rfl) ?_ AllReady.nil)
          refine wpAny_ready (rs := [14]) (by kernel_rfl) (by simp) (hcall 14 rfl (by kernel_rfl) rfl 5 [.tmp 65, .tmp 66] _ rfl _ (by kernel_rfl) enter_kept _ (HKP.out _ (below_drew_n w9 1)) (fun vA wA hA => ?_) AllReady.nil)
          · obtain ⟨hnA, hbA⟩ := hA
            have hkA := HKA.out _ _ _ hnA
            have hAU : Below w9.heap.size w9 wA := Below.far (below_drew_n w9 1) hbA
            have EA := HB9.out.below hAU HB9.out.lt
            refine wpAny_ready (rs := [15]) (by kernel_rfl) (by simp) (hcall 15 rfl (by kernel_rfl) rfl 11 [.tmp 64, .tmp 67] _ rfl _ (by kernel_rfl) enter_same _ (HSM.out _ _ (HK9.out.below hAU) hkA) (fun uS wS hS => ?_) AllReady.nil)
            obtain ⟨rfl, hbS⟩ := hS
            have hSU : Below w9.heap.size w9 wS := Below.far hAU hbS
            refine hand 16 (v := .bool true) (by kernel_rfl) rfl (by kernel_rfl) rfl (by kernel_rfl) ?_
            refine hand 17 (v := .bool true) (by kernel_rfl) rfl (by kernel_rfl) rfl (by kernel_rfl) ?_
            refine hand 18 (v := .int .u8 y) (by kernel_rfl) rfl (by kernel_rfl) rfl (by kernel_rfl) ?_
            refine hand 19 (v := .bool false) (by kernel_rfl) rfl (by kernel_rfl) rfl (Eq.trans (b := Result.ok (.value (.bool (y == 0))) _) (by kernel_rfl) (by rw [d1])) ?_
            refine hand 20 (v := .bool false) (by kernel_rfl) rfl (by kernel_rfl) rfl (by kernel_rfl) ?_
            refine hand 21 (v := .int .i64 11) (by kernel_rfl) rfl (by kernel_rfl) rfl (by kernel_rfl) ?_
            refine hand 22 (v := .bool true) (by kernel_rfl) rfl (by kernel_rfl) rfl (by kernel_rfl) ?_
            refine hand 23 (v := .bool true) (by kernel_rfl) rfl (by kernel_rfl) rfl (by kernel_rfl) ?_
            refine hand 24 (v := .bool true) (by kernel_rfl) rfl (by kernel_rfl) rfl (by kernel_rfl) ?_
            refine hand 25 (v := .bool true) (by kernel_rfl) rfl (by kernel_rfl) rfl (by kernel_rfl) ?_
            refine wpAny_done (by kernel_rfl) ?_ _
            go_wp2_with fail
            go_meet
            exact ⟨rfl, hSU⟩
        · skip
          refine wpAny_ready (rs := [12]) (by kernel_rfl) (by simp) (hcons 12 (v := .slice a l.length c) rfl (by kernel_rfl) rfl (by kernel_rfl) ?_ AllReady.nil)
          refine wpAny_ready (rs := [14]) (by kernel_rfl) (by simp) (hcall 14 rfl (by kernel_rfl) rfl 5 [.tmp 65, .tmp 66] _ rfl _ (by kernel_rfl) enter_kept _ (HKP.out _ (below_drew_n w9 1)) (fun vA wA hA => ?_) AllReady.nil)
          · obtain ⟨hnA, hbA⟩ := hA
            have hkA := HKA.out _ _ _ hnA
            have hAU : Below w9.heap.size w9 wA := Below.far (below_drew_n w9 1) hbA
            have EA := HB9.out.below hAU HB9.out.lt
            refine wpAny_ready (rs := [15]) (by kernel_rfl) (by simp) (hcall 15 rfl (by kernel_rfl) rfl 11 [.tmp 64, .tmp 67] _ rfl _ (by kernel_rfl) enter_same _ (HSM.out _ _ (HK9.out.below hAU) hkA) (fun uS wS hS => ?_) AllReady.nil)
            obtain ⟨rfl, hbS⟩ := hS
            have hSU : Below w9.heap.size w9 wS := Below.far hAU hbS
            refine hand 16 (v := .bool true) (by kernel_rfl) rfl (by kernel_rfl) rfl (by kernel_rfl) ?_
            refine hand 17 (v := .bool true) (by kernel_rfl) rfl (by kernel_rfl) rfl (by kernel_rfl) ?_
            refine hand 18 (v := .int .u8 y) (by kernel_rfl) rfl (by kernel_rfl) rfl (by kernel_rfl) ?_
            refine hand 19 (v := .bool false) (by kernel_rfl) rfl (by kernel_rfl) rfl (Eq.trans (b := Result.ok (.value (.bool (y == 0))) _) (by kernel_rfl) (by rw [d1])) ?_
            refine hand 20 (v := .bool false) (by kernel_rfl) rfl (by kernel_rfl) rfl (by kernel_rfl) ?_
            refine hand 21 (v := .int .i64 11) (by kernel_rfl) rfl (by kernel_rfl) rfl (by kernel_rfl) ?_
            refine hand 22 (v := .bool true) (by kernel_rfl) rfl (by kernel_rfl) rfl (by kernel_rfl) ?_
            refine hand 23 (v := .bool true) (by kernel_rfl) rfl (by kernel_rfl) rfl (by kernel_rfl) ?_
            refine hand 24 (v := .bool true) (by kernel_rfl) rfl (by kernel_rfl) rfl (by kernel_rfl) ?_
            refine hand 25 (v := .bool true) (by kernel_rfl) rfl (by kernel_rfl) rfl (by kernel_rfl) ?_
            refine wpAny_done (by kernel_rfl) ?_ _
            go_wp2_with fail
            go_meet
            exact ⟨rfl, hSU⟩
      · skip
        refine wpAny_ready (rs := [11, 13]) (by kernel_rfl) (by simp) (hcons 11 (v := .agg #[.int .i64 A.view, .int .i64 A.normal, .bool A.calm, .slice a3 A.log.length c3, .int .i64 A.commit]) rfl (by kernel_rfl) rfl (run_load_kept _ _ 11 rfl b11 (by kernel_rfl) _ _ _ _ _ _ _ _ HB9.out) ?_ (hcons 13 (v := .int .i64 n) rfl (by kernel_rfl) rfl (by kernel_rfl) ?_ AllReady.nil))
        · skip
          refine wpAny_ready (rs := [13]) (by kernel_rfl) (by simp) (hcons 13 (v := .int .i64 n) rfl (by kernel_rfl) rfl (by kernel_rfl) ?_ AllReady.nil)
          refine wpAny_ready (rs := [14]) (by kernel_rfl) (by simp) (hcall 14 rfl (by kernel_rfl) rfl 5 [.tmp 65, .tmp 66] _ rfl _ (by kernel_rfl) enter_kept _ (HKP.out _ (below_drew_n w9 1)) (fun vA wA hA => ?_) AllReady.nil)
          · obtain ⟨hnA, hbA⟩ := hA
            have hkA := HKA.out _ _ _ hnA
            have hAU : Below w9.heap.size w9 wA := Below.far (below_drew_n w9 1) hbA
            have EA := HB9.out.below hAU HB9.out.lt
            refine wpAny_ready (rs := [15]) (by kernel_rfl) (by simp) (hcall 15 rfl (by kernel_rfl) rfl 11 [.tmp 64, .tmp 67] _ rfl _ (by kernel_rfl) enter_same _ (HSM.out _ _ (HK9.out.below hAU) hkA) (fun uS wS hS => ?_) AllReady.nil)
            obtain ⟨rfl, hbS⟩ := hS
            have hSU : Below w9.heap.size w9 wS := Below.far hAU hbS
            refine hand 16 (v := .bool true) (by kernel_rfl) rfl (by kernel_rfl) rfl (by kernel_rfl) ?_
            refine hand 17 (v := .bool true) (by kernel_rfl) rfl (by kernel_rfl) rfl (by kernel_rfl) ?_
            refine hand 18 (v := .int .u8 y) (by kernel_rfl) rfl (by kernel_rfl) rfl (by kernel_rfl) ?_
            refine hand 19 (v := .bool false) (by kernel_rfl) rfl (by kernel_rfl) rfl (Eq.trans (b := Result.ok (.value (.bool (y == 0))) _) (by kernel_rfl) (by rw [d1])) ?_
            refine hand 20 (v := .bool false) (by kernel_rfl) rfl (by kernel_rfl) rfl (by kernel_rfl) ?_
            refine hand 21 (v := .int .i64 11) (by kernel_rfl) rfl (by kernel_rfl) rfl (by kernel_rfl) ?_
            refine hand 22 (v := .bool true) (by kernel_rfl) rfl (by kernel_rfl) rfl (by kernel_rfl) ?_
            refine hand 23 (v := .bool true) (by kernel_rfl) rfl (by kernel_rfl) rfl (by kernel_rfl) ?_
            refine hand 24 (v := .bool true) (by kernel_rfl) rfl (by kernel_rfl) rfl (by kernel_rfl) ?_
            refine hand 25 (v := .bool true) (by kernel_rfl) rfl (by kernel_rfl) rfl (by kernel_rfl) ?_
            refine wpAny_done (by kernel_rfl) ?_ _
            go_wp2_with fail
            go_meet
            exact ⟨rfl, hSU⟩
        · skip
          refine wpAny_ready (rs := [11, 14]) (by kernel_rfl) (by simp) (hcons 11 (v := .agg #[.int .i64 A.view, .int .i64 A.normal, .bool A.calm, .slice a3 A.log.length c3, .int .i64 A.commit]) rfl (by kernel_rfl) rfl (run_load_kept _ _ 11 rfl b11 (by kernel_rfl) _ _ _ _ _ _ _ _ HB9.out) ?_ (hcall 14 rfl (by kernel_rfl) rfl 5 [.tmp 65, .tmp 66] _ rfl _ (by kernel_rfl) enter_kept _ (HKP.out _ (below_drew_n w9 1)) (fun vA wA hA => ?_) AllReady.nil))
          · skip
            refine wpAny_ready (rs := [14]) (by kernel_rfl) (by simp) (hcall 14 rfl (by kernel_rfl) rfl 5 [.tmp 65, .tmp 66] _ rfl _ (by kernel_rfl) enter_kept _ (HKP.out _ (below_drew_n w9 1)) (fun vA wA hA => ?_) AllReady.nil)
            · obtain ⟨hnA, hbA⟩ := hA
              have hkA := HKA.out _ _ _ hnA
              have hAU : Below w9.heap.size w9 wA := Below.far (below_drew_n w9 1) hbA
              have EA := HB9.out.below hAU HB9.out.lt
              refine wpAny_ready (rs := [15]) (by kernel_rfl) (by simp) (hcall 15 rfl (by kernel_rfl) rfl 11 [.tmp 64, .tmp 67] _ rfl _ (by kernel_rfl) enter_same _ (HSM.out _ _ (HK9.out.below hAU) hkA) (fun uS wS hS => ?_) AllReady.nil)
              obtain ⟨rfl, hbS⟩ := hS
              have hSU : Below w9.heap.size w9 wS := Below.far hAU hbS
              refine hand 16 (v := .bool true) (by kernel_rfl) rfl (by kernel_rfl) rfl (by kernel_rfl) ?_
              refine hand 17 (v := .bool true) (by kernel_rfl) rfl (by kernel_rfl) rfl (by kernel_rfl) ?_
              refine hand 18 (v := .int .u8 y) (by kernel_rfl) rfl (by kernel_rfl) rfl (by kernel_rfl) ?_
              refine hand 19 (v := .bool false) (by kernel_rfl) rfl (by kernel_rfl) rfl (Eq.trans (b := Result.ok (.value (.bool (y == 0))) _) (by kernel_rfl) (by rw [d1])) ?_
              refine hand 20 (v := .bool false) (by kernel_rfl) rfl (by kernel_rfl) rfl (by kernel_rfl) ?_
              refine hand 21 (v := .int .i64 11) (by kernel_rfl) rfl (by kernel_rfl) rfl (by kernel_rfl) ?_
              refine hand 22 (v := .bool true) (by kernel_rfl) rfl (by kernel_rfl) rfl (by kernel_rfl) ?_
              refine hand 23 (v := .bool true) (by kernel_rfl) rfl (by kernel_rfl) rfl (by kernel_rfl) ?_
              refine hand 24 (v := .bool true) (by kernel_rfl) rfl (by kernel_rfl) rfl (by kernel_rfl) ?_
              refine hand 25 (v := .bool true) (by kernel_rfl) rfl (by kernel_rfl) rfl (by kernel_rfl) ?_
              refine wpAny_done (by kernel_rfl) ?_ _
              go_wp2_with fail
              go_meet
              exact ⟨rfl, hSU⟩
          · obtain ⟨hnA, hbA⟩ := hA
            have hkA := HKA.out _ _ _ hnA
            have hAU : Below w9.heap.size w9 wA := Below.far (below_drew_n w9 1) hbA
            have EA := HB9.out.below hAU HB9.out.lt
            refine wpAny_ready (rs := [11]) (by kernel_rfl) (by simp) (hcons 11 (v := .agg #[.int .i64 A.view, .int .i64 A.normal, .bool A.calm, .slice a3 A.log.length c3, .int .i64 A.commit]) rfl (by kernel_rfl) rfl (run_load_kept _ _ 11 rfl b11 (by kernel_rfl) _ _ _ _ _ _ _ _ EA) ?_ AllReady.nil)
            refine wpAny_ready (rs := [15]) (by kernel_rfl) (by simp) (hcall 15 rfl (by kernel_rfl) rfl 11 [.tmp 64, .tmp 67] _ rfl _ (by kernel_rfl) enter_same _ (HSM.out _ _ (HK9.out.below hAU) hkA) (fun uS wS hS => ?_) AllReady.nil)
            obtain ⟨rfl, hbS⟩ := hS
            have hSU : Below w9.heap.size w9 wS := Below.far hAU hbS
            refine hand 16 (v := .bool true) (by kernel_rfl) rfl (by kernel_rfl) rfl (by kernel_rfl) ?_
            refine hand 17 (v := .bool true) (by kernel_rfl) rfl (by kernel_rfl) rfl (by kernel_rfl) ?_
            refine hand 18 (v := .int .u8 y) (by kernel_rfl) rfl (by kernel_rfl) rfl (by kernel_rfl) ?_
            refine hand 19 (v := .bool false) (by kernel_rfl) rfl (by kernel_rfl) rfl (Eq.trans (b := Result.ok (.value (.bool (y == 0))) _) (by kernel_rfl) (by rw [d1])) ?_
            refine hand 20 (v := .bool false) (by kernel_rfl) rfl (by kernel_rfl) rfl (by kernel_rfl) ?_
            refine hand 21 (v := .int .i64 11) (by kernel_rfl) rfl (by kernel_rfl) rfl (by kernel_rfl) ?_
            refine hand 22 (v := .bool true) (by kernel_rfl) rfl (by kernel_rfl) rfl (by kernel_rfl) ?_
            refine hand 23 (v := .bool true) (by kernel_rfl) rfl (by kernel_rfl) rfl (by kernel_rfl) ?_
            refine hand 24 (v := .bool true) (by kernel_rfl) rfl (by kernel_rfl) rfl (by kernel_rfl) ?_
            refine hand 25 (v := .bool true) (by kernel_rfl) rfl (by kernel_rfl) rfl (by kernel_rfl) ?_
            refine wpAny_done (by kernel_rfl) ?_ _
            go_wp2_with fail
            go_meet
            exact ⟨rfl, hSU⟩
      · skip
        refine wpAny_ready (rs := [11, 12]) (by kernel_rfl) (by simp) (hcons 11 (v := .agg #[.int .i64 A.view, .int .i64 A.normal, .bool A.calm, .slice a3 A.log.length c3, .int .i64 A.commit]) rfl (by kernel_rfl) rfl (run_load_kept _ _ 11 rfl b11 (by kernel_rfl) _ _ _ _ _ _ _ _ HB9.out) ?_ (hcons 12 (v := .slice a l.length c) rfl (by kernel_rfl) rfl (by kernel_rfl) ?_ AllReady.nil))
        · skip
          refine wpAny_ready (rs := [12]) (by kernel_rfl) (by simp) (hcons 12 (v := .slice a l.length c) rfl (by kernel_rfl) rfl (by kernel_rfl) ?_ AllReady.nil)
          refine wpAny_ready (rs := [14]) (by kernel_rfl) (by simp) (hcall 14 rfl (by kernel_rfl) rfl 5 [.tmp 65, .tmp 66] _ rfl _ (by kernel_rfl) enter_kept _ (HKP.out _ (below_drew_n w9 1)) (fun vA wA hA => ?_) AllReady.nil)
          · obtain ⟨hnA, hbA⟩ := hA
            have hkA := HKA.out _ _ _ hnA
            have hAU : Below w9.heap.size w9 wA := Below.far (below_drew_n w9 1) hbA
            have EA := HB9.out.below hAU HB9.out.lt
            refine wpAny_ready (rs := [15]) (by kernel_rfl) (by simp) (hcall 15 rfl (by kernel_rfl) rfl 11 [.tmp 64, .tmp 67] _ rfl _ (by kernel_rfl) enter_same _ (HSM.out _ _ (HK9.out.below hAU) hkA) (fun uS wS hS => ?_) AllReady.nil)
            obtain ⟨rfl, hbS⟩ := hS
            have hSU : Below w9.heap.size w9 wS := Below.far hAU hbS
            refine hand 16 (v := .bool true) (by kernel_rfl) rfl (by kernel_rfl) rfl (by kernel_rfl) ?_
            refine hand 17 (v := .bool true) (by kernel_rfl) rfl (by kernel_rfl) rfl (by kernel_rfl) ?_
            refine hand 18 (v := .int .u8 y) (by kernel_rfl) rfl (by kernel_rfl) rfl (by kernel_rfl) ?_
            refine hand 19 (v := .bool false) (by kernel_rfl) rfl (by kernel_rfl) rfl (Eq.trans (b := Result.ok (.value (.bool (y == 0))) _) (by kernel_rfl) (by rw [d1])) ?_
            refine hand 20 (v := .bool false) (by kernel_rfl) rfl (by kernel_rfl) rfl (by kernel_rfl) ?_
            refine hand 21 (v := .int .i64 11) (by kernel_rfl) rfl (by kernel_rfl) rfl (by kernel_rfl) ?_
            refine hand 22 (v := .bool true) (by kernel_rfl) rfl (by kernel_rfl) rfl (by kernel_rfl) ?_
            refine hand 23 (v := .bool true) (by kernel_rfl) rfl (by kernel_rfl) rfl (by kernel_rfl) ?_
            refine hand 24 (v := .bool true) (by kernel_rfl) rfl (by kernel_rfl) rfl (by kernel_rfl) ?_
            refine hand 25 (v := .bool true) (by kernel_rfl) rfl (by kernel_rfl) rfl (by kernel_rfl) ?_
            refine wpAny_done (by kernel_rfl) ?_ _
            go_wp2_with fail
            go_meet
            exact ⟨rfl, hSU⟩
        · skip
          refine wpAny_ready (rs := [11, 14]) (by kernel_rfl) (by simp) (hcons 11 (v := .agg #[.int .i64 A.view, .int .i64 A.normal, .bool A.calm, .slice a3 A.log.length c3, .int .i64 A.commit]) rfl (by kernel_rfl) rfl (run_load_kept _ _ 11 rfl b11 (by kernel_rfl) _ _ _ _ _ _ _ _ HB9.out) ?_ (hcall 14 rfl (by kernel_rfl) rfl 5 [.tmp 65, .tmp 66] _ rfl _ (by kernel_rfl) enter_kept _ (HKP.out _ (below_drew_n w9 1)) (fun vA wA hA => ?_) AllReady.nil))
          · skip
            refine wpAny_ready (rs := [14]) (by kernel_rfl) (by simp) (hcall 14 rfl (by kernel_rfl) rfl 5 [.tmp 65, .tmp 66] _ rfl _ (by kernel_rfl) enter_kept _ (HKP.out _ (below_drew_n w9 1)) (fun vA wA hA => ?_) AllReady.nil)
            · obtain ⟨hnA, hbA⟩ := hA
              have hkA := HKA.out _ _ _ hnA
              have hAU : Below w9.heap.size w9 wA := Below.far (below_drew_n w9 1) hbA
              have EA := HB9.out.below hAU HB9.out.lt
              refine wpAny_ready (rs := [15]) (by kernel_rfl) (by simp) (hcall 15 rfl (by kernel_rfl) rfl 11 [.tmp 64, .tmp 67] _ rfl _ (by kernel_rfl) enter_same _ (HSM.out _ _ (HK9.out.below hAU) hkA) (fun uS wS hS => ?_) AllReady.nil)
              obtain ⟨rfl, hbS⟩ := hS
              have hSU : Below w9.heap.size w9 wS := Below.far hAU hbS
              refine hand 16 (v := .bool true) (by kernel_rfl) rfl (by kernel_rfl) rfl (by kernel_rfl) ?_
              refine hand 17 (v := .bool true) (by kernel_rfl) rfl (by kernel_rfl) rfl (by kernel_rfl) ?_
              refine hand 18 (v := .int .u8 y) (by kernel_rfl) rfl (by kernel_rfl) rfl (by kernel_rfl) ?_
              refine hand 19 (v := .bool false) (by kernel_rfl) rfl (by kernel_rfl) rfl (Eq.trans (b := Result.ok (.value (.bool (y == 0))) _) (by kernel_rfl) (by rw [d1])) ?_
              refine hand 20 (v := .bool false) (by kernel_rfl) rfl (by kernel_rfl) rfl (by kernel_rfl) ?_
              refine hand 21 (v := .int .i64 11) (by kernel_rfl) rfl (by kernel_rfl) rfl (by kernel_rfl) ?_
              refine hand 22 (v := .bool true) (by kernel_rfl) rfl (by kernel_rfl) rfl (by kernel_rfl) ?_
              refine hand 23 (v := .bool true) (by kernel_rfl) rfl (by kernel_rfl) rfl (by kernel_rfl) ?_
              refine hand 24 (v := .bool true) (by kernel_rfl) rfl (by kernel_rfl) rfl (by kernel_rfl) ?_
              refine hand 25 (v := .bool true) (by kernel_rfl) rfl (by kernel_rfl) rfl (by kernel_rfl) ?_
              refine wpAny_done (by kernel_rfl) ?_ _
              go_wp2_with fail
              go_meet
              exact ⟨rfl, hSU⟩
          · obtain ⟨hnA, hbA⟩ := hA
            have hkA := HKA.out _ _ _ hnA
            have hAU : Below w9.heap.size w9 wA := Below.far (below_drew_n w9 1) hbA
            have EA := HB9.out.below hAU HB9.out.lt
            refine wpAny_ready (rs := [11]) (by kernel_rfl) (by simp) (hcons 11 (v := .agg #[.int .i64 A.view, .int .i64 A.normal, .bool A.calm, .slice a3 A.log.length c3, .int .i64 A.commit]) rfl (by kernel_rfl) rfl (run_load_kept _ _ 11 rfl b11 (by kernel_rfl) _ _ _ _ _ _ _ _ EA) ?_ AllReady.nil)
            refine wpAny_ready (rs := [15]) (by kernel_rfl) (by simp) (hcall 15 rfl (by kernel_rfl) rfl 11 [.tmp 64, .tmp 67] _ rfl _ (by kernel_rfl) enter_same _ (HSM.out _ _ (HK9.out.below hAU) hkA) (fun uS wS hS => ?_) AllReady.nil)
            obtain ⟨rfl, hbS⟩ := hS
            have hSU : Below w9.heap.size w9 wS := Below.far hAU hbS
            refine hand 16 (v := .bool true) (by kernel_rfl) rfl (by kernel_rfl) rfl (by kernel_rfl) ?_
            refine hand 17 (v := .bool true) (by kernel_rfl) rfl (by kernel_rfl) rfl (by kernel_rfl) ?_
            refine hand 18 (v := .int .u8 y) (by kernel_rfl) rfl (by kernel_rfl) rfl (by kernel_rfl) ?_
            refine hand 19 (v := .bool false) (by kernel_rfl) rfl (by kernel_rfl) rfl (Eq.trans (b := Result.ok (.value (.bool (y == 0))) _) (by kernel_rfl) (by rw [d1])) ?_
            refine hand 20 (v := .bool false) (by kernel_rfl) rfl (by kernel_rfl) rfl (by kernel_rfl) ?_
            refine hand 21 (v := .int .i64 11) (by kernel_rfl) rfl (by kernel_rfl) rfl (by kernel_rfl) ?_
            refine hand 22 (v := .bool true) (by kernel_rfl) rfl (by kernel_rfl) rfl (by kernel_rfl) ?_
            refine hand 23 (v := .bool true) (by kernel_rfl) rfl (by kernel_rfl) rfl (by kernel_rfl) ?_
            refine hand 24 (v := .bool true) (by kernel_rfl) rfl (by kernel_rfl) rfl (by kernel_rfl) ?_
            refine hand 25 (v := .bool true) (by kernel_rfl) rfl (by kernel_rfl) rfl (by kernel_rfl) ?_
            refine wpAny_done (by kernel_rfl) ?_ _
            go_wp2_with fail
            go_meet
            exact ⟨rfl, hSU⟩
    case rest =>
      obtain ⟨rfl, hbZ⟩ := hcut
      have HZ : Hid (Below w.heap.size w wc) := Below.far HW9'.out hbZ
      clear hbZ
      go_wp2_with fail
      go_ret
      exact ⟨rfl, HZ.out⟩

theorem slotsSpoilt_walk (w : World) (l : List RawM) {v : Value} (h : Raws w v l) (n : Int) (wn : (Lit.int .i64 n).wf = true) (t : Int) (wt : (Lit.int .i64 t).wf = true) (y : Int) (wy : (Lit.int .u8 y).wf = true) (ht : Tab w) :
    Calls Tryd.prog 4 #[v, .int .i64 n, .int .i64 t, .int .u8 y] w fun e w' => e = .returned (.bool true) ∧ Below w.heap.size w w' := by
  have hy : 0 ≤ y ∧ y ≤ 255 := by
    have e : (Lit.int .u8 y).wf = (decide (0 ≤ y) && decide (y ≤ 255)) := rfl
    rw [e] at wy
    simpa using wy
  exact slotsSpoilt_in w l n t y (bounds_i64 wn).1 (bounds_i64 wn).2 (bounds_i64 wt).1 (bounds_i64 wt).2 hy.1 hy.2 h ht

end Go.Proofs.YtdnogggadocilaeDoor
