/- The walk of the laws' function Requests. -/
import Derived.Test.YtmdgkjbiicaljagDoorJointReqsMath
import Derived.Test.YtmdgkjbiicaljagDoorJointRawMem
import Derived.Test.YtmdgkjbiicaljagDoorJointCodecIs
import Derived.Test.YtmdgkjbiicaljagDoorJointStageMem
import Derived.Deep.DeepCutAuto
namespace Go.Proofs.YtmdgkjbiicaljagDoor
open Go.RowKit
set_option linter.unusedVariables false
set_option linter.unusedSimpArgs false
attribute [local go_sem] app_list ext_list get_list byteAt_zero

def reqsCells (l : List ReqM) : List Value := l.flatMap reqCells
theorem reqsCells_len (l : List ReqM) : (reqsCells l).length = l.length * 6 := by
  induction l with
  | nil => rfl
  | cons x l ih => simp only [reqsCells, List.flatMap_cons, List.length_append] at ih ⊢; rw [ih]; simp [reqCells]; omega

theorem infoReq : Tryd.prog.info? 58 = some Tryd.t58 := by kernel_rfl
theorem zeroReqV : Tryd.t58.zero = some (.agg #[.int .i64 0, .int .i64 0, .int .i64 0, .int .i64 0, .int .i64 0, .string ⟨#[]⟩]) := by kernel_rfl
theorem sizeReq : Tryd.t58.size = 6 := by kernel_rfl
theorem bytesReq : Tryd.t58.bytes = 56 := by kernel_rfl
theorem enter_op (us : Array Value) (w : World) : (callFunc 23 us).run Tryd.prog w = .ok (.enter 23 us) w := by kernel_rfl

theorem RowAt.box {w : World} {b : Nat} {t : TypeId} {cs : List Value} (h : Box w b t cs) (n size : Nat) (hl : cs.length = n * size) : RowAt w (.slice (some ⟨b, 0, none⟩) n n) n size cs := by
  refine ⟨_, _, rfl, hl, fun j u hj => ⟨_, rfl, ?_⟩⟩
  have := h.cell j u hj
  rw [Go.WideShapes.add_plain, Nat.zero_add]
  exact this

/-- What holds after k raw things. -/
structure ReqsInv (w : World) (l : List RawM) (k : Nat) (v : Value) (wr : World) : Prop where
  below : Below w.heap.size w wr
  nexts : Box wr w.heap.size 61 ((nextsOf nx0 (l.take k)).map fun x => .int .i64 x)
  out : wr.ownsRow (w.heap.size + 1) 58 6 v k (reqsCells (reqsOf nx0 (l.take k)))

set_option maxHeartbeats 2000000 in
theorem requests_any (l : List RawM) (m : Nat) (v : Value) (w : World) (h : Raws w v l) (ht : Tab w) (hm : m ≤ 1000) :
    Calls Tryd.prog 8 #[v, .int .i64 m] w fun e w' => ∃ v', e = .returned v' ∧ w'.ownsRow (w.heap.size + 1) 58 6 v' (min l.length m) (reqsCells (reqsOf nx0 (l.take m))) ∧ Below w.heap.size w w' := by
  obtain ⟨a, c, rfl, hl, hc⟩ := h
  have HI : Hid (ReqsInv w l 0 (.slice none 0 0) (w.alloc (.cells #[.int .i64 0, .int .i64 0, .int .i64 0, .int .i64 0, .int .i64 0] 61))) :=
    ⟨below_alloc _ _, Box.new w _ [.int .i64 0, .int .i64 0, .int .i64 0, .int .i64 0, .int .i64 0], World.ownsRow_nil _ _ _ _⟩
  go_enter Tryd.func8, Tryd.ntmps8
  go_wp2_with fail
  go_loopw [5, 7] (fun v i wr => ∃ k : Nat, k ≤ l.length ∧ k ≤ m ∧ i = .int .i64 k ∧ ReqsInv w l k v wr) (fun _ i wr => l.length - (intOf i).toNat)
  case atStart => exact ⟨0, by omega, by omega, rfl, HI.out⟩
  case round =>
    clear HI
    obtain ⟨k, hk, hkm, rfl, I⟩ := hrel
    by_cases hlt : k < l.length
    · have q1 : decide ((k : Int) < (l.length : Int)) = true := by simp; omega
      by_cases hlm : k < m
      · have q2 : decide ((k : Int) < (m : Int)) = true := by simp; omega
        obtain ⟨b, o, rfl, hraw, r0, r1, r2, r3⟩ := hc k hlt
        have hbl := lt_of_cell r0
        have s0 := (I.below.cell (p := ⟨b, _, none⟩) hbl).trans r0
        have s1 := (I.below.cell (p := ⟨b, _, none⟩) hbl).trans r1
        have s2 := (I.below.cell (p := ⟨b, _, none⟩) hbl).trans r2
        have s3 := (I.below.cell (p := ⟨b, _, none⟩) hbl).trans r3
        have HTK : Hid (l.take (k + 1) = l.take k ++ [l.getD k ⟨0, 0, 0, 0⟩]) := by
          unfold Hid
          rw [List.take_succ_eq_append_getElem hlt]
          simp [List.getD, hlt]
        clear hc
        generalize l.getD k ⟨0, 0, 0, 0⟩ = r at *
        have hnl : (nextsOf nx0 (l.take k)).length = 5 := nextsOf_len _ _
        have hnb := nextsOf_bd (l.take k) nx0 0 (by simp [nx0])
        obtain ⟨nx, HNX⟩ : ∃ nx, nextsOf nx0 (l.take k) = nx := ⟨_, rfl⟩
        have hI := I.nexts
        rw [HNX] at hnl hnb hI
        obtain ⟨p, hp⟩ := Int.eq_ofNat_of_zero_le (pickN_bd r.c 4 (by omega)).1
        have hp4 := (pickN_bd r.c 4 (by omega)).2
        rw [hp] at hp4
        have hp5 : p + 1 < 5 := by omega
        have hcp : rawC r = p + 1 := by have := (rawC_bd r).2.2; omega
        obtain ⟨x, hx⟩ : ∃ x, nx.getD (p + 1) 0 = x := ⟨_, rfl⟩
        have cx : wr.cell? ⟨w.heap.size, p + 1, none⟩ = some (.int .i64 x) := hI.cell (p + 1) _ (by rw [List.getElem?_map, List.getElem?_eq_getElem (by omega), ← hx]; simp [List.getD, hnl, hp5])
        have fx := hI.frozen (p + 1)
        have hxb : 0 ≤ x ∧ x ≤ 1000 := by
          have := hnb x (by rw [← hx]; simp only [List.getD, List.getElem?_eq_getElem (show p + 1 < nx.length by omega), Option.getD_some]; exact List.getElem_mem _)
          have h2 : (l.take k).length ≤ k := by simp; omega
          omega
        have HPC : Hid (∀ w, Calls _ _ _ w _) := fun w => picked_any r.c 4 w hraw.c0 hraw.c1 (by omega) (by omega)
        have HPA : Hid (∀ w, Calls _ _ _ w _) := fun w => picked_any r.a 4 w hraw.a0 hraw.a1 (by omega) (by omega)
        rw [hp] at HPC
        have k0 : (0 : Int) ≤ (k : Int) := by omega
        have k1 : (k : Int) < (l.length : Int) := by omega
        have p0 : (0 : Int) ≤ 1 + (p : Int) := by omega
        have p1 : 1 + (p : Int) < 5 := by omega
        have pe : (1 + (p : Int)).toNat = p + 1 := by omega
        have HII : Hid (ReqsInv _ _ _ _ _) := I
        clear I
        go_upto_region 7 with (go_at_call 6; refine (HPC.out _).mono ?_; rintro e w1 ⟨rfl, hw1⟩; rw [hw1]; clear hw1)
        by_cases hinc : x = 0 ∨ 0 < pickN r.a 4
        · have HNO : Hid (nextOf nx r = nx.set (p + 1) (x + 1)) := by unfold Hid nextOf; rw [hcp, hx, if_pos hinc]
          have BX := hI.set (p + 1) (.int .i64 (x + 1))
          have hW4 : Below w.heap.size w (wr.setCell ⟨w.heap.size, p + 1, none⟩ (.int .i64 (x + 1))) := HII.out.below.setCell (by simp) _
          have HO4 := ownsRow_setCell_below HII.out.out (a := ⟨w.heap.size, p + 1, none⟩) (by simp) (.int .i64 (x + 1))
          obtain ⟨w4, hw4e⟩ : ∃ w4, w4 = wr.setCell ⟨w.heap.size, p + 1, none⟩ (.int .i64 (x + 1)) := ⟨_, rfl⟩
          rw [← hw4e] at BX hW4 HO4
          by_cases hx0 : x = 0
          · have qx : (x == 0) = true := by simpa using hx0
            clear hx0 hinc
            go_upto_region 9 with fail
            rw [← hw4e]
            clear hw4e
            have BN : Box w4 w.heap.size 61 ((nextOf nx r).map fun x => .int .i64 x) := by first | (rw [HNO.out, List.map_set]; exact BX) | (rw [HNO.out]; exact BX)
            have hnl' : (nextOf nx r).length = 5 := (nextOf_len nx r).trans hnl
            obtain ⟨y, hy⟩ : ∃ y, (nextOf nx r).getD (p + 1) 0 = y := ⟨_, rfl⟩
            have cy : w4.cell? ⟨w.heap.size, p + 1, none⟩ = some (.int .i64 y) := BN.cell (p + 1) _ (by rw [List.getElem?_map, List.getElem?_eq_getElem (by omega), ← hy]; simp [List.getD, hnl', hp5])
            have HRQ : Hid (reqCells (reqAt nx r) = [.int .i64 (1 + (p : Int)), .int .i64 y, .int .i64 (opOf r).kind, .int .i64 (opOf r).place, .int .i64 (opOf r).snap, .string ⟨(opOf r).data.toArray⟩]) := by
              unfold Hid reqCells reqAt
              rw [hcp, hy]
              simp
              omega
            have t0 := (hW4.cell (p := ⟨b, _, none⟩) hbl).trans r0
            have t1 := (hW4.cell (p := ⟨b, _, none⟩) hbl).trans r1
            have t2 := (hW4.cell (p := ⟨b, _, none⟩) hbl).trans r2
            have t3 := (hW4.cell (p := ⟨b, _, none⟩) hbl).trans r3
            have hb4 : b < w4.heap.size := by have := hW4.size; omega
            have hN4 := BN.lt
            have HOP : Hid (∀ W, Below w4.heap.size w4 W → Calls Tryd.prog 23 [.agg #[.int .i64 r.kind, .int .i64 r.a, .int .i64 r.b, .int .i64 r.c]].toArray W fun e w' => ∃ v', e = .returned v' ∧ (v' = .agg #[.int .i64 (opOf r).kind, .int .i64 (opOf r).place, .int .i64 (opOf r).snap, .string ⟨(opOf r).data.toArray⟩] ∧ Below W.heap.size W w')) :=
              fun W hW => (keepOp_any r W hraw (ht.below (Below.far hW4 hW))).mono fun e w' ⟨he, hb⟩ => ⟨_, he, rfl, hb⟩
            have HCL : Hid (reqsCells (reqsOf nx0 (l.take (k + 1))) = reqsCells (reqsOf nx0 (l.take k)) ++ reqCells (reqAt nx r)) := by
              unfold Hid
              rw [HTK.out, reqsOf_snoc, HNX]
              simp [reqsCells]
            have HNN : Hid (nextsOf nx0 (l.take (k + 1)) = nextOf nx r) := by
              unfold Hid
              rw [HTK.out, nextsOf_snoc, HNX]
            obtain ⟨au, cu, hu5⟩ := own_formN HO4
            subst hu5
            have HOW : Hid (w4.ownsRow _ _ _ _ _ _) := HO4
            have HBN : Hid (Box w4 w.heap.size _ _) := BN
            have HW4 : Hid (Below w.heap.size w w4) := hW4
            clear HO4 hnb s0 s1 s2 s3 HII hI cx fx
            go_region_law
              ((first
                | (refine step_go _ (by rfl) 23 _ _ (by rfl) _ (by rfl) enter_op _ (HOP.out _ (by (repeat (first | exact Below.refl _ _ | assumption | apply Below.drew | apply Below.up | (refine Below.far ?_ (by assumption)))))) ?_
                   rintro u' wA ⟨hu, hbA⟩
                   subst hu
                   have hAU : Below w4.heap.size w4 wA := by (repeat (first | exact Below.refl _ _ | assumption | apply Below.drew | apply Below.up | (refine Below.far ?_ (by assumption))))
                   have BA : Box wA w.heap.size _ _ := HBN.out.below hAU HBN.out.lt
                   have ya := (hAU.cell (p := ⟨w.heap.size, p + 1, none⟩) hN4).trans cy
                   have qa := BA.lt)
                | (refine step_append_row _ (by rfl) _ _ 36 (by rfl) (w.heap.size + 1) 58 Tryd.t58 _ 6 56 Tryd.underlying36 infoReq zeroReqV sizeReq bytesReq rfl (by decide) _ k _ (by rfl) (own_below HOW.out (hAU.alloc (by have := hAU.size; omega) _) (own_lt HOW.out)) _ 1 [.int .i64 (1 + (p : Int)), .int .i64 y, .int .i64 (opOf r).kind, .int .i64 (opOf r).place, .int .i64 (opOf r).snap, .string ⟨(opOf r).data.toArray⟩] (by rfl) (RowAt.box (Box.new wA _ _) 1 6 rfl) (by simp [Value.oneCell']) (by unfold maxLen; omega) (by omega) (by simp <;> omega) ?_
                   intro u3 wB hownB hgB hatB
                   obtain ⟨a5, c5, hu5⟩ := own_formN hownB
                   subst hu5)))
            all_goals
              have HI2 : Hid (ReqsInv w l (k + 1) (.slice a5 (k + 1) c5) wB) := by
                refine ⟨(Below.up (Below.far HW4.out hAU) (.cells #[.int .i64 (1 + (p : Int)), .int .i64 y, .int .i64 (opOf r).kind, .int .i64 (opOf r).place, .int .i64 (opOf r).snap, .string ⟨(opOf r).data.toArray⟩] 58)).grown hgB (by simp; omega) (fun k e => by have := own_ge HOW.out k e; omega), ?_, ?_⟩
                · rw [HNN.out]; exact (BA.alloc _).grown hgB (fun e => by have := own_ge HOW.out _ e; omega)
                · rw [HCL.out, HRQ.out]; exact hownB
              clear hownB hgB hatB BA hbA hAU HOW HBN HW4 HCL HNN HRQ HOP BN
              go_wp2_with fail
              go_roundw
              case rel => exact ⟨k + 1, by omega, by omega, by go_num, HI2.out⟩
              case measure => simp [intOf]; omega
          · have qx : (x == 0) = false := by simpa using hx0
            have qy : decide (0 < pickN r.a 4) = true := by simp; omega
            clear hx0 hinc
            go_upto_region 9 with (go_at_call 6; refine (HPA.out _).mono ?_; rintro e w1 ⟨rfl, hw1⟩; rw [hw1]; clear hw1)
            rw [← hw4e]
            clear hw4e
            have BN : Box w4 w.heap.size 61 ((nextOf nx r).map fun x => .int .i64 x) := by first | (rw [HNO.out, List.map_set]; exact BX) | (rw [HNO.out]; exact BX)
            have hnl' : (nextOf nx r).length = 5 := (nextOf_len nx r).trans hnl
            obtain ⟨y, hy⟩ : ∃ y, (nextOf nx r).getD (p + 1) 0 = y := ⟨_, rfl⟩
            have cy : w4.cell? ⟨w.heap.size, p + 1, none⟩ = some (.int .i64 y) := BN.cell (p + 1) _ (by rw [List.getElem?_map, List.getElem?_eq_getElem (by omega), ← hy]; simp [List.getD, hnl', hp5])
            have HRQ : Hid (reqCells (reqAt nx r) = [.int .i64 (1 + (p : Int)), .int .i64 y, .int .i64 (opOf r).kind, .int .i64 (opOf r).place, .int .i64 (opOf r).snap, .string ⟨(opOf r).data.toArray⟩]) := by
              unfold Hid reqCells reqAt
              rw [hcp, hy]
              simp
              omega
            have t0 := (hW4.cell (p := ⟨b, _, none⟩) hbl).trans r0
            have t1 := (hW4.cell (p := ⟨b, _, none⟩) hbl).trans r1
            have t2 := (hW4.cell (p := ⟨b, _, none⟩) hbl).trans r2
            have t3 := (hW4.cell (p := ⟨b, _, none⟩) hbl).trans r3
            have hb4 : b < w4.heap.size := by have := hW4.size; omega
            have hN4 := BN.lt
            have HOP : Hid (∀ W, Below w4.heap.size w4 W → Calls Tryd.prog 23 [.agg #[.int .i64 r.kind, .int .i64 r.a, .int .i64 r.b, .int .i64 r.c]].toArray W fun e w' => ∃ v', e = .returned v' ∧ (v' = .agg #[.int .i64 (opOf r).kind, .int .i64 (opOf r).place, .int .i64 (opOf r).snap, .string ⟨(opOf r).data.toArray⟩] ∧ Below W.heap.size W w')) :=
              fun W hW => (keepOp_any r W hraw (ht.below (Below.far hW4 hW))).mono fun e w' ⟨he, hb⟩ => ⟨_, he, rfl, hb⟩
            have HCL : Hid (reqsCells (reqsOf nx0 (l.take (k + 1))) = reqsCells (reqsOf nx0 (l.take k)) ++ reqCells (reqAt nx r)) := by
              unfold Hid
              rw [HTK.out, reqsOf_snoc, HNX]
              simp [reqsCells]
            have HNN : Hid (nextsOf nx0 (l.take (k + 1)) = nextOf nx r) := by
              unfold Hid
              rw [HTK.out, nextsOf_snoc, HNX]
            obtain ⟨au, cu, hu5⟩ := own_formN HO4
            subst hu5
            have HOW : Hid (w4.ownsRow _ _ _ _ _ _) := HO4
            have HBN : Hid (Box w4 w.heap.size _ _) := BN
            have HW4 : Hid (Below w.heap.size w w4) := hW4
            clear HO4 hnb s0 s1 s2 s3 HII hI cx fx
            go_region_law
              ((first
                | (refine step_go _ (by rfl) 23 _ _ (by rfl) _ (by rfl) enter_op _ (HOP.out _ (by (repeat (first | exact Below.refl _ _ | assumption | apply Below.drew | apply Below.up | (refine Below.far ?_ (by assumption)))))) ?_
                   rintro u' wA ⟨hu, hbA⟩
                   subst hu
                   have hAU : Below w4.heap.size w4 wA := by (repeat (first | exact Below.refl _ _ | assumption | apply Below.drew | apply Below.up | (refine Below.far ?_ (by assumption))))
                   have BA : Box wA w.heap.size _ _ := HBN.out.below hAU HBN.out.lt
                   have ya := (hAU.cell (p := ⟨w.heap.size, p + 1, none⟩) hN4).trans cy
                   have qa := BA.lt)
                | (refine step_append_row _ (by rfl) _ _ 36 (by rfl) (w.heap.size + 1) 58 Tryd.t58 _ 6 56 Tryd.underlying36 infoReq zeroReqV sizeReq bytesReq rfl (by decide) _ k _ (by rfl) (own_below HOW.out (hAU.alloc (by have := hAU.size; omega) _) (own_lt HOW.out)) _ 1 [.int .i64 (1 + (p : Int)), .int .i64 y, .int .i64 (opOf r).kind, .int .i64 (opOf r).place, .int .i64 (opOf r).snap, .string ⟨(opOf r).data.toArray⟩] (by rfl) (RowAt.box (Box.new wA _ _) 1 6 rfl) (by simp [Value.oneCell']) (by unfold maxLen; omega) (by omega) (by simp <;> omega) ?_
                   intro u3 wB hownB hgB hatB
                   obtain ⟨a5, c5, hu5⟩ := own_formN hownB
                   subst hu5)))
            all_goals
              have HI2 : Hid (ReqsInv w l (k + 1) (.slice a5 (k + 1) c5) wB) := by
                refine ⟨(Below.up (Below.far HW4.out hAU) (.cells #[.int .i64 (1 + (p : Int)), .int .i64 y, .int .i64 (opOf r).kind, .int .i64 (opOf r).place, .int .i64 (opOf r).snap, .string ⟨(opOf r).data.toArray⟩] 58)).grown hgB (by simp; omega) (fun k e => by have := own_ge HOW.out k e; omega), ?_, ?_⟩
                · rw [HNN.out]; exact (BA.alloc _).grown hgB (fun e => by have := own_ge HOW.out _ e; omega)
                · rw [HCL.out, HRQ.out]; exact hownB
              clear hownB hgB hatB BA hbA hAU HOW HBN HW4 HCL HNN HRQ HOP BN
              go_wp2_with fail
              go_roundw
              case rel => exact ⟨k + 1, by omega, by omega, by go_num, HI2.out⟩
              case measure => simp [intOf]; omega
        · have HNO : Hid (nextOf nx r = nx) := by unfold Hid nextOf; rw [hcp, hx, if_neg hinc]
          have qx : (x == 0) = false := by simp; omega
          have qy : decide (0 < pickN r.a 4) = false := by simp; omega
          have BX := hI
          have hW4 := HII.out.below
          have HO4 := HII.out.out
          obtain ⟨w4, hw4e⟩ : ∃ w4, w4 = wr := ⟨_, rfl⟩
          rw [← hw4e] at BX hW4 HO4
          clear hinc
          go_upto_region 9 with (go_at_call 6; refine (HPA.out _).mono ?_; rintro e w1 ⟨rfl, hw1⟩; rw [hw1]; clear hw1)
          rw [← hw4e]
          clear hw4e
          have BN : Box w4 w.heap.size 61 ((nextOf nx r).map fun x => .int .i64 x) := by first | (rw [HNO.out, List.map_set]; exact BX) | (rw [HNO.out]; exact BX)
          have hnl' : (nextOf nx r).length = 5 := (nextOf_len nx r).trans hnl
          obtain ⟨y, hy⟩ : ∃ y, (nextOf nx r).getD (p + 1) 0 = y := ⟨_, rfl⟩
          have cy : w4.cell? ⟨w.heap.size, p + 1, none⟩ = some (.int .i64 y) := BN.cell (p + 1) _ (by rw [List.getElem?_map, List.getElem?_eq_getElem (by omega), ← hy]; simp [List.getD, hnl', hp5])
          have HRQ : Hid (reqCells (reqAt nx r) = [.int .i64 (1 + (p : Int)), .int .i64 y, .int .i64 (opOf r).kind, .int .i64 (opOf r).place, .int .i64 (opOf r).snap, .string ⟨(opOf r).data.toArray⟩]) := by
            unfold Hid reqCells reqAt
            rw [hcp, hy]
            simp
            omega
          have t0 := (hW4.cell (p := ⟨b, _, none⟩) hbl).trans r0
          have t1 := (hW4.cell (p := ⟨b, _, none⟩) hbl).trans r1
          have t2 := (hW4.cell (p := ⟨b, _, none⟩) hbl).trans r2
          have t3 := (hW4.cell (p := ⟨b, _, none⟩) hbl).trans r3
          have hb4 : b < w4.heap.size := by have := hW4.size; omega
          have hN4 := BN.lt
          have HOP : Hid (∀ W, Below w4.heap.size w4 W → Calls Tryd.prog 23 [.agg #[.int .i64 r.kind, .int .i64 r.a, .int .i64 r.b, .int .i64 r.c]].toArray W fun e w' => ∃ v', e = .returned v' ∧ (v' = .agg #[.int .i64 (opOf r).kind, .int .i64 (opOf r).place, .int .i64 (opOf r).snap, .string ⟨(opOf r).data.toArray⟩] ∧ Below W.heap.size W w')) :=
            fun W hW => (keepOp_any r W hraw (ht.below (Below.far hW4 hW))).mono fun e w' ⟨he, hb⟩ => ⟨_, he, rfl, hb⟩
          have HCL : Hid (reqsCells (reqsOf nx0 (l.take (k + 1))) = reqsCells (reqsOf nx0 (l.take k)) ++ reqCells (reqAt nx r)) := by
            unfold Hid
            rw [HTK.out, reqsOf_snoc, HNX]
            simp [reqsCells]
          have HNN : Hid (nextsOf nx0 (l.take (k + 1)) = nextOf nx r) := by
            unfold Hid
            rw [HTK.out, nextsOf_snoc, HNX]
          obtain ⟨au, cu, hu5⟩ := own_formN HO4
          subst hu5
          have HOW : Hid (w4.ownsRow _ _ _ _ _ _) := HO4
          have HBN : Hid (Box w4 w.heap.size _ _) := BN
          have HW4 : Hid (Below w.heap.size w w4) := hW4
          clear HO4 hnb s0 s1 s2 s3 HII hI cx fx
          go_region_law
            ((first
              | (refine step_go _ (by rfl) 23 _ _ (by rfl) _ (by rfl) enter_op _ (HOP.out _ (by (repeat (first | exact Below.refl _ _ | assumption | apply Below.drew | apply Below.up | (refine Below.far ?_ (by assumption)))))) ?_
                 rintro u' wA ⟨hu, hbA⟩
                 subst hu
                 have hAU : Below w4.heap.size w4 wA := by (repeat (first | exact Below.refl _ _ | assumption | apply Below.drew | apply Below.up | (refine Below.far ?_ (by assumption))))
                 have BA : Box wA w.heap.size _ _ := HBN.out.below hAU HBN.out.lt
                 have ya := (hAU.cell (p := ⟨w.heap.size, p + 1, none⟩) hN4).trans cy
                 have qa := BA.lt)
              | (refine step_append_row _ (by rfl) _ _ 36 (by rfl) (w.heap.size + 1) 58 Tryd.t58 _ 6 56 Tryd.underlying36 infoReq zeroReqV sizeReq bytesReq rfl (by decide) _ k _ (by rfl) (own_below HOW.out (hAU.alloc (by have := hAU.size; omega) _) (own_lt HOW.out)) _ 1 [.int .i64 (1 + (p : Int)), .int .i64 y, .int .i64 (opOf r).kind, .int .i64 (opOf r).place, .int .i64 (opOf r).snap, .string ⟨(opOf r).data.toArray⟩] (by rfl) (RowAt.box (Box.new wA _ _) 1 6 rfl) (by simp [Value.oneCell']) (by unfold maxLen; omega) (by omega) (by simp <;> omega) ?_
                 intro u3 wB hownB hgB hatB
                 obtain ⟨a5, c5, hu5⟩ := own_formN hownB
                 subst hu5)))
          all_goals
            have HI2 : Hid (ReqsInv w l (k + 1) (.slice a5 (k + 1) c5) wB) := by
              refine ⟨(Below.up (Below.far HW4.out hAU) (.cells #[.int .i64 (1 + (p : Int)), .int .i64 y, .int .i64 (opOf r).kind, .int .i64 (opOf r).place, .int .i64 (opOf r).snap, .string ⟨(opOf r).data.toArray⟩] 58)).grown hgB (by simp; omega) (fun k e => by have := own_ge HOW.out k e; omega), ?_, ?_⟩
              · rw [HNN.out]; exact (BA.alloc _).grown hgB (fun e => by have := own_ge HOW.out _ e; omega)
              · rw [HCL.out, HRQ.out]; exact hownB
            clear hownB hgB hatB BA hbA hAU HOW HBN HW4 HCL HNN HRQ HOP BN
            go_wp2_with fail
            go_roundw
            case rel => exact ⟨k + 1, by omega, by omega, by go_num, HI2.out⟩
            case measure => simp [intOf]; omega
      · have q2 : decide ((k : Int) < (m : Int)) = false := by simp; omega
        have hmin : min l.length m = k := by omega
        have htk : l.take m = l.take k := by congr 1; omega
        have HO : Hid (wr.ownsRow _ _ _ _ _ _) := I.out
        have HB : Hid (Below w.heap.size w wr) := I.below
        obtain ⟨au, cu, hu5⟩ := own_formN I.out
        subst hu5
        clear I hc
        go_wp2_with fail
        go_ret
        rw [hmin, htk]
        exact ⟨_, rfl, HO.out, HB.out⟩
    · have q1 : decide ((k : Int) < (l.length : Int)) = false := by simp; omega
      have hmin : min l.length m = k := by omega
      have htk : l.take m = l.take k := by rw [List.take_of_length_le (by omega), List.take_of_length_le (by omega)]
      have HO : Hid (wr.ownsRow _ _ _ _ _ _) := I.out
      have HB : Hid (Below w.heap.size w wr) := I.below
      obtain ⟨au, cu, hu5⟩ := own_formN I.out
      subst hu5
      clear I hc
      go_wp2_with fail
      go_ret
      rw [hmin, htk]
      exact ⟨_, rfl, HO.out, HB.out⟩

end Go.Proofs.YtmdgkjbiicaljagDoor
