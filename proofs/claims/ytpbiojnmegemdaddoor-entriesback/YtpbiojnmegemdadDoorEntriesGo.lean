/- The walk of the law EntriesBack. -/
import Derived.Test.YtpbiojnmegemdadDoorEntriesWalk
import Derived.Laws.StructEq
import Derived.Test.YtpbiojnmegemdadDoorRead
namespace Go.Proofs.YtpbiojnmegemdadDoor
open Go.RowKit Go.ChangeShapes Go.WideShapes Go.ChangeAt
set_option linter.unusedVariables false
set_option linter.unusedSimpArgs false
attribute [local go_sem] app_list ext_list get_list byteAt_zero

set_option maxHeartbeats 2000000 in
theorem entriesBack_in (w : World) (l : List RawM) (cut : Int) (hc0 : -9223372036854775808 ≤ cut) (hc1 : cut ≤ 9223372036854775807) {v : Value} (h : Raws w v l) (ht : Tab w) :
    Calls Tryd.prog 3 #[v, .int .i64 cut] w fun e w' => e = .returned (.bool true) ∧ Below w.heap.size w w' := by
  have HR : Hid (Calls _ _ _ _ _) := requests_any l 20 v w h ht (by omega)
  have hok : ∀ r ∈ reqsOf nx0 (l.take 20), reqFault r = 0 := reqsOf_ok _ _ 0 rfl (by simp; omega) (by intro x hx; simp [nx0] at hx; omega)
  have hlen : (reqsOf nx0 (l.take 20)).length = min l.length 20 := by rw [reqsOf_len]; simp [Nat.min_comm]
  rw [← hlen] at HR
  have hl20 : (reqsOf nx0 (l.take 20)).length ≤ 1000 := by omega
  generalize reqsOf nx0 (l.take 20) = q at *
  obtain ⟨a, c, rfl, _⟩ := h
  clear hlen
  go_enter Tryd.func3, Tryd.ntmps3
  go_wp2_with fail
  refine HR.out.mono ?_
  rintro e w1 ⟨v1, rfl, hown, hb1⟩
  obtain ⟨a1, c1, rfl, hl1, hcq⟩ := ReqsAt.of_own hown hl20
  have HB1 : Hid (Below w.heap.size w w1) := hb1
  clear hown hb1 HR
  go_wp2_with fail
  go_loopw [18] (fun i wr => ∃ k : Nat, k ≤ q.length ∧ i = .int .i64 k ∧ Below w1.heap.size w1 wr) (fun i wr => q.length - (intOf i).toNat)
  case atStart => exact ⟨0, by omega, rfl, Below.refl _ _⟩
  case round =>
    obtain ⟨k, hk, rfl, hb⟩ := hrel
    by_cases hlt : k < q.length
    · obtain ⟨b, o, rfl, hcell⟩ := hcq k hlt
      have hmem : q.getD k zeroReq ∈ q := by
        rw [show q.getD k zeroReq = q[k] by simp [List.getD, hlt]]; exact List.getElem_mem hlt
      have hrf := hok _ hmem
      clear hcq hmem hok
      generalize q.getD k zeroReq = r at *
      have hd8 := (opMay_of r.op (reqMay_of r hrf).2.2).2.2.2
      have hel := entryB_len r
      have HE : Hid (∀ w, Calls _ _ _ w _) := fun w => machEnc_any r w (by omega)
      have HD : Hid (∀ w, Calls _ _ _ w _) := fun w => machDec_any (entryB r) w (by omega)
      have HM : Hid (∀ w, Calls _ _ _ w _) := fun w => machDec_any (entryB r ++ [120]) w (by simp; omega)
      have hp := pickN_bd cut (entryB r).length (by omega)
      obtain ⟨p, hpe⟩ : ∃ p : Nat, pickN cut (entryB r).length = p := ⟨(pickN cut (entryB r).length).toNat, by omega⟩
      have HPK : Hid (∀ w, Calls _ _ _ w _) := fun w => picked_any cut (entryB r).length w hc0 hc1 (by omega) (by omega)
      have hpl : p < (entryB r).length := by omega
      have HC : Hid (∀ w, Calls _ _ _ w _) := fun w => machDec_any ((entryB r).take p) w (by simp; omega)
      rw [hpe] at HPK
      rw [show encS r = entryB r by unfold encS; rw [if_pos hrf], hrf] at HE
      rw [(dec_enc r hrf).1, (dec_enc r hrf).2] at HD
      rw [dec_more r 120 hrf] at HM
      rw [dec_cut r p hrf hpl] at HC
      generalize decR (entryB r ++ [120]) = rm at HM
      generalize decR ((entryB r).take p) = rc at HC
      have hsl : (entryB r).length ≤ 40 := by omega
      have hsl1 : 1 ≤ (entryB r).length := by omega
      generalize entryB r = s at *
      obtain ⟨cl, n, kd, pl, sn, d⟩ := r
      obtain ⟨cl1, n1, kd1, pl1, sn1, d1⟩ := rm
      obtain ⟨cl2, n2, kd2, pl2, sn2, d2⟩ := rc
      unfold reqVal at HE HD HM HC
      have r0 := hcell 0 _ rfl
      have hbl := lt_of_cell r0
      have t0 := (hb.cell (p := ⟨b, _, none⟩) hbl).trans (hcell 0 _ rfl)
      have t1 := (hb.cell (p := ⟨b, _, none⟩) hbl).trans (hcell 1 _ rfl)
      have t2 := (hb.cell (p := ⟨b, _, none⟩) hbl).trans (hcell 2 _ rfl)
      have t3 := (hb.cell (p := ⟨b, _, none⟩) hbl).trans (hcell 3 _ rfl)
      have t4 := (hb.cell (p := ⟨b, _, none⟩) hbl).trans (hcell 4 _ rfl)
      have t5 := (hb.cell (p := ⟨b, _, none⟩) hbl).trans (hcell 5 _ rfl)
      rw [Nat.add_zero] at t0
      have hbr : b < wr.heap.size := by have := hb.size; omega
      have k0 : (0 : Int) ≤ (k : Int) := by omega
      have k1 : (k : Int) < (q.length : Int) := by omega
      have HB : Hid (Below w1.heap.size w1 wr) := hb
      have bx := Box.new wr 28 [.int .i64 cl, .int .i64 n, .int .i64 kd, .int .i64 pl, .int .i64 sn, .string ⟨d.toArray⟩]
      clear hcell hb r0 hrf hp hel
      go_wp2_with fail
      refine (HE.out _).mono ?_
      rintro e w2 ⟨rfl, hb2⟩
      have bx2 := bx.below hb2 bx.lt
      have hw2 := Below.far (below_alloc wr _) hb2
      clear hb2 HE bx t0 t1 t2 t3 t4 t5
      go_wp2_with fail
      refine (HD.out _).mono ?_
      rintro e w3 ⟨rfl, hb3⟩
      have bx3 := bx2.below hb3 bx2.lt
      have hw3 := Below.far hw2 hb3
      have by3 := Box.new w3 28 [.int .i64 cl, .int .i64 n, .int .i64 kd, .int .i64 pl, .int .i64 sn, .string ⟨d.toArray⟩]
      clear hb3 HD bx2 hw2
      go_wp2_with fail
      rw [show max (s.length : Int) 1 = (s.length : Int) by omega]
      refine (HPK.out _).mono ?_
      rintro e w4 ⟨rfl, hw4e⟩
      have bx4 := bx3.alloc (.cells #[.int .i64 cl, .int .i64 n, .int .i64 kd, .int .i64 pl, .int .i64 sn, .string ⟨d.toArray⟩] 28)
      have hw4 := Below.up hw3 (.cells #[.int .i64 cl, .int .i64 n, .int .i64 kd, .int .i64 pl, .int .i64 sn, .string ⟨d.toArray⟩] 28)
      rw [← hw4e] at bx4 by3 hw4
      clear hw4e bx3 hw3 HPK
      have p0 : (0 : Int) ≤ (p : Int) := by omega
      have p1 : (p : Int) ≤ (s.length : Int) := by omega
      have ptn : ((p : Int)).toNat = p := by omega
      have HPL : Hid (p < s.length) := hpl
      clear hpe hpl
      go_wp2_with fail
      refine (HC.out _).mono ?_
      rintro e w5 ⟨rfl, hb5⟩
      have bx5 := (bx4.below hb5 bx4.lt).alloc (.cells #[.int .i64 cl2, .int .i64 n2, .int .i64 kd2, .int .i64 pl2, .int .i64 sn2, .string ⟨d2.toArray⟩] 28)
      have by5 := (by3.below hb5 by3.lt).alloc (.cells #[.int .i64 cl2, .int .i64 n2, .int .i64 kd2, .int .i64 pl2, .int .i64 sn2, .string ⟨d2.toArray⟩] 28)
      have hw5 := Below.up (Below.far hw4 hb5) (.cells #[.int .i64 cl2, .int .i64 n2, .int .i64 kd2, .int .i64 pl2, .int .i64 sn2, .string ⟨d2.toArray⟩] 28)
      clear bx4 by3 hw4 hb5 HC
      go_wp2_with fail
      refine (HM.out _).mono ?_
      rintro e w6 ⟨rfl, hb6⟩
      have bx6 := (bx5.below hb6 bx5.lt).alloc (.cells #[.int .i64 cl1, .int .i64 n1, .int .i64 kd1, .int .i64 pl1, .int .i64 sn1, .string ⟨d1.toArray⟩] 28)
      have by6 := (by5.below hb6 by5.lt).alloc (.cells #[.int .i64 cl1, .int .i64 n1, .int .i64 kd1, .int .i64 pl1, .int .i64 sn1, .string ⟨d1.toArray⟩] 28)
      have hw6 := Below.up (Below.far hw5 hb6) (.cells #[.int .i64 cl1, .int .i64 n1, .int .i64 kd1, .int .i64 pl1, .int .i64 sn1, .string ⟨d1.toArray⟩] 28)
      have HN : Hid (Below w1.heap.size w1 _) := Below.far HB.out hw6
      obtain ⟨w7, hw7e⟩ : ∃ w7, w7 = w6.alloc (.cells #[.int .i64 cl1, .int .i64 n1, .int .i64 kd1, .int .i64 pl1, .int .i64 sn1, .string ⟨d1.toArray⟩] 28) := ⟨_, rfl⟩
      go_upto_region 8 with fail
      rw [← hw7e] at bx6 by6 HN ⊢
      clear hw7e bx5 by5 hw5 hw6 hb6 HM HB
      have x0 := bx6.cell 0 _ rfl
      have x1 := bx6.cell 1 _ rfl
      have x2 := bx6.cell 2 _ rfl
      have x3 := bx6.cell 3 _ rfl
      have x4 := bx6.cell 4 _ rfl
      have x5 := bx6.cell 5 _ rfl
      have y0 := by6.cell 0 _ rfl
      have y1 := by6.cell 1 _ rfl
      have y2 := by6.cell 2 _ rfl
      have y3 := by6.cell 3 _ rfl
      have y4 := by6.cell 4 _ rfl
      have y5 := by6.cell 5 _ rfl
      clear bx6 by6
      go_wp2_with fail
      go_roundw
      case rel => exact ⟨k + 1, by omega, by go_num, HN.out⟩
      case measure => simp [intOf]; omega
    · obtain rfl : k = q.length := by omega
      have HB : Hid (Below w.heap.size w wr) := Below.far HB1.out hb
      clear hb hcq
      go_wp2_with fail
      go_ret
      exact ⟨rfl, HB.out⟩

theorem entriesBack_walk (w : World) (l : List RawM) {v : Value} (h : Raws w v l) (cut : Int) (wf : (Lit.int .i64 cut).wf = true) (ht : Tab w) :
    Calls Tryd.prog 3 #[v, .int .i64 cut] w fun e w' => e = .returned (.bool true) ∧ Below w.heap.size w w' := by
  have hb : -9223372036854775808 ≤ cut ∧ cut ≤ 9223372036854775807 := bounds_i64 wf
  exact entriesBack_in w l cut hb.1 hb.2 h ht

end Go.Proofs.YtpbiojnmegemdadDoor
