/- The walk of the document's answer KeptFault. -/
import Derived.Test.YtohehhpccbaclafStageMem
import Derived.Test.YtohehhpccbaclafDecRef
import Derived.Test.YtohehhpccbaclafRefIn
import Derived.Deep.DeepCutAuto
namespace Go.Proofs.Ytohehhpccbaclaf
open Go.RowKit
set_option linter.unusedVariables false
set_option linter.unusedSimpArgs false
attribute [local go_sem] app_list ext_list get_list byteAt_zero

set_option maxHeartbeats 2000000 in
theorem keptFaultOf_any (K : KeptM) (v : Value) (w : World) (h : KeptAt w v K) :
    Calls Try.prog 25 #[v] w fun e w' => e = .returned (.int .i64 (keptFault K)) ∧ Below w.heap.size w w' := by
  obtain ⟨vl, rfl, hs⟩ := h
  obtain ⟨vw, nm, cm, l, ct⟩ := K
  simp only at hs ⊢
  obtain ⟨a, c, rfl, hlx, hcx⟩ := hs
  have b0 := Box.new w 24 [.int .i64 vw, .int .i64 nm, .bool cm, .slice a l.length c, .int .i64 ct]
  have hb := below_alloc w (.cells #[.int .i64 vw, .int .i64 nm, .bool cm, .slice a l.length c, .int .i64 ct] 24)
  obtain ⟨w0, hw0⟩ : ∃ w0, w0 = w.alloc (.cells #[.int .i64 vw, .int .i64 nm, .bool cm, .slice a l.length c, .int .i64 ct] 24) := ⟨_, rfl⟩
  obtain ⟨R, HR⟩ : ∃ R, Hid (keptFault ⟨vw, nm, cm, l, ct⟩ = R) := ⟨_, rfl⟩
  rw [HR.out]
  go_enter Try.func25, Try.ntmps25
  go_upto_region 1 with fail
  rw [← hw0] at b0 hb ⊢
  clear hw0
  have HB0 : Hid (Box w0 w.heap.size _ _) := b0
  have HBW : Hid (Below w.heap.size w w0) := hb
  have x0 := b0.cell 0 _ rfl
  have x1 := b0.cell 1 _ rfl
  have x2 := b0.cell 2 _ rfl
  have x3 := b0.cell 3 _ rfl
  have x4 := b0.cell 4 _ rfl
  clear b0 hb
  go_cut [28] (fun s wx => s = .bool (!keptIn ⟨vw, nm, cm, l, ct⟩) ∧ w0 = wx)
  case first =>
    have q1 : (decide (0 ≤ vw) && decide (vw ≤ 1048576)) = true ∨ (decide (0 ≤ vw) && decide (vw ≤ 1048576)) = false := by cases (decide (0 ≤ vw) && decide (vw ≤ 1048576)) <;> simp
    have q2 : (decide (0 ≤ nm) && decide (nm ≤ vw)) = true ∨ (decide (0 ≤ nm) && decide (nm ≤ vw)) = false := by cases (decide (0 ≤ nm) && decide (nm ≤ vw)) <;> simp
    have HK : Hid (keptIn ⟨vw, nm, cm, l, ct⟩ = ((decide (0 ≤ vw) && decide (vw ≤ 1048576)) && ((decide (0 ≤ nm) && decide (nm ≤ vw)) && !(cm && (nm != vw))))) := rfl
    have HI1 : Hid (∀ w, Calls _ _ _ w _) := fun w => in_any vw 0 1048576 w
    have HI2 : Hid (∀ w, Calls _ _ _ w _) := fun w => in_any nm 0 vw w
    generalize (decide (0 ≤ vw) && decide (vw ≤ 1048576)) = c1 at *
    generalize (decide (0 ≤ nm) && decide (nm ≤ vw)) = c2 at *
    rcases q1 with rfl | rfl
    · rcases q2 with rfl | rfl
      · cases cm
        · go_wp2_with fail
          refine (HI1.out _).mono ?_
          rintro e w1 ⟨rfl, rfl⟩
          go_wp2_with fail
          refine (HI2.out _).mono ?_
          rintro e w1 ⟨rfl, rfl⟩
          go_wp2_with fail
          go_meet
          exact ⟨by rw [HK.out]; rfl, rfl⟩
        · go_wp2_with fail
          refine (HI1.out _).mono ?_
          rintro e w1 ⟨rfl, rfl⟩
          go_wp2_with fail
          refine (HI2.out _).mono ?_
          rintro e w1 ⟨rfl, rfl⟩
          go_wp2_with fail
          go_meet
          exact ⟨by rw [HK.out]; simp, rfl⟩
      · go_wp2_with fail
        refine (HI1.out _).mono ?_
        rintro e w1 ⟨rfl, rfl⟩
        go_wp2_with fail
        refine (HI2.out _).mono ?_
        rintro e w1 ⟨rfl, rfl⟩
        go_wp2_with fail
        go_meet
        exact ⟨by rw [HK.out]; simp, rfl⟩
    · go_wp2_with fail
      refine (HI1.out _).mono ?_
      rintro e w1 ⟨rfl, rfl⟩
      go_wp2_with fail
      go_meet
      exact ⟨by rw [HK.out]; simp, rfl⟩
  case rest =>
    obtain ⟨rfl, rfl⟩ := hcut
    have qk : keptIn ⟨vw, nm, cm, l, ct⟩ = true ∨ keptIn ⟨vw, nm, cm, l, ct⟩ = false := by cases keptIn ⟨vw, nm, cm, l, ct⟩ <;> simp
    have HK : Hid (keptFault ⟨vw, nm, cm, l, ct⟩ = if keptIn ⟨vw, nm, cm, l, ct⟩ = true then (if 60 < l.length then 1 else if 0 ≤ ct ∧ ct ≤ l.length then logE l else 2) else 2) := rfl
    rw [HR.out] at HK
    generalize keptIn ⟨vw, nm, cm, l, ct⟩ = ki at *
    rcases qk with rfl | rfl
    · by_cases h60 : 60 < l.length
      · have HE : Hid (R = 1) := by have := HK.out; rw [if_pos rfl, if_pos h60] at this; exact this
        have q60 : decide ((60 : Int) < (l.length : Int)) = true := by simp; omega
        clear h60
        go_wp2_with fail
        go_ret
        exact ⟨by rw [HE.out]; rfl, HBW.out⟩
      · have q60 : decide ((60 : Int) < (l.length : Int)) = false := by simp; omega
        have HI3 : Hid (∀ w, Calls _ _ _ w _) := fun w => in_any ct 0 l.length w
        have qc : (decide (0 ≤ ct) && decide (ct ≤ (l.length : Int))) = true ∨ (decide (0 ≤ ct) && decide (ct ≤ (l.length : Int))) = false := by cases (decide (0 ≤ ct) && decide (ct ≤ (l.length : Int))) <;> simp
        have HC : Hid (R = if (decide (0 ≤ ct) && decide (ct ≤ (l.length : Int))) = true then logE l else 2) := by
          have := HK.out
          rw [if_pos rfl, if_neg h60] at this
          unfold Hid
          rw [this]
          simp
        generalize (decide (0 ≤ ct) && decide (ct ≤ (l.length : Int))) = cc at *
        rcases qc with rfl | rfl
        · have HE : Hid (R = logE l) := by have := HC.out; rw [if_pos rfl] at this; exact this
          have hl60 : l.length ≤ 60 := by omega
          have HI : Hid (Below w.heap.size w w0 ∧ Box w0 w.heap.size 24 [.int .i64 vw, .int .i64 nm, .bool cm, .slice a l.length c, .int .i64 ct]) := ⟨HBW.out, HB0.out⟩
          clear HK HC h60 HB0 HBW
          go_wp2_with fail
          refine (HI3.out _).mono ?_
          rintro e w1 ⟨rfl, rfl⟩
          go_wp2_with fail
          go_loopw [3] (fun i wr => ∃ k : Nat, k ≤ l.length ∧ i = .int .i64 k ∧ logE (l.take k) = 0 ∧ Below w.heap.size w wr ∧ Box wr w.heap.size 24 [.int .i64 vw, .int .i64 nm, .bool cm, .slice a l.length c, .int .i64 ct]) (fun i wr => l.length - (intOf i).toNat)
          case atStart => exact ⟨0, by omega, rfl, rfl, HI.out.1, HI.out.2⟩
          case round =>
            clear HI x0 x1 x2 x3 x4
            obtain ⟨k, hk, rfl, hg, hbr, hbx⟩ := hrel
            have x3 := hbx.cell 3 _ rfl
            have lx := hbx.lt
            by_cases hlt : k < l.length
            · obtain ⟨b, o, rfl, h1, h2⟩ := hcx k hlt
              have hbl := lt_of_cell h1
              have t0 := (hbr.cell (p := ⟨b, _, none⟩) hbl).trans h1
              have hbr' : b < wr.heap.size := by have := hbr.size; omega
              have HG : Hid (logE (l.take (k + 1)) = decE (l.getD k [])) := by
                unfold Hid
                rw [List.take_succ_eq_append_getElem hlt, logE_snoc, if_pos hg, show l.getD k [] = l[k] by simp [List.getD, hlt]]
              have HST : Hid (logE (l.take (k + 1)) ≠ 0 → logE l = logE (l.take (k + 1))) := logE_stop l (k + 1)
              have HBR : Hid (Below w.heap.size w wr) := hbr
              have HBX : Hid (Box wr w.heap.size _ _) := hbx
              have k0 : (0 : Int) ≤ (k : Int) := by omega
              have k1 : (k : Int) < (l.length : Int) := by omega
              have HEN : Hid (∀ w, Calls _ _ _ w _) := fun w => entryOf_any (l.getD k []) w (by omega)
              clear h1 h2 hcx hbr hbx hg
              generalize l.getD k [] = s at *
              generalize decR s = r at HEN
              obtain ⟨D, HD⟩ : ∃ D, Hid (decE s = D) := ⟨_, rfl⟩
              rw [HD.out] at HEN HG
              obtain ⟨c', n', k', p', sn', d'⟩ := r
              unfold reqVal at HEN
              by_cases hd : D = 0
              · subst hd
                go_wp2_with fail
                refine (HEN.out _).mono ?_
                rintro e w2 ⟨rfl, hb2⟩
                have HN : Hid (Below w.heap.size w _) := Below.up (Below.far HBR.out hb2) (.cells #[.int .i64 c', .int .i64 n', .int .i64 k', .int .i64 p', .int .i64 sn', .string ⟨d'.toArray⟩] 57)
                have HX : Hid (Box _ w.heap.size _ _) := (HBX.out.below hb2 HBX.out.lt).alloc (.cells #[.int .i64 c', .int .i64 n', .int .i64 k', .int .i64 p', .int .i64 sn', .string ⟨d'.toArray⟩] 57)
                clear hb2 t0 x3 HBX HEN
                go_wp2_with fail
                go_roundw
                case rel => exact ⟨k + 1, by omega, by go_num, HG.out, HN.out, HX.out⟩
                case measure => simp [intOf]; omega
              · have t1 : (D == 0) = false := by simpa using hd
                have t2 : (D != 0) = true := by simpa using hd
                have HF : Hid (logE l = D) := by
                  have := HST.out (by rw [HG.out]; exact hd)
                  unfold Hid
                  rw [this, HG.out]
                go_wp2_with fail
                refine (HEN.out _).mono ?_
                rintro e w2 ⟨rfl, hb2⟩
                have HN : Hid (Below w.heap.size w _) := Below.up (Below.far HBR.out hb2) (.cells #[.int .i64 c', .int .i64 n', .int .i64 k', .int .i64 p', .int .i64 sn', .string ⟨d'.toArray⟩] 57)
                clear hb2 t0 x3 HBX HEN hd
                go_wp2_with fail
                go_ret
                exact ⟨by rw [HE.out, HF.out]; rfl, HN.out⟩
            · obtain rfl : k = l.length := by omega
              have HG : Hid (logE l = 0) := by unfold Hid; rw [List.take_length] at hg; exact hg
              have HBR : Hid (Below w.heap.size w wr) := hbr
              clear hcx hg hbr hbx
              go_wp2_with fail
              go_ret
              exact ⟨by rw [HE.out, HG.out]; rfl, HBR.out⟩
        · have HE : Hid (R = 2) := by have := HC.out; unfold Hid; simpa using this
          clear HK HC h60
          go_wp2_with fail
          refine (HI3.out _).mono ?_
          rintro e w1 ⟨rfl, rfl⟩
          go_wp2_with fail
          go_ret
          exact ⟨by rw [HE.out]; rfl, HBW.out⟩
    · have HE : Hid (R = 2) := by have := HK.out; unfold Hid; simpa using this
      clear HK
      go_wp2_with fail
      go_ret
      exact ⟨by rw [HE.out]; rfl, HBW.out⟩

end Go.Proofs.Ytohehhpccbaclaf
