/- The program's own machine.Encode. -/
import Derived.Test.YtdnogggadocilaeDoorMachGoReq
import Derived.Test.YtdnogggadocilaeDoorCodecGo
import Derived.Test.YtdnogggadocilaeDoorMemKit
namespace Go.Proofs.YtdnogggadocilaeDoor
open Go.RowKit
set_option linter.unusedVariables false
set_option linter.unusedSimpArgs false
attribute [local go_sem] app_list ext_list get_list byteAt_zero length_num

theorem b8_mod (n : Int) : UInt8.ofNat (n % 256).toNat = b8 n := rfl

set_option maxHeartbeats 1000000 in
theorem machEnc_any (r : ReqM) (w : World) (hl : r.op.data.length ≤ 281474976710656) :
    Calls Tryd.prog 27 #[reqVal r] w fun e w' => e = .returned (.tuple #[.string ⟨(encS r).toArray⟩, .int .i64 (reqFault r)]) ∧ Below w.heap.size w w' := by
  have HR : Hid (∀ w, Calls _ _ _ w _) := fun w => machReq_any r w hl
  by_cases h0 : reqFault r = 0
  · have hm := reqMay_of r h0
    have hom := opMay_of r.op hm.2.2
    have HE : Hid (encS r = entryB r) := by unfold Hid encS; rw [if_pos h0]
    have H0 : Hid (reqFault r = 0) := h0
    obtain ⟨c, n, k, p, s, d⟩ := r
    simp only at hm hom
    unfold reqVal at *
    rw [h0] at HR
    have HN : Hid (∀ w, Calls _ _ _ w _) := fun w => number_ok n w (by omega) (by omega)
    have HT : Hid (∀ w, Calls _ _ _ w _) := fun w => text_ok d w (by omega)
    have B0 := Box.new w 64 [.int .i64 c, .int .i64 n, .int .i64 k, .int .i64 p, .int .i64 s, .string ⟨d.toArray⟩]
    have kc4 := conv4
    obtain ⟨hm1, hm2, _⟩ := hm
    clear h0
    go_enter Tryd.func27, Tryd.ntmps27
    go_wp2_with fail
    refine (HR.out _).mono ?_
    rintro e w1 ⟨rfl, hb1⟩
    have B1 := B0.below hb1 B0.lt
    have y1 := B1.cell 1 _ rfl
    go_wp2_with fail
    refine (HN.out _).mono ?_
    rintro e w2 ⟨rfl, hb2⟩
    have B2 := B1.below hb2 B1.lt
    clear y1
    have y5 := B2.cell 5 _ rfl
    go_wp2_with fail
    refine (HT.out _).mono ?_
    rintro e w3 ⟨rfl, hb3⟩
    have B3 := B2.below hb3 B2.lt
    clear y5
    have y0 := B3.cell 0 _ rfl
    have y2 := B3.cell 2 _ rfl
    have y3 := B3.cell 3 _ rfl
    have y4 := B3.cell 4 _ rfl
    have l2 := B3.lt
    have HB : Hid (Below w.heap.size w w3) := Below.seq (Below.seq (Below.seq (below_alloc w _) hb1) hb2) hb3
    clear B0 B1 B2 B3 hb1 hb2 hb3
    go_wp2_with fail
    go_ret2
    rw [HE.out, H0.out]
    refine ⟨?_, HB.out.trans ((below_alloc _ _).mono HB.out.size)⟩
    unfold entryB
    rw [← b8_mod c, ← b8_mod k, ← b8_mod p, ← b8_mod s]
    have e : ∀ n : Int, 0 ≤ n → n ≤ 255 → n % 256 = n := fun n _ _ => by omega
    rw [e c (by omega) (by omega), e k (by omega) (by omega), e p (by omega) (by omega), e s (by omega) (by omega)]
    simp
  · have HE : Hid (encS r = []) := by unfold Hid encS; rw [if_neg h0]
    obtain ⟨x, hx⟩ : ∃ x, reqFault r = x := ⟨_, rfl⟩
    have HX : Hid (reqFault r = x) := hx
    rw [hx] at HR h0
    clear hx
    have t1 : (x == 0) = false := by simpa using h0
    have t2 : (x != 0) = true := by simpa using h0
    unfold reqVal at *
    go_enter Tryd.func27, Tryd.ntmps27
    go_wp2_with fail
    refine (HR.out _).mono ?_
    rintro e w1 ⟨rfl, hb1⟩
    have HB : Hid (Below w.heap.size w w1) := Below.seq (below_alloc w _) hb1
    clear hb1
    go_wp2_with fail
    go_ret2
    rw [HE.out, HX.out]
    exact ⟨rfl, HB.out⟩

end Go.Proofs.YtdnogggadocilaeDoor
