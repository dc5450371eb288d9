/- The walk of the document's answer KeptBytes. -/
import Derived.Test.YtdnogggadocilaeKeptRef
import Derived.Test.YtdnogggadocilaeNumCells
import Derived.Test.YtdnogggadocilaeNumB
import Derived.Test.YtdnogggadocilaeTxtB
import Derived.Test.YtdnogggadocilaeSealRef
namespace Go.Proofs.Ytdnogggadocilae
open Go.RowKit
set_option linter.unusedVariables false
set_option linter.unusedSimpArgs false
attribute [local go_sem] app_list ext_list get_list byteAt_zero

theorem keptNums_bd (K : KeptM) (g : Int) (h : KeptMay K) (hg : 0 ≤ g ∧ g ≤ 1073741824) : ∀ x ∈ keptNums K g, 0 ≤ x ∧ x ≤ 1073741824 := by
  intro x hx
  have hl := h.len
  simp only [keptNums, List.mem_cons, List.not_mem_nil, or_false] at hx
  rcases hx with rfl | rfl | rfl | rfl | rfl | rfl
  · exact hg
  · exact ⟨h.v0, by have := h.v1; omega⟩
  · exact ⟨h.n0, by have := h.v1; have := h.n1; omega⟩
  · unfold bit; split <;> omega
  · exact ⟨h.c0, by have := h.c1; omega⟩
  · omega

set_option maxHeartbeats 4000000 in
theorem keptBytes_ok (K : KeptM) (g : Int) (v : Value) (w : World) (h : KeptAt w v K) (h0 : keptFault K = 0) (hg : 0 ≤ g ∧ g ≤ 1073741824) :
    Calls Try.prog 26 #[v, .int .i64 g] w fun e w' => e = .returned (.tuple #[.string ⟨(keptB K g).toArray⟩, .int .i64 0]) ∧ Below w.heap.size w w' := by
  have hm := keptMay_of K h0
  have hnb := keptNums_bd K g hm hg
  have HM : Hid (KeptMay K) := hm
  have hll := hm.len
  have HKB : Hid (keptB K g = sealBytes (bodyB K g) ++ bodyB K g) := rfl
  have HBB : Hid (bodyB K g = (keptNums K g).flatMap numBytes ++ K.log.flatMap txtB) := rfl
  have hbl : (bodyB K g).length ≤ 4000 := by
    have := flatTxt_len K.log (fun s hs => decE_len s (hm.log s hs))
    have e2 := flatNum_len (keptNums K g)
    have e3 : (keptNums K g).length = 6 := rfl
    rw [HBB.out, List.length_append, e2, e3]
    omega
  have hlog := hm.log
  clear hm
  have h' := h
  obtain ⟨vl, rfl, hs⟩ := h'
  have HF : Hid (Calls _ _ _ _ _) := keptFaultOf_any K _ _ (h.below (below_alloc w (.cells #[.int .i64 K.view, .int .i64 K.normal, .bool K.calm, vl, .int .i64 K.commit] 24)))
  rw [h0] at HF
  have HIN : Hid (∀ w, Calls _ _ _ w _) := fun w => in_any g 0 1073741824 w
  rw [show (decide (0 ≤ g) && decide (g ≤ 1073741824)) = true by simp [hg.1, hg.2]] at HIN
  obtain ⟨KB, HK1⟩ : ∃ KB, Hid (keptB K g = KB) := ⟨_, rfl⟩
  obtain ⟨BB, HK2⟩ : ∃ BB, Hid (bodyB K g = BB) := ⟨_, rfl⟩
  rw [HK1.out] at HKB ⊢
  rw [HK2.out] at HKB HBB hbl
  obtain ⟨NS, HNS⟩ : ∃ NS, Hid (keptNums K g = NS) := ⟨_, rfl⟩
  have HNE : Hid (NS = [g, K.view, K.normal, bit K.calm, K.commit, K.log.length]) := HNS.out.symm
  rw [HNS.out] at HBB hnb
  have hnl : NS.length = 6 := by rw [HNE.out]; rfl
  obtain ⟨vw, nm, cm, l, ct⟩ := K
  simp only at hs HF HBB hll hlog HNE ⊢
  clear h h0 HM HK1 HK2 HNS
  obtain ⟨a, c, rfl, hlx, hcx⟩ := hs
  have b0 := Box.new w 24 [.int .i64 vw, .int .i64 nm, .bool cm, .slice a l.length c, .int .i64 ct]
  have hb := below_alloc w (.cells #[.int .i64 vw, .int .i64 nm, .bool cm, .slice a l.length c, .int .i64 ct] 24)
  go_enter Try.func26, Try.ntmps26
  go_wp2_with fail
  refine HF.out.mono ?_
  rintro e w1 ⟨rfl, hb1⟩
  have b1 := b0.below hb1 b0.lt
  have hw1 := Below.seq hb hb1
  clear b0 hb hb1 HF
  go_wp2_with fail
  refine (HIN.out _).mono ?_
  rintro e w3 ⟨rfl, hw3e⟩
  subst hw3e
  have x0 := b1.cell 0 _ rfl
  have x1 := b1.cell 1 _ rfl
  have x2 := b1.cell 2 _ rfl
  have x3 := b1.cell 3 _ rfl
  have x4 := b1.cell 4 _ rfl
  have lb := b1.lt
  have HBK : Hid (Box w3 w.heap.size _ _) := b1
  have HW1 : Hid (Below w.heap.size w w3) := hw1
  clear b1 hw1
  obtain ⟨w2, hw2e⟩ : ∃ w2, w2 = (if cm = true then w3.alloc (.cells #[.int .i64 g, .int .i64 vw, .int .i64 nm, .int .i64 1, .int .i64 ct, .int .i64 l.length] 3) else w3.alloc (.cells #[.int .i64 g, .int .i64 vw, .int .i64 nm, .int .i64 0, .int .i64 ct, .int .i64 l.length] 3)) := ⟨_, rfl⟩
  have HI2 : Hid (Below w.heap.size w w2 ∧ Box w2 w.heap.size 24 [.int .i64 vw, .int .i64 nm, .bool cm, .slice a l.length c, .int .i64 ct] ∧ Box w2 w3.heap.size 3 (numCells NS)) := by
    rw [hw2e, HNE.out]
    cases cm
    · exact ⟨Below.up HW1.out _, HBK.out.alloc _, Box.new w3 3 [.int .i64 g, .int .i64 vw, .int .i64 nm, .int .i64 0, .int .i64 ct, .int .i64 l.length]⟩
    · exact ⟨Below.up HW1.out _, HBK.out.alloc _, Box.new w3 3 [.int .i64 g, .int .i64 vw, .int .i64 nm, .int .i64 1, .int .i64 ct, .int .i64 l.length]⟩
  have l3 := HI2.out.2.2.lt
  cases cm
  · rw [if_neg (by simp)] at hw2e
    go_upto_region 9 with fail
    rw [← hw2e]
    clear hw2e x0 x1 x2 x3 x4 HBK HW1 HIN
    go_wp2_with fail
    go_loopw [8, 9] (fun t i wr => ∃ k : Nat, k ≤ 6 ∧ i = .int .i64 k ∧ t = .string ⟨((NS.take k).flatMap numBytes).toArray⟩ ∧ Below w2.heap.size w2 wr) (fun _ i wr => 6 - (intOf i).toNat)
    case atStart => exact ⟨0, by omega, rfl, rfl, Below.refl _ _⟩
    case round =>
      obtain ⟨k, hk, rfl, rfl, hbr⟩ := hrel
      by_cases hlt : k < 6
      · have t0 := (HI2.out.2.2.below hbr HI2.out.2.2.lt).cell k _ (numCells_get NS k (by omega))
        have hx := hnb (NS.getD k 0) (by rw [show NS.getD k 0 = NS[k]'(by omega) by simp [List.getD, hnl, hlt]]; exact List.getElem_mem _)
        have HTK : Hid ((NS.take (k + 1)).flatMap numBytes = (NS.take k).flatMap numBytes ++ numBytes (NS.getD k 0)) := by
          unfold Hid
          rw [List.take_succ_eq_append_getElem (by omega), List.flatMap_append, show NS.getD k 0 = NS[k]'(by omega) by simp [List.getD, hnl, hlt]]
          simp
        have HNB : Hid (∀ w, Calls _ _ _ w _) := fun w => numberBytes_ok (NS.getD k 0) w hx.1 hx.2
        have HBR : Hid (Below w2.heap.size w2 wr) := hbr
        have k0 : (0 : Int) ≤ (k : Int) := by omega
        have k1 : (k : Int) < 6 := by omega
        clear hbr hx hcx
        generalize NS.getD k 0 = nn at *
        have hTl : ((NS.take k).flatMap numBytes).length ≤ 24 := by rw [flatNum_len, List.length_take]; omega
        have hUl : (numBytes nn).length ≤ 4 := by rw [length_num]; omega
        obtain ⟨T, HT⟩ : ∃ T, (NS.take k).flatMap numBytes = T := ⟨_, rfl⟩
        rw [HT] at HTK hTl ⊢
        clear HT
        obtain ⟨U, HU⟩ : ∃ U, Hid (numBytes nn = U) := ⟨_, rfl⟩
        rw [HU.out] at HNB HTK hUl
        go_wp2_with fail
        refine (HNB.out _).mono ?_
        rintro e w4 ⟨rfl, hb4⟩
        have HB4 : Hid (Below w2.heap.size w2 w4) := Below.far HBR.out hb4
        clear hb4 t0 HNB
        go_wp2_with fail
        go_roundw
        case rel => exact ⟨k + 1, by omega, by go_num, by rw [HTK.out], HB4.out⟩
        case measure => simp [intOf]; omega
      · have hk6 : k = 6 := by omega
        have hki : (k : Int) = 6 := by omega
        rw [hki, show NS.take k = NS by rw [hk6, ← hnl]; exact List.take_length]
        clear hki hk6 hk hlt
        have HBR : Hid (Below w2.heap.size w2 wr) := hbr
        have hTl : (NS.flatMap numBytes).length ≤ 24 := by rw [flatNum_len]; omega
        obtain ⟨T, HT⟩ : ∃ T, NS.flatMap numBytes = T := ⟨_, rfl⟩
        rw [HT] at HBB hTl ⊢
        clear HT hbr
        have HXK : Hid (Box wr w.heap.size _ _) := HI2.out.2.1.below HBR.out HI2.out.2.1.lt
        have x3 := HXK.out.cell 3 _ rfl
        go_wp2_with fail
        go_loopw [8, 12] (fun t i wr => ∃ k : Nat, k ≤ l.length ∧ i = .int .i64 k ∧ t = .string ⟨(T ++ (l.take k).flatMap txtB).toArray⟩ ∧ Below w.heap.size w wr ∧ Box wr w.heap.size 24 [.int .i64 vw, .int .i64 nm, .bool false, .slice a l.length c, .int .i64 ct]) (fun _ i wr => l.length - (intOf i).toNat)
        case atStart => exact ⟨0, by omega, rfl, by simp, Below.far HI2.out.1 HBR.out, HXK.out⟩
        case round =>
          obtain ⟨k, hk, rfl, rfl, hbx, hxk⟩ := hrel
          clear x3 HXK HBR
          have x3 := hxk.cell 3 _ rfl
          have HXK : Hid (Box wr w.heap.size _ _) := hxk
          have HBY : Hid (Below w.heap.size w wr) := hbx
          clear hbx hxk
          by_cases hlt : k < l.length
          · obtain ⟨b, o, rfl, h1, h2⟩ := hcx k hlt
            have hbl' := lt_of_cell h1
            have t0 := (HBY.out.cell (p := ⟨b, _, none⟩) hbl').trans h1
            have hT2 : (T ++ (l.take k).flatMap txtB).length ≤ 3000 := by
              have := flatTxt_len (l.take k) (fun s hs => decE_len s (hlog s (List.mem_of_mem_take hs)))
              have := List.length_take_le k l
              rw [List.length_append]
              omega
            have hd := decE_len _ (hlog (l.getD k []) (by rw [show l.getD k [] = l[k] by simp [List.getD, hlt]]; exact List.getElem_mem hlt))
            have HTK : Hid (T ++ (l.take (k + 1)).flatMap txtB = (T ++ (l.take k).flatMap txtB) ++ txtB (l.getD k [])) := by
              unfold Hid
              rw [List.take_succ_eq_append_getElem hlt, List.flatMap_append, show l.getD k [] = l[k] by simp [List.getD, hlt], List.append_assoc]
              simp
            have HTB : Hid (∀ w, Calls _ _ _ w _) := fun w => textBytes_ok (l.getD k []) w (by omega)
            have k0 : (0 : Int) ≤ (k : Int) := by omega
            have k1 : (k : Int) < (l.length : Int) := by omega
            have hUl : (txtB (l.getD k [])).length ≤ 41 := by unfold txtB; rw [List.length_cons]; omega
            clear h1 h2 hcx hd hlog
            generalize l.getD k [] = s at *
            obtain ⟨T2, HT2⟩ : ∃ T2, T ++ (l.take k).flatMap txtB = T2 := ⟨_, rfl⟩
            rw [HT2] at HTK hT2 ⊢
            clear HT2
            have HU : Hid (b8 s.length :: s = txtB s) := rfl
            rw [HU.out] at HTB
            obtain ⟨U, HU2⟩ : ∃ U, Hid (txtB s = U) := ⟨_, rfl⟩
            rw [HU2.out] at HTB HTK hUl
            go_wp2_with fail
            refine (HTB.out _).mono ?_
            rintro e w4 ⟨rfl, hb4⟩
            have HB4 : Hid (Below w.heap.size w w4) := Below.far HBY.out hb4
            have HX4 : Hid (Box w4 w.heap.size _ _) := HXK.out.below hb4 HXK.out.lt
            clear hb4 t0 HTB x3 HXK
            go_wp2_with fail
            go_roundw
            case rel => exact ⟨k + 1, by omega, by go_num, by rw [HTK.out], HB4.out, HX4.out⟩
            case measure => simp [intOf]; omega
          · obtain rfl : k = l.length := by omega
            rw [List.take_length]
            have HTB : Hid (T ++ l.flatMap txtB = BB) := HBB.out.symm
            rw [HTB.out]
            have HSL : Hid (∀ w, Calls _ _ _ w _) := fun w => sealOf_any BB w (by omega)
            have hSl : (sealBytes BB).length ≤ 4 := by simp [sealBytes]
            obtain ⟨SB, HSB⟩ : ∃ SB, Hid (sealBytes BB = SB) := ⟨_, rfl⟩
            rw [HSB.out] at HSL HKB hSl
            clear hcx hlog
            go_wp2_with fail
            refine (HSL.out _).mono ?_
            rintro e w5 ⟨rfl, hb5⟩
            have HB5 : Hid (Below w.heap.size w w5) := Below.far HBY.out hb5
            clear hb5 HSL x3
            go_wp2_with fail
            go_ret2
            exact ⟨by rw [HKB.out]; rfl, HB5.out⟩
  · rw [if_pos rfl] at hw2e
    go_upto_region 9 with fail
    rw [← hw2e]
    clear hw2e x0 x1 x2 x3 x4 HBK HW1 HIN
    go_wp2_with fail
    go_loopw [8, 9] (fun t i wr => ∃ k : Nat, k ≤ 6 ∧ i = .int .i64 k ∧ t = .string ⟨((NS.take k).flatMap numBytes).toArray⟩ ∧ Below w2.heap.size w2 wr) (fun _ i wr => 6 - (intOf i).toNat)
    case atStart => exact ⟨0, by omega, rfl, rfl, Below.refl _ _⟩
    case round =>
      obtain ⟨k, hk, rfl, rfl, hbr⟩ := hrel
      by_cases hlt : k < 6
      · have t0 := (HI2.out.2.2.below hbr HI2.out.2.2.lt).cell k _ (numCells_get NS k (by omega))
        have hx := hnb (NS.getD k 0) (by rw [show NS.getD k 0 = NS[k]'(by omega) by simp [List.getD, hnl, hlt]]; exact List.getElem_mem _)
        have HTK : Hid ((NS.take (k + 1)).flatMap numBytes = (NS.take k).flatMap numBytes ++ numBytes (NS.getD k 0)) := by
          unfold Hid
          rw [List.take_succ_eq_append_getElem (by omega), List.flatMap_append, show NS.getD k 0 = NS[k]'(by omega) by simp [List.getD, hnl, hlt]]
          simp
        have HNB : Hid (∀ w, Calls _ _ _ w _) := fun w => numberBytes_ok (NS.getD k 0) w hx.1 hx.2
        have HBR : Hid (Below w2.heap.size w2 wr) := hbr
        have k0 : (0 : Int) ≤ (k : Int) := by omega
        have k1 : (k : Int) < 6 := by omega
        clear hbr hx hcx
        generalize NS.getD k 0 = nn at *
        have hTl : ((NS.take k).flatMap numBytes).length ≤ 24 := by rw [flatNum_len, List.length_take]; omega
        have hUl : (numBytes nn).length ≤ 4 := by rw [length_num]; omega
        obtain ⟨T, HT⟩ : ∃ T, (NS.take k).flatMap numBytes = T := ⟨_, rfl⟩
        rw [HT] at HTK hTl ⊢
        clear HT
        obtain ⟨U, HU⟩ : ∃ U, Hid (numBytes nn = U) := ⟨_, rfl⟩
        rw [HU.out] at HNB HTK hUl
        go_wp2_with fail
        refine (HNB.out _).mono ?_
        rintro e w4 ⟨rfl, hb4⟩
        have HB4 : Hid (Below w2.heap.size w2 w4) := Below.far HBR.out hb4
        clear hb4 t0 HNB
        go_wp2_with fail
        go_roundw
        case rel => exact ⟨k + 1, by omega, by go_num, by rw [HTK.out], HB4.out⟩
        case measure => simp [intOf]; omega
      · have hk6 : k = 6 := by omega
        have hki : (k : Int) = 6 := by omega
        rw [hki, show NS.take k = NS by rw [hk6, ← hnl]; exact List.take_length]
        clear hki hk6 hk hlt
        have HBR : Hid (Below w2.heap.size w2 wr) := hbr
        have hTl : (NS.flatMap numBytes).length ≤ 24 := by rw [flatNum_len]; omega
        obtain ⟨T, HT⟩ : ∃ T, NS.flatMap numBytes = T := ⟨_, rfl⟩
        rw [HT] at HBB hTl ⊢
        clear HT hbr
        have HXK : Hid (Box wr w.heap.size _ _) := HI2.out.2.1.below HBR.out HI2.out.2.1.lt
        have x3 := HXK.out.cell 3 _ rfl
        go_wp2_with fail
        go_loopw [8, 12] (fun t i wr => ∃ k : Nat, k ≤ l.length ∧ i = .int .i64 k ∧ t = .string ⟨(T ++ (l.take k).flatMap txtB).toArray⟩ ∧ Below w.heap.size w wr ∧ Box wr w.heap.size 24 [.int .i64 vw, .int .i64 nm, .bool true, .slice a l.length c, .int .i64 ct]) (fun _ i wr => l.length - (intOf i).toNat)
        case atStart => exact ⟨0, by omega, rfl, by simp, Below.far HI2.out.1 HBR.out, HXK.out⟩
        case round =>
          obtain ⟨k, hk, rfl, rfl, hbx, hxk⟩ := hrel
          clear x3 HXK HBR
          have x3 := hxk.cell 3 _ rfl
          have HXK : Hid (Box wr w.heap.size _ _) := hxk
          have HBY : Hid (Below w.heap.size w wr) := hbx
          clear hbx hxk
          by_cases hlt : k < l.length
          · obtain ⟨b, o, rfl, h1, h2⟩ := hcx k hlt
            have hbl' := lt_of_cell h1
            have t0 := (HBY.out.cell (p := ⟨b, _, none⟩) hbl').trans h1
            have hT2 : (T ++ (l.take k).flatMap txtB).length ≤ 3000 := by
              have := flatTxt_len (l.take k) (fun s hs => decE_len s (hlog s (List.mem_of_mem_take hs)))
              have := List.length_take_le k l
              rw [List.length_append]
              omega
            have hd := decE_len _ (hlog (l.getD k []) (by rw [show l.getD k [] = l[k] by simp [List.getD, hlt]]; exact List.getElem_mem hlt))
            have HTK : Hid (T ++ (l.take (k + 1)).flatMap txtB = (T ++ (l.take k).flatMap txtB) ++ txtB (l.getD k [])) := by
              unfold Hid
              rw [List.take_succ_eq_append_getElem hlt, List.flatMap_append, show l.getD k [] = l[k] by simp [List.getD, hlt], List.append_assoc]
              simp
            have HTB : Hid (∀ w, Calls _ _ _ w _) := fun w => textBytes_ok (l.getD k []) w (by omega)
            have k0 : (0 : Int) ≤ (k : Int) := by omega
            have k1 : (k : Int) < (l.length : Int) := by omega
            have hUl : (txtB (l.getD k [])).length ≤ 41 := by unfold txtB; rw [List.length_cons]; omega
            clear h1 h2 hcx hd hlog
            generalize l.getD k [] = s at *
            obtain ⟨T2, HT2⟩ : ∃ T2, T ++ (l.take k).flatMap txtB = T2 := ⟨_, rfl⟩
            rw [HT2] at HTK hT2 ⊢
            clear HT2
            have HU : Hid (b8 s.length :: s = txtB s) := rfl
            rw [HU.out] at HTB
            obtain ⟨U, HU2⟩ : ∃ U, Hid (txtB s = U) := ⟨_, rfl⟩
            rw [HU2.out] at HTB HTK hUl
            go_wp2_with fail
            refine (HTB.out _).mono ?_
            rintro e w4 ⟨rfl, hb4⟩
            have HB4 : Hid (Below w.heap.size w w4) := Below.far HBY.out hb4
            have HX4 : Hid (Box w4 w.heap.size _ _) := HXK.out.below hb4 HXK.out.lt
            clear hb4 t0 HTB x3 HXK
            go_wp2_with fail
            go_roundw
            case rel => exact ⟨k + 1, by omega, by go_num, by rw [HTK.out], HB4.out, HX4.out⟩
            case measure => simp [intOf]; omega
          · obtain rfl : k = l.length := by omega
            rw [List.take_length]
            have HTB : Hid (T ++ l.flatMap txtB = BB) := HBB.out.symm
            rw [HTB.out]
            have HSL : Hid (∀ w, Calls _ _ _ w _) := fun w => sealOf_any BB w (by omega)
            have hSl : (sealBytes BB).length ≤ 4 := by simp [sealBytes]
            obtain ⟨SB, HSB⟩ : ∃ SB, Hid (sealBytes BB = SB) := ⟨_, rfl⟩
            rw [HSB.out] at HSL HKB hSl
            clear hcx hlog
            go_wp2_with fail
            refine (HSL.out _).mono ?_
            rintro e w5 ⟨rfl, hb5⟩
            have HB5 : Hid (Below w.heap.size w w5) := Below.far HBY.out hb5
            clear hb5 HSL x3
            go_wp2_with fail
            go_ret2
            exact ⟨by rw [HKB.out]; rfl, HB5.out⟩

set_option maxHeartbeats 1000000 in
theorem keptBytes_no (K : KeptM) (g : Int) (v : Value) (w : World) (h : KeptAt w v K) (h0 : kencE K g ≠ 0) :
    Calls Try.prog 26 #[v, .int .i64 g] w fun e w' => e = .returned (.tuple #[.string ⟨[].toArray⟩, .int .i64 (kencE K g)]) ∧ Below w.heap.size w w' := by
  have h' := h
  obtain ⟨vl, rfl, hs⟩ := h'
  have hb := below_alloc w (.cells #[.int .i64 K.view, .int .i64 K.normal, .bool K.calm, vl, .int .i64 K.commit] 24)
  have HF : Hid (Calls _ _ _ _ _) := keptFaultOf_any K _ _ (h.below hb)
  have HIN : Hid (∀ w, Calls _ _ _ w _) := fun w => in_any g 0 1073741824 w
  by_cases hk : keptFault K = 0
  · have hg : (decide (0 ≤ g) && decide (g ≤ 1073741824)) = false := by
      have e : kencE K g = if 0 ≤ g ∧ g ≤ 1073741824 then 0 else 2 := by unfold kencE; rw [if_pos hk]
      rw [e] at h0
      by_cases hgg : 0 ≤ g ∧ g ≤ 1073741824
      · rw [if_pos hgg] at h0; exact absurd rfl h0
      · simp; omega
    have e2 : kencE K g = 2 := by
      unfold kencE
      rw [if_pos hk, if_neg]
      intro hgg
      simp [hgg.1, hgg.2] at hg
    rw [e2]
    rw [hk] at HF
    rw [hg] at HIN
    obtain ⟨vw, nm, cm, l, ct⟩ := K
    obtain ⟨a, c, rfl, hlx, hcx⟩ := hs
    have HB : Hid (Below _ _ _) := hb
    clear h h0 hk hg e2 hcx hb
    go_enter Try.func26, Try.ntmps26
    go_wp2_with fail
    refine HF.out.mono ?_
    rintro e w1 ⟨rfl, hb1⟩
    have HB1 : Hid (Below w.heap.size w w1) := Below.far HB.out hb1
    clear hb1
    go_wp2_with fail
    refine (HIN.out _).mono ?_
    rintro e w2 ⟨rfl, rfl⟩
    go_wp2_with fail
    go_ret2
    exact ⟨rfl, HB1.out⟩
  · have e2 : kencE K g = keptFault K := by unfold kencE; rw [if_neg hk]
    rw [e2]
    obtain ⟨x, hx⟩ : ∃ x, keptFault K = x := ⟨_, rfl⟩
    rw [hx] at hk HF ⊢
    have t1 : (x == 0) = false := by simpa using hk
    have t2 : (x != 0) = true := by simpa using hk
    obtain ⟨vw, nm, cm, l, ct⟩ := K
    obtain ⟨a, c, rfl, hlx, hcx⟩ := hs
    have HB : Hid (Below _ _ _) := hb
    clear h h0 hk e2 hcx hb hx
    go_enter Try.func26, Try.ntmps26
    go_wp2_with fail
    refine HF.out.mono ?_
    rintro e w1 ⟨rfl, hb1⟩
    have HB1 : Hid (Below w.heap.size w w1) := Below.far HB.out hb1
    clear hb1
    go_wp2_with fail
    go_ret2
    exact ⟨rfl, HB1.out⟩

theorem keptBytes_any (K : KeptM) (g : Int) (v : Value) (w : World) (h : KeptAt w v K) :
    Calls Try.prog 26 #[v, .int .i64 g] w fun e w' => e = .returned (.tuple #[.string ⟨(kencS K g).toArray⟩, .int .i64 (kencE K g)]) ∧ Below w.heap.size w w' := by
  unfold kencS
  by_cases h0 : kencE K g = 0
  · rw [if_pos h0, h0]
    unfold kencE at h0
    split at h0
    · rename_i hk
      split at h0
      · rename_i hg
        exact keptBytes_ok K g v w h hk hg
      · omega
    · rename_i hk
      exact absurd h0 hk
  · rw [if_neg h0]
    exact keptBytes_no K g v w h h0

end Go.Proofs.Ytdnogggadocilae
