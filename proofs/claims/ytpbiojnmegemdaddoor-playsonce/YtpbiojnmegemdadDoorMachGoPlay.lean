/- The program's own 'Play': its contract. -/
import Derived.Test.YtpbiojnmegemdadDoorMachGoApply
import Derived.Test.YtpbiojnmegemdadDoorPlayMem
namespace Go.Proofs.YtpbiojnmegemdadDoor
open Go.RowKit
set_option linter.unusedVariables false
set_option linter.unusedSimpArgs false
attribute [local go_sem] app_list ext_list get_list byteAt_zero

set_option maxHeartbeats 2000000 in
theorem machPlay_any (l : List (List UInt8)) (v : Value) (w : World) (h : Strs w v l) :
    Calls Tryd.prog 10 #[v] w fun e w' => ∃ v', e = .returned (.tuple #[v', .int .i64 (playE newSt l)]) ∧ StNew w' w.heap.size v' (playS newSt l) ∧ Below w.heap.size w w' := by
  have HL : Hid (Strs w v l) := h
  obtain ⟨a, c, rfl, hlx, hcx⟩ := h
  have b0 := Box.new w 43 [.slice none 0 0, .slice none 0 0, .slice none 0 0]
  have hw0 := below_alloc w (.cells #[.slice none 0 0, .slice none 0 0, .slice none 0 0] 43)
  go_enter Tryd.func10, Tryd.ntmps10
  go_wp2_with fail
  refine (machNew_any _).mono ?_
  rintro e w1 ⟨v1, rfl, hn1, hb1⟩
  obtain ⟨a1, c1, a2, c2, a3, c3, rfl⟩ := hn1.form
  have b0' := b0.below hb1 b0.lt
  have hw1 := Below.seq hw0 hb1
  have l1 := b0'.lt
  have HI : Hid (PlayInv w w1.heap.size newSt (.slice a1 newSt.vol.now.length c1) (.slice a2 newSt.vol.snaps.length c2) (.slice a3 newSt.lasts.length c3) (w1.alloc (.cells #[.slice a1 newSt.vol.now.length c1, .slice a2 newSt.vol.snaps.length c2, .slice a3 newSt.lasts.length c3] 43))) :=
    ⟨Below.up hw1 _, b0'.alloc _, Box.new w1 _ [.slice a1 newSt.vol.now.length c1, .slice a2 newSt.vol.snaps.length c2, .slice a3 newSt.lasts.length c3], (hn1.below (below_alloc _ _)).base (by simp)⟩
  clear b0 b0' hw0 hw1 hn1 hb1
  go_wp2_with fail
  go_loopw [12] (fun i wr => ∃ (k : Nat) (a1 : Option Addr) (c1 : Nat) (a2 : Option Addr) (c2 : Nat) (a3 : Option Addr) (c3 : Nat), k ≤ l.length ∧ i = .int .i64 k ∧ playE newSt (l.take k) = 0 ∧ PlayInv w w1.heap.size (playS newSt (l.take k)) (.slice a1 (playS newSt (l.take k)).vol.now.length c1) (.slice a2 (playS newSt (l.take k)).vol.snaps.length c2) (.slice a3 (playS newSt (l.take k)).lasts.length c3) wr) (fun i wr => l.length - (intOf i).toNat)
  case atStart => exact ⟨0, _, _, _, _, _, _, by omega, rfl, rfl, HI.out⟩
  case round =>
    clear HI
    obtain ⟨k, a1, c1, a2, c2, a3, c3, hk, rfl, hpE, I⟩ := hrel
    have HP : Hid (playE newSt (l.take k) = 0) := hpE
    have HFit : Hid (StFits (playS newSt (l.take k))) := play_fits newSt (l.take k) newSt_fits
    clear hpE
    have hv0 := I.var.cell 0 _ rfl
    have hv1 := I.var.cell 1 _ rfl
    have hv2 := I.var.cell 2 _ rfl
    have lv := I.var.lt
    by_cases hlt : k < l.length
    · obtain ⟨b, o, rfl, h1, h2⟩ := hcx k hlt
      have hbl := lt_of_cell h1
      have h1r := (I.below.cell (p := ⟨b, o + k, none⟩) hbl).trans h1
      have HSN : Hid (playE newSt (l.take (k + 1)) = appE (playS newSt (l.take k)) (l.getD k []) ∧ playS newSt (l.take (k + 1)) = (if appE (playS newSt (l.take k)) (l.getD k []) = 0 then appS (playS newSt (l.take k)) (l.getD k []) else zeroSt)) := by
        have e1 : l.getD k [] = l[k] := by simp [List.getD, hlt]
        rw [List.take_succ_eq_append_getElem hlt, e1]
        exact play_snoc newSt (l.take k) l[k] HP.out
      have HST : Hid (playE newSt (l.take (k + 1)) ≠ 0 → playE newSt l = playE newSt (l.take (k + 1)) ∧ playS newSt l = zeroSt) := play_stop newSt l (k + 1)
      clear HP hcx h1
      obtain ⟨SK, HSK⟩ : ∃ SK, playS newSt (l.take k) = SK := ⟨_, rfl⟩
      rw [HSK] at HSN I HFit hv0 hv1 hv2
      clear HSK
      obtain ⟨s, hs⟩ : ∃ s, l.getD k [] = s := ⟨_, rfl⟩
      rw [hs] at HSN h1r h2
      clear hs
      have k0 : (0 : Int) ≤ (k : Int) := by omega
      have k1 : (k : Int) < (l.length : Int) := by omega
      have HII : Hid (PlayInv w w1.heap.size SK (.slice a1 SK.vol.now.length c1) (.slice a2 SK.vol.snaps.length c2) (.slice a3 SK.lasts.length c3) wr) := I
      have HC : Hid (∀ W, Below wr.heap.size wr W → Calls Tryd.prog 21 [.agg #[.slice a1 SK.vol.now.length c1, .slice a2 SK.vol.snaps.length c2, .slice a3 SK.lasts.length c3], .string ⟨s.toArray⟩].toArray W fun e w' => ∃ u, e = .returned u ∧ ∃ v', u = .tuple #[v', .int .i64 (appE SK s)] ∧ StNew w' W.heap.size v' (appS SK s) ∧ Below W.heap.size W w') :=
        fun W hW => (machApply_any SK s _ W ((I.st.at HFit.out).below hW) (by omega)).mono fun e w' ⟨v', he, hn, hb⟩ => ⟨_, he, v', rfl, hn, hb⟩
      have q0 : b < wr.heap.size := by have := I.below.size; omega
      clear I
      go_wp2_with fail
      refine (HC.out _ (Below.refl _ _)).mono ?_
      rintro e wA ⟨_, rfl, v', rfl, hn, hbA⟩
      obtain ⟨a4, c4, a5, c5, a6, c6, rfl⟩ := hn.form
      have M := playMid_new (wr := wr) hbA hn (Nat.le_refl _)
      obtain ⟨wc, hwce⟩ : ∃ wc, wc = wA.alloc (.cells #[.slice a4 (appS SK s).vol.now.length c4, .slice a5 (appS SK s).vol.snaps.length c5, .slice a6 (appS SK s).lasts.length c6] 43) := ⟨_, rfl⟩
      go_upto_region 6 with fail
      rw [← hwce]
      rw [← hwce] at M
      clear hwce
      obtain ⟨b6, hb6⟩ : ∃ b6, wA.heap.size = b6 := ⟨_, rfl⟩
      rw [hb6] at M ⊢
      clear hb6 hn hbA
      obtain ⟨x, hx⟩ : ∃ x, appE SK s = x := ⟨_, rfl⟩
      rw [hx] at HSN ⊢
      clear hx
      have d0 := HII.out.res.below M.below HII.out.res.lt
      have dv := HII.out.var.below M.below HII.out.var.lt
      have hwc : Below w.heap.size w wc := Below.far HII.out.below M.below
      by_cases hx0 : x = 0
      · subst hx0
        have HPN : Hid (playE newSt (l.take (k + 1)) = 0) := HSN.out.1
        have HPS : Hid (playS newSt (l.take (k + 1)) = appS SK s) := by have := HSN.out.2; rw [if_pos rfl] at this; exact this
        have HNX : Hid (PlayInv _ _ _ _ _ _ _) := play_next HII.out M l1
        have p0 := M.next.cell 0 _ rfl
        have p1 := M.next.cell 1 _ rfl
        have p2 := M.next.cell 2 _ rfl
        have u0 := dv.cell 0 _ rfl
        have u1 := dv.cell 1 _ rfl
        have u2 := dv.cell 2 _ rfl
        have u3 := dv.frozen 0
        have u4 := dv.frozen 1
        have u5 := dv.frozen 2
        have n6 : ¬ b6 = w1.heap.size := by have := M.ge6; have := HII.out.var.lt; omega
        have n6' : ¬ w1.heap.size = b6 := fun e => n6 e.symm
        clear M d0 dv hwc HII HC hv0 hv1 hv2 h1r HSN HST HFit
        go_wp2_with fail
        go_roundw
        case rel => exact ⟨k + 1, a4, c4, a5, c5, a6, c6, by omega, by go_num, HPN.out, by rw [HPS.out]; exact HNX.out⟩
        case measure => simp [intOf]; omega
      · have HPE : Hid (playE newSt l = x ∧ playS newSt l = zeroSt) := by
          have e1 := HSN.out.1
          obtain ⟨e2, e3⟩ := HST.out (by rw [e1]; exact hx0)
          exact ⟨e2.trans e1, e3⟩
        have t1 : (x == 0) = false := by simpa using hx0
        have t2 : (x != 0) = true := by simpa using hx0
        have r0 := d0.cell 0 _ rfl
        have r1 := d0.cell 1 _ rfl
        have r2 := d0.cell 2 _ rfl
        have f0 := d0.frozen 0
        have f1 := d0.frozen 1
        have f2 := d0.frozen 2
        have HB : Hid (Below w.heap.size w _) := ((hwc.setCell (p := ⟨w.heap.size, 0, none⟩) (by simp) (.slice none 0 0)).setCell (p := ⟨w.heap.size, 1, none⟩) (by simp) (.slice none 0 0)).setCell (p := ⟨w.heap.size, 2, none⟩) (by simp) (.slice none 0 0)
        clear M d0 dv hwc HII HC hv0 hv1 hv2 h1r HSN HST HFit hx0
        go_wp2_with fail
        rw [HPE.out.1, HPE.out.2]
        exact bodyPost_ret (v := .tuple #[.agg #[.slice none 0 0, .slice none 0 0, .slice none 0 0], .int .i64 x]) (by clear HB; simp [results, Tryd.results10, go_sem, *]) rfl ⟨_, rfl, StNew.nil _ _, HB.out⟩
    · obtain rfl : k = l.length := by omega
      rw [List.take_length] at I HP hv0 hv1 hv2
      obtain ⟨SK, HSK⟩ : ∃ SK, Hid (playS newSt l = SK) := ⟨_, rfl⟩
      rw [HSK.out] at I hv0 hv1 hv2
      have r0 := I.res.cell 0 _ rfl
      have r1 := I.res.cell 1 _ rfl
      have r2 := I.res.cell 2 _ rfl
      have f0 := I.res.frozen 0
      have f1 := I.res.frozen 1
      have f2 := I.res.frozen 2
      have ne : ¬ w1.heap.size = w.heap.size := by omega
      have HN : Hid (StNew _ _ _ _) := (((I.st.other (a := ⟨w.heap.size, 0, none⟩) (by simp) (.slice a1 SK.vol.now.length c1)).other (a := ⟨w.heap.size, 1, none⟩) (by simp) (.slice a2 SK.vol.snaps.length c2)).other (a := ⟨w.heap.size, 2, none⟩) (by simp) (.slice a3 SK.lasts.length c3)).base (B' := w.heap.size) (by omega)
      have HB : Hid (Below w.heap.size w _) := ((I.below.setCell (p := ⟨w.heap.size, 0, none⟩) (by simp) (.slice a1 SK.vol.now.length c1)).setCell (p := ⟨w.heap.size, 1, none⟩) (by simp) (.slice a2 SK.vol.snaps.length c2)).setCell (p := ⟨w.heap.size, 2, none⟩) (by simp) (.slice a3 SK.lasts.length c3)
      clear I hcx
      go_wp2_with fail
      rw [HP.out, HSK.out]
      refine bodyPost_ret (v := .tuple #[.agg #[.slice a1 SK.vol.now.length c1, .slice a2 SK.vol.snaps.length c2, .slice a3 SK.lasts.length c3], .int .i64 0]) ?_ rfl ?_
      · clear HN HB
        simp [results, Tryd.results10, go_sem, *]
      · exact ⟨_, rfl, HN.out, HB.out⟩

end Go.Proofs.YtpbiojnmegemdadDoor
