/- The walk of the law PlaysOnce. -/
import Derived.Test.YtpbiojnmegemdadDoorEntriesIs
import Derived.Test.YtpbiojnmegemdadDoorEqualGo
import Derived.Test.YtpbiojnmegemdadDoorMachOnce
import Derived.Test.YtpbiojnmegemdadDoorMachGoPlay
namespace Go.Proofs.YtpbiojnmegemdadDoor
open Go.RowKit
set_option linter.unusedVariables false
set_option linter.unusedSimpArgs false
attribute [local go_sem] app_list ext_list get_list byteAt_zero

theorem RowAt.two (w : World) (u u' : Value) (t : TypeId) : RowAt (w.alloc (.cells #[u, u'] t)) (.slice (some ⟨w.heap.size, 0, none⟩) 2 2) 2 1 [u, u'] := by
  have b := Box.new w t [u, u']
  refine ⟨_, _, rfl, rfl, fun j x hj => ⟨_, rfl, ?_⟩⟩
  have := b.cell j x hj
  rw [Go.WideShapes.add_plain, Nat.zero_add]
  exact this

theorem twice_len (l : List (List UInt8)) : (twice l).length = l.length + l.length := by
  unfold twice
  induction l with
  | nil => rfl
  | cons x l ih => simp only [List.flatMap_cons, List.length_append, ih, List.length_cons, List.length_nil]; omega

theorem twice_snoc (l : List (List UInt8)) (x : List UInt8) : twice (l ++ [x]) = twice l ++ [x, x] := by
  simp [twice, List.flatMap_append]

set_option maxHeartbeats 2000000 in
theorem playsOnce_walk (w : World) (l : List RawM) {v : Value} (h : Raws w v l) (ht : Tab w) :
    Calls Tryd.prog 4 #[v] w fun e w' => e = .returned (.bool true) ∧ Below w.heap.size w w' := by
  have HR : Hid (Calls _ _ _ _ _) := requests_any l 30 v w h ht (by omega)
  have hok : ∀ r ∈ reqsOf nx0 (l.take 30), reqFault r = 0 := reqsOf_ok _ _ 0 rfl (by simp; omega) (by intro x hx; simp [nx0] at hx; omega)
  have hlen : (reqsOf nx0 (l.take 30)).length = min l.length 30 := by rw [reqsOf_len]; simp [Nat.min_comm]
  rw [← hlen] at HR
  have hl30 : (reqsOf nx0 (l.take 30)).length ≤ 30 := by omega
  generalize reqsOf nx0 (l.take 30) = q at *
  obtain ⟨a, c, rfl, _⟩ := h
  clear hlen
  go_enter Tryd.func4, Tryd.ntmps4
  go_wp2_with fail
  refine HR.out.mono ?_
  rintro e w1 ⟨v1, rfl, hown, hb1⟩
  have hat := ReqsAt.of_own hown (by omega)
  obtain ⟨a1, c1, rfl⟩ := own_formN hown
  obtain ⟨E, hEe, hEl, hdec, hel, hcE⟩ := entries_is q _ w1 hat hok
  have HE : Hid (Calls _ _ _ _ _) := hcE
  have hl30' : E.length ≤ 30 := by omega
  clear hown HR hat hok hcE hEl hEe hl30
  go_wp2_with fail
  refine HE.out.mono ?_
  rintro e w2 ⟨v2, rfl, hown2, hb2⟩
  clear HE
  have hst := Strs.of_own hown2 (by omega) (fun s hs => by have := hel s hs; omega)
  obtain ⟨a2, c2, rfl⟩ := own_formN hown2
  have HS2 : Hid (Strs w2 (.slice a2 E.length c2) E) := hst
  have HB2 : Hid (Below w.heap.size w w2) := Below.far hb1 hb2
  obtain ⟨_, _, hve, _, hcE⟩ := hst
  cases hve
  clear hown2 hb1 hb2
  go_wp2_with fail
  go_loopw [4, 16] (fun b i wr => ∃ k : Nat, k ≤ E.length ∧ i = .int .i64 k ∧ Below w2.heap.size w2 wr ∧ wr.ownsRow w2.heap.size 9 1 b (k + k) ((twice (E.take k)).map enc)) (fun _ i wr => E.length - (intOf i).toNat)
  case atStart => exact ⟨0, by omega, rfl, Below.refl _ _, World.ownsRow_nil _ _ _ _⟩
  case round =>
    obtain ⟨k, hk, rfl, hb, hown⟩ := hrel
    obtain ⟨au, cu, rfl⟩ := own_formN hown
    by_cases hlt : k < E.length
    · obtain ⟨b, o, rfl, h1, h2⟩ := hcE k hlt
      have HTK : Hid ((twice (E.take (k + 1))).map enc = (twice (E.take k)).map enc ++ [enc (E.getD k []), enc (E.getD k [])]) := by
        unfold Hid
        rw [List.take_succ_eq_append_getElem hlt, twice_snoc, List.map_append, show E.getD k [] = E[k] by simp [List.getD, hlt]]
        rfl
      obtain ⟨xs, HXS⟩ : ∃ xs, Hid ((twice (E.take k)).map enc = xs) := ⟨_, rfl⟩
      rw [HXS.out] at hown HTK
      have hbl := lt_of_cell h1
      have t0 := (hb.cell (p := ⟨b, _, none⟩) hbl).trans h1
      have hbr : b < wr.heap.size := by have := hb.size; omega
      have k0 : (0 : Int) ≤ (k : Int) := by omega
      have k1 : (k : Int) < (E.length : Int) := by omega
      have HOW : Hid (wr.ownsRow _ _ _ _ _ _) := hown
      have HB : Hid (Below w2.heap.size w2 wr) := hb
      have hz := hb.size
      clear hcE h1 hown hb
      generalize E.getD k [] = s at *
      go_wp2_with (at_builtin; refine wpList_append_row _ rfl _ _ 36 rfl w2.heap.size 9 Tryd.t9 _ 1 16 Tryd.underlying36 infoStr zeroStr sizeStr bytesStr rfl (by decide) _ (k + k) _ rfl (own_below HOW.out (below_alloc wr _) (own_lt HOW.out)) _ 2 [.string ⟨s.toArray⟩, .string ⟨s.toArray⟩] rfl (RowAt.two _ _ _ _) (by simp [Value.oneCell']) (by unfold maxLen; omega) (by omega) (by simp <;> omega) ?_)
      intro v5 wB hownB hgB hatB
      have HN : Hid (wB.ownsRow w2.heap.size 9 1 v5 ((k + 1) + (k + 1)) ((twice (E.take (k + 1))).map enc)) := by unfold Hid; rw [HTK.out, show k + 1 + (k + 1) = k + k + 2 by omega]; exact hownB
      have HBB : Hid (Below w2.heap.size w2 wB) := (Below.up HB.out (.cells #[.string ⟨s.toArray⟩, .string ⟨s.toArray⟩] 9)).grown hgB (by simp; omega) (fun k e => by have := own_ge HOW.out k e; omega)
      obtain ⟨a5, c5, rfl⟩ := own_formN hownB
      clear hownB hgB hatB HOW HTK
      go_wp2_with fail
      go_roundw
      case rel => exact ⟨k + 1, by omega, by go_num, HBB.out, HN.out⟩
      case measure => simp [intOf]; omega
    · obtain rfl : k = E.length := by omega
      rw [List.take_length] at hown
      have htl := twice_len E
      rw [← htl] at hown ⊢
      have hmt : ∀ s ∈ twice E, s.length ≤ 40 := by
        intro s hs
        unfold twice at hs
        obtain ⟨x, hx, hs⟩ := List.mem_flatMap.1 hs
        simp at hs
        subst hs
        exact hel _ hx
      have hS4 : Strs wr (.slice au (twice E).length cu) (twice E) := Strs.of_own hown (by omega) (fun s hs => by have := hmt s hs; omega)
      have HP1 : Hid (Calls _ _ _ _ _) := machPlay_any E _ wr (HS2.out.below hb)
      have HP2 : Hid (∀ W, Below wr.heap.size wr W → Calls _ _ _ W _) := fun W hW => machPlay_any (twice E) _ W (hS4.below hW)
      obtain ⟨e1, e2, e3, e4⟩ := play_twice E newSt hdec newSt_may
      have HFit : Hid (StFits (playS newSt E)) := play_fits newSt E newSt_fits
      rw [e1] at HP1
      rw [e2, e3] at HP2
      have hm := stMay_of _ e4
      have hv6 := (volMay_len (volMay_of _ hm.1)).1
      have HST : Hid (stFault (playS newSt E) = 0) := e4
      generalize playS newSt E = S at *
      have HL4 : Hid (S.lasts.length = 4) := hm.2.1
      have HV6 : Hid (S.vol.now.length = 6) := hv6
      have HB : Hid (Below w.heap.size w wr) := Below.far HB2.out hb
      clear hcE hown hb HS2 HB2 hdec hel hmt hS4 htl e1 e2 e3 e4 hm hv6 hk
      go_wp2_with fail
      refine HP1.out.mono ?_
      rintro e w3 ⟨v3, rfl, hn3, hb3⟩
      obtain ⟨x1, d1, x2, d2, x3, d3, rfl⟩ := hn3.form
      have HC2 := HP2.out (w3.alloc (.cells #[.slice x1 S.vol.now.length d1, .slice x2 S.vol.snaps.length d2, .slice x3 S.lasts.length d3] 43)) (Below.up hb3 _)
      have bx := Box.new w3 43 [.slice x1 S.vol.now.length d1, .slice x2 S.vol.snaps.length d2, .slice x3 S.lasts.length d3]
      have hx4 := (hn3.at HFit.out).below (below_alloc w3 (.cells #[.slice x1 S.vol.now.length d1, .slice x2 S.vol.snaps.length d2, .slice x3 S.lasts.length d3] 43))
      have hb4 := Below.up (Below.far HB.out hb3) (.cells #[.slice x1 S.vol.now.length d1, .slice x2 S.vol.snaps.length d2, .slice x3 S.lasts.length d3] 43)
      have HC2' : Hid (Calls _ _ _ _ _) := HC2
      clear HC2 HP1 HP2 hn3 hb3
      go_wp2_with fail
      refine HC2'.out.mono ?_
      rintro e w5 ⟨v5, rfl, hn5, hb5⟩
      obtain ⟨y1, f1, y2, f2, y3, f3, rfl⟩ := hn5.form
      have bx5 := (bx.below hb5 bx.lt).alloc (.cells #[.slice y1 S.vol.now.length f1, .slice y2 S.vol.snaps.length f2, .slice y3 S.lasts.length f3] 43)
      have by5 := Box.new w5 43 [.slice y1 S.vol.now.length f1, .slice y2 S.vol.snaps.length f2, .slice y3 S.lasts.length f3]
      have hx5 := (hx4.below hb5).below (below_alloc w5 (.cells #[.slice y1 S.vol.now.length f1, .slice y2 S.vol.snaps.length f2, .slice y3 S.lasts.length f3] 43))
      have hy5 := (hn5.at HFit.out).below (below_alloc w5 (.cells #[.slice y1 S.vol.now.length f1, .slice y2 S.vol.snaps.length f2, .slice y3 S.lasts.length f3] 43))
      have hbb5 := Below.up (Below.far hb4 hb5) (.cells #[.slice y1 S.vol.now.length f1, .slice y2 S.vol.snaps.length f2, .slice y3 S.lasts.length f3] 43)
      obtain ⟨w6, hw6e⟩ : ∃ w6, w6 = w5.alloc (.cells #[.slice y1 S.vol.now.length f1, .slice y2 S.vol.snaps.length f2, .slice y3 S.lasts.length f3] 43) := ⟨_, rfl⟩
      go_upto_region 10 with fail
      rw [← hw6e] at bx5 by5 hx5 hy5 hbb5 ⊢
      clear hw6e hx4 hb4 bx hb5 hn5 HC2'
      have HX5 : Hid (StAt w6 _ S) := hx5
      obtain ⟨_, _, _, hxe, ⟨_, _, hxe2, hxn, hxs⟩, hxl⟩ := hx5
      cases hxe
      cases hxe2
      obtain ⟨_, _, _, hye, ⟨_, _, hye2, hyn, hys⟩, hyl⟩ := hy5
      cases hye
      cases hye2
      have HQ1 : Hid (Calls _ _ _ _ _) := equalStrs_same S.vol.now _ _ w6 hxn hyn (by have := HV6.out; omega)
      have HQ2 : Hid (∀ W, Below w6.heap.size w6 W → Calls _ _ _ W _) := fun W hW => equalLasts_same S.lasts _ _ W (hxl.below hW) (hyl.below hW)
      have HQ3 : Hid (∀ W, Below w6.heap.size w6 W → Calls _ _ _ W _) := fun W hW => machCheck_any S _ W (HX5.out.below hW)
      rw [HST.out] at HQ3
      have HBX : Hid (Box w6 w3.heap.size _ _) := bx5
      have HBY : Hid (Box w6 w5.heap.size _ _) := by5
      have u0 := bx5.cell 0 _ rfl
      have u1 := bx5.cell 1 _ rfl
      have u2 := bx5.cell 2 _ rfl
      have s0 := by5.cell 0 _ rfl
      have s1 := by5.cell 1 _ rfl
      have s2 := by5.cell 2 _ rfl
      have HBW : Hid (Below w.heap.size w w6) := hbb5
      have q4 : ((S.lasts.length : Int) == 4) = true := by have := HL4.out; simp [this]
      clear bx5 by5 hxn hxs hxl hyn hys hyl HX5 HST hbb5 HFit
      go_wp2_with fail
      refine HQ1.out.mono ?_
      rintro e w7 ⟨rfl, hb7⟩
      have bx7 := HBX.out.below hb7 HBX.out.lt
      have by7 := HBY.out.below hb7 HBY.out.lt
      clear u0 u1 u2 s0 s1 s2 HQ1
      have u0 := bx7.cell 0 _ rfl
      have u1 := bx7.cell 1 _ rfl
      have u2 := bx7.cell 2 _ rfl
      have s0 := by7.cell 0 _ rfl
      have s1 := by7.cell 1 _ rfl
      have s2 := by7.cell 2 _ rfl
      have HB7 : Hid (Below w6.heap.size w6 w7) := hb7
      clear bx7 by7 hb7
      go_wp2_with fail
      refine (HQ2.out _ HB7.out).mono ?_
      rintro e w8 ⟨rfl, hb8⟩
      have HB8 : Hid (Below w6.heap.size w6 w8) := Below.far HB7.out hb8
      have bx7 := HBX.out.below HB8.out HBX.out.lt
      have by7 := HBY.out.below HB8.out HBY.out.lt
      clear u0 u1 u2 s0 s1 s2 HQ2 hb8
      have u0 := bx7.cell 0 _ rfl
      have u1 := bx7.cell 1 _ rfl
      have u2 := bx7.cell 2 _ rfl
      have s0 := by7.cell 0 _ rfl
      have s1 := by7.cell 1 _ rfl
      have s2 := by7.cell 2 _ rfl
      clear bx7 by7
      go_wp2_with fail
      refine (HQ3.out _ HB8.out).mono ?_
      rintro e w9 ⟨rfl, hb9⟩
      have HB9 : Hid (Below w.heap.size w w9) := Below.far (Below.far HBW.out HB8.out) hb9
      clear hb9 u0 u1 u2 s0 s1 s2 HQ3
      go_wp2_with fail
      go_ret
      exact ⟨rfl, HB9.out⟩

end Go.Proofs.YtpbiojnmegemdadDoor
