/- The laws' own functions kept and same. -/
import Derived.Test.YtdnogggadocilaeDoorSlotsMath
import Derived.Test.YtdnogggadocilaeDoorStageMem
import Derived.Test.YtdnogggadocilaeDoorEntriesIs
import Derived.Test.YtdnogggadocilaeDoorEqStrs
namespace Go.Proofs.YtdnogggadocilaeDoor
open Go.RowKit
set_option linter.unusedVariables false
set_option linter.unusedSimpArgs false
attribute [local go_sem] app_list ext_list get_list byteAt_zero

set_option maxRecDepth 4000 in
set_option maxHeartbeats 2000000 in
theorem keptRaw_any (l : List RawM) (n : Int) (v : Value) (w : World) (h : Raws w v l) (ht : Tab w) (h0 : -9223372036854775808 ≤ n) (h1 : n ≤ 9223372036854775807) :
    Calls Tryd.prog 5 #[v, .int .i64 n] w fun e w' => ∃ v', e = .returned v' ∧ KeptNew w' w.heap.size v' (keptRaw l n) ∧ Below w.heap.size w w' := by
  have b0 := Box.new w 25 [.int .i64 0, .int .i64 0, .bool false, .slice none 0 0, .int .i64 0]
  have hb := below_alloc w (.cells #[.int .i64 0, .int .i64 0, .bool false, .slice none 0 0, .int .i64 0] 25)
  obtain ⟨w0, hw0⟩ : ∃ w0, w0 = w.alloc (.cells #[.int .i64 0, .int .i64 0, .bool false, .slice none 0 0, .int .i64 0] 25) := ⟨_, rfl⟩
  have HR : Hid (Calls _ _ _ w0 _) := requests_any l 30 v w0 (h.below (by rw [hw0]; exact hb)) (ht.below (by rw [hw0]; exact hb)) (by decide)
  have h30 : (l.take 30).length ≤ 30 := List.length_take_le _ _
  have hok := reqsOf_ok (l.take 30) nx0 0 rfl (by omega) (by intro x hx; simp [nx0] at hx; omega)
  have hql := reqsOf_len nx0 (l.take 30)
  have hmin : min l.length 30 = (reqsOf nx0 (l.take 30)).length := by rw [hql, List.length_take, Nat.min_comm]
  have HKR : Hid (keptRaw l n = ⟨3 + pickN n 50, 3, false, (reqsOf nx0 (l.take 30)).map entryB, pickN n ((((reqsOf nx0 (l.take 30)).map entryB).length : Int) + 1)⟩) := by
    unfold Hid keptRaw
    rw [List.length_map, hql]
  have hq30 : (reqsOf nx0 (l.take 30)).length ≤ 30 := by omega
  rw [hmin] at HR
  obtain ⟨q, hq⟩ : ∃ q, reqsOf nx0 (l.take 30) = q := ⟨_, rfl⟩
  rw [hq] at HR hok hq30 HKR
  have HOK : Hid (∀ r ∈ q, reqFault r = 0) := hok
  obtain ⟨a, c, rfl, _⟩ := h
  clear hq hmin hql hok h30 ht
  have HP1 : Hid (∀ w, Calls _ _ _ w _) := fun w => picked_any n 50 w h0 h1 (by decide) (by decide)
  have hp50 := pickN_bd n 50 (by decide)
  go_enter Tryd.func5, Tryd.ntmps5
  go_upto_region 1 with fail
  rw [← hw0] at b0 hb ⊢
  clear hw0
  have HB0 : Hid (Box w0 w.heap.size _ _) := b0
  have HW0 : Hid (Below w.heap.size w w0) := hb
  clear b0 hb
  go_wp2_with fail
  refine HR.out.mono ?_
  rintro e w1 ⟨v1, rfl, hown1, hb1⟩
  have hra : ReqsAt w1 v1 q := ReqsAt.of_own hown1 (by omega)
  obtain ⟨E, hE, hEl, hE0, hE40, HC⟩ := entries_is q v1 w1 hra HOK.out
  obtain ⟨a1, c1, rfl⟩ := own_formN hown1
  have HCC : Hid (Calls _ _ _ _ _) := HC
  rw [← hE] at HKR
  have HB1 : Hid (Box w1 w.heap.size _ _) := HB0.out.below hb1 HB0.out.lt
  have HW1 : Hid (Below w.heap.size w w1) := Below.far HW0.out hb1
  have hEl30 : E.length ≤ 30 := by omega
  clear hown1 hra hE hE0 hE40 HC hb1 HB0 HW0 HR hEl
  go_wp2_with fail
  refine HCC.out.mono ?_
  rintro e w2 ⟨v2, rfl, hown2, hb2⟩
  obtain ⟨a2, c2, rfl⟩ := own_formN hown2
  have HB2 : Hid (Box w2 w.heap.size _ _) := HB1.out.below hb2 HB1.out.lt
  have HW2 : Hid (Below w.heap.size w w2) := Below.far HW1.out hb2
  have HO2 : Hid (World.ownsRow w2 w.heap.size 9 1 _ _ _) := own_base hown2 HW1.out.size
  have HP2 : Hid (∀ w, Calls _ _ _ w _) := fun w => picked_any n ((E.length : Int) + 1) w h0 h1 (by omega) (by omega)
  have hpE := pickN_bd n ((E.length : Int) + 1) (by omega)
  obtain ⟨p1, hp1⟩ : ∃ p1, pickN n 50 = p1 := ⟨_, rfl⟩
  obtain ⟨p2, hp2⟩ : ∃ p2, pickN n ((E.length : Int) + 1) = p2 := ⟨_, rfl⟩
  rw [hp1] at HP1 HKR hp50
  rw [hp2] at HP2 HKR hpE
  clear hown2 hb2 HB1 HW1 HCC hp1 hp2
  go_wp2_with fail
  refine (HP1.out _).mono ?_
  rintro e w3 ⟨rfl, hw3⟩
  subst hw3
  go_wp2_with fail
  refine (HP2.out _).mono ?_
  rintro e w4 ⟨rfl, hw4⟩
  subst hw4
  have RJ := HB2.out
  have hbJ := HW2.out
  have HKN : Hid (KeptNew w4 w.heap.size (.agg #[.int .i64 (3 + p1), .int .i64 3, .bool false, .slice a2 E.length c2, .int .i64 p2]) (keptRaw l n)) := by
    unfold Hid
    rw [HKR.out]
    exact ⟨_, rfl, HO2.out⟩
  have HN : Hid (KeptNew _ w.heap.size _ (keptRaw l n)) := ((((HKN.out.type RJ (by decide) 0 (.int .i64 (3 + p1))).type (RJ.set 0 _) (by decide) 1 (.int .i64 3)).type ((RJ.set 0 _).set 1 _) (by decide) 2 (.bool false)).type (((RJ.set 0 _).set 1 _).set 2 _) (by decide) 3 (.slice a2 E.length c2)).type ((((RJ.set 0 _).set 1 _).set 2 _).set 3 _) (by decide) 4 (.int .i64 p2)
  have r0 := RJ.cell 0 _ rfl
  have r1 := RJ.cell 1 _ rfl
  have r2 := RJ.cell 2 _ rfl
  have r3 := RJ.cell 3 _ rfl
  have r4 := RJ.cell 4 _ rfl
  have f0 := RJ.frozen 0
  have f1 := RJ.frozen 1
  have f2 := RJ.frozen 2
  have f3 := RJ.frozen 3
  have f4 := RJ.frozen 4
  have HB : Hid (Below w.heap.size w _) := (((((hbJ.setCell (p := ⟨w.heap.size, 0, none⟩) (by simp) (.int .i64 (3 + p1))).setCell (p := ⟨w.heap.size, 1, none⟩) (by simp) (.int .i64 3)).setCell (p := ⟨w.heap.size, 2, none⟩) (by simp) (.bool false)).setCell (p := ⟨w.heap.size, 3, none⟩) (by simp) (.slice a2 E.length c2)).setCell (p := ⟨w.heap.size, 4, none⟩) (by simp) (.int .i64 p2))
  clear RJ hbJ HKN HO2 HB2 HW2 HP1 HP2 HKR HOK
  go_wp2_with fail
  exact bodyPost_ret (v := .agg #[.int .i64 (3 + p1), .int .i64 3, .bool false, .slice a2 E.length c2, .int .i64 p2]) (by clear HB HN; simp [results, Tryd.results5, go_sem, *]) rfl ⟨_, rfl, HN.out, HB.out⟩

set_option maxRecDepth 4000 in
set_option maxHeartbeats 2000000 in
theorem same_same (K : KeptM) (v v' : Value) (w : World) (h : KeptAt w v K) (h' : KeptAt w v' K) :
    Calls Tryd.prog 11 #[v, v'] w fun e w' => e = .returned (.bool true) ∧ Below w.heap.size w w' := by
  obtain ⟨vl, rfl, hs⟩ := h
  obtain ⟨vl', rfl, hs'⟩ := h'
  obtain ⟨vw, nm, cm, l, ct⟩ := K
  simp only at hs hs' ⊢
  have HE : Hid (∀ W, Below w.heap.size w W → Calls _ _ _ W _) := fun W hW => equalStrs_same l _ _ W (hs.below hW) (hs'.below hW)
  obtain ⟨a, c, rfl, hlx, hcx⟩ := hs
  obtain ⟨a', c', rfl, _, hcy⟩ := hs'
  obtain ⟨b0, b1, hb⟩ := boxes2 w 25 25 [.int .i64 vw, .int .i64 nm, .bool cm, .slice a l.length c, .int .i64 ct] [.int .i64 vw, .int .i64 nm, .bool cm, .slice a' l.length c', .int .i64 ct]
  obtain ⟨w0, hw0⟩ : ∃ w0, w0 = (w.alloc (.cells #[.int .i64 vw, .int .i64 nm, .bool cm, .slice a l.length c, .int .i64 ct] 25)).alloc (.cells #[.int .i64 vw, .int .i64 nm, .bool cm, .slice a' l.length c', .int .i64 ct] 25) := ⟨_, rfl⟩
  clear hcx hcy
  go_enter Tryd.func11, Tryd.ntmps11
  go_upto_region 1 with fail
  rw [← hw0] at b0 b1 hb ⊢
  clear hw0
  have x0 := b0.cell 0 _ rfl
  have x1 := b0.cell 1 _ rfl
  have x2 := b0.cell 2 _ rfl
  have x3 := b0.cell 3 _ rfl
  have x4 := b0.cell 4 _ rfl
  have y0 := b1.cell 0 _ rfl
  have y1 := b1.cell 1 _ rfl
  have y2 := b1.cell 2 _ rfl
  have y3 := b1.cell 3 _ rfl
  have y4 := b1.cell 4 _ rfl
  have lb := b1.lt
  have HBW : Hid (Below w.heap.size w w0) := hb
  have q1 : (vw == vw) = true := by simp
  have q2 : (nm == nm) = true := by simp
  have q3 : (cm == cm) = true := by simp
  have q4 : (ct == ct) = true := by simp
  clear b0 b1 hb
  go_wp2_with fail
  refine (HE.out _ HBW.out).mono ?_
  rintro e w1 ⟨rfl, hb1⟩
  have HB1 : Hid (Below w.heap.size w w1) := Below.far HBW.out hb1
  clear hb1 HE x0 x1 x2 x3 x4 y0 y1 y2 y3 y4
  go_wp2_with fail
  go_ret
  exact ⟨rfl, HB1.out⟩

end Go.Proofs.YtdnogggadocilaeDoor
