/- The program's own machine.New and machine.Check. -/
import Derived.Test.YtpbiojnmegemdadDoorVolGo
import Derived.Test.YtpbiojnmegemdadDoorSteps
import Derived.Test.YtpbiojnmegemdadDoorMachMem
import Derived.Deep.RegionLaw
import Derived.Deep.DeepCutAuto
import Derived.BigRegion
namespace Go.Proofs.YtpbiojnmegemdadDoor
open Go.RowKit
set_option linter.unusedVariables false
set_option linter.unusedSimpArgs false
attribute [local go_sem] app_list ext_list get_list byteAt_zero

/-- The last that Check's closure refuses. -/
def lastMay (x : LastM) : Bool := decide (0 ≤ x.num) && decide (x.num ≤ 1048576)
def lastVal (x : LastM) : Value := .agg #[.int .i64 x.num, .int .i64 x.rep.code, .int .i64 x.rep.n, .string ⟨x.rep.data.toArray⟩]

set_option maxHeartbeats 1000000 in
theorem wrongLast_any (x : LastM) (w : World) :
    Calls Tryd.prog 22 #[.agg #[.int .i64 x.num, .int .i64 x.rep.code, .int .i64 x.rep.n, .string ⟨x.rep.data.toArray⟩]] w fun e w' => e = .returned (.bool (!(lastMay x))) ∧ Below w.heap.size w w' := by
  obtain ⟨n, c, m, d⟩ := x
  simp only
  by_cases h1 : n < 0
  · have HL : Hid (lastMay ⟨n, ⟨c, m, d⟩⟩ = false) := by unfold Hid lastMay; simp; omega
    go_enter Tryd.func22, Tryd.ntmps22
    go_wp2_with fail
    go_ret
    exact ⟨by rw [HL.out]; rfl, below_alloc _ _⟩
  by_cases h2 : 1048576 < n
  · have HL : Hid (lastMay ⟨n, ⟨c, m, d⟩⟩ = false) := by unfold Hid lastMay; simp; omega
    go_enter Tryd.func22, Tryd.ntmps22
    go_wp2_with fail
    go_ret
    exact ⟨by rw [HL.out]; rfl, below_alloc _ _⟩
  · have HL : Hid (lastMay ⟨n, ⟨c, m, d⟩⟩ = true) := by unfold Hid lastMay; simp; omega
    go_enter Tryd.func22, Tryd.ntmps22
    go_wp2_with fail
    go_ret
    exact ⟨by rw [HL.out]; rfl, below_alloc _ _⟩

set_option maxHeartbeats 1000000 in
theorem indexLast_any (x : List LastM) (v : Value) (w : World) (hx : LastsAt w v x) :
    Calls Tryd.prog 33 #[v, .func (.func 22) #[] #[]] w fun e w' => ∃ n : Int, e = .returned (.int .i64 n) ∧ decide (0 ≤ n) = !(x.all lastMay) ∧ Below w.heap.size w w' := by
  obtain ⟨a, c, rfl, hlx, hcx⟩ := hx
  go_enter Tryd.func33, Tryd.ntmps33
  go_wp2_with fail
  go_loopw [8] (fun i wr => ∃ k : Nat, k ≤ x.length ∧ i = .int .i64 k ∧ (x.take k).all lastMay = true ∧ Below w.heap.size w wr) (fun i wr => x.length - (intOf i).toNat)
  case atStart => exact ⟨0, by omega, rfl, rfl, Below.refl _ _⟩
  case round =>
    obtain ⟨k, hk, rfl, he, hB⟩ := hrel
    have He : Hid ((x.take k).all lastMay = true) := he
    clear he
    by_cases hlt : k < x.length
    · obtain ⟨b, o, rfl, p0, p1, p2, p3, _⟩ := hcx k hlt
      have lb := lt_of_cell p0
      have r0 := (hB.cell (p := ⟨b, _, none⟩) lb).trans p0
      have r1 := (hB.cell (p := ⟨b, _, none⟩) lb).trans p1
      have r2 := (hB.cell (p := ⟨b, _, none⟩) lb).trans p2
      have r3 := (hB.cell (p := ⟨b, _, none⟩) lb).trans p3
      have HB : Hid (Below w.heap.size w wr) := hB
      have hg : x.getD k zeroLast = x[k] := by simp [List.getD, hlt]
      have k0 : (0 : Int) ≤ (k : Int) := by omega
      have k1 : (k : Int) < (x.length : Int) := by omega
      have lr : b < wr.heap.size := lt_of_cell r0
      clear p0 p1 p2 p3 hB lb
      rcases Bool.eq_false_or_eq_true (lastMay (x.getD k zeroLast)) with e | e
      · have HE : Hid ((x.take (k + 1)).all lastMay = true) := by
          unfold Hid
          rw [List.take_succ_eq_append_getElem hlt, List.all_append, He.out, ← hg]
          simpa using e
        have HW : Hid (Calls _ _ _ _ _) := wrongLast_any (x.getD k zeroLast) wr
        rw [e] at HW
        clear hg hcx e He
        generalize x.getD k zeroLast = y at *
        go_wp2_with (go_at_call 22; refine HW.out.mono ?_; rintro e w1 ⟨rfl, hb1⟩)
        go_roundw
        case rel => exact ⟨k + 1, by omega, by go_num, HE.out, Below.far HB.out hb1⟩
        case measure => simp [intOf]; omega
      · have HE : Hid (x.all lastMay = false) := by
          apply List.all_eq_false.2
          exact ⟨x[k], List.getElem_mem hlt, by rw [← hg]; simpa using e⟩
        have HW : Hid (Calls _ _ _ _ _) := wrongLast_any (x.getD k zeroLast) wr
        rw [e] at HW
        clear hg hcx e He
        generalize x.getD k zeroLast = y at *
        go_wp2_with (go_at_call 22; refine HW.out.mono ?_; rintro e w1 ⟨rfl, hb1⟩)
        go_ret
        exact ⟨_, rfl, by rw [HE.out]; simp, Below.far HB.out hb1⟩
    · have HE : Hid (x.all lastMay = true) := by
        have := He.out
        rw [List.take_of_length_le (by omega)] at this
        exact this
      have HB : Hid (Below w.heap.size w wr) := hB
      clear hB hcx
      go_wp2_with fail
      go_ret
      exact ⟨_, rfl, by rw [HE.out]; rfl, HB.out⟩

set_option maxHeartbeats 1000000 in
theorem machCheck_any (S : StateM) (v : Value) (w : World) (h : StAt w v S) :
    Calls Tryd.prog 13 #[v] w fun e w' => e = .returned (.int .i64 (stFault S)) ∧ Below w.heap.size w w' := by
  obtain ⟨vn, vs, vl, rfl, hv, hl⟩ := h
  have hmf : ∀ (fn : Fn) (first cap : Array Value) (w : World), (Instr.makeFunc fn first cap).run Tryd.prog w = .ok (.func fn first cap) w := fun _ _ _ _ => rfl
  have b0 := Box.new w 43 [vn, vs, vl]
  have hb := below_alloc w (.cells #[vn, vs, vl] 43)
  have HI : Hid (Calls _ _ _ _ _) := indexLast_any S.lasts vl _ (hl.below hb)
  have HV : Hid (∀ W, Below w.heap.size w W → Calls _ _ _ W _) := fun W hW => volCheck_any S.vol (.agg #[vn, vs]) W (hv.below hW)
  have HB : Hid (Below _ _ _) := hb
  obtain ⟨F, HF⟩ : ∃ F, Hid (volFault S.vol = F) := ⟨_, rfl⟩
  rw [HF.out] at HV
  obtain ⟨a, c, rfl, hla, _⟩ := hl
  have HB0 : Hid (Box _ _ _ _) := b0
  clear b0 hb hv
  by_cases h4 : (S.lasts.length : Int) = 4
  · have q4 : ((S.lasts.length : Int) != 4) = false := by simp [h4]
    have HS : Hid (lastsMay S.lasts = S.lasts.all lastMay) := by
      unfold Hid lastsMay
      have : S.lasts.length = 4 := by omega
      rw [this]
      rfl
    clear h4
    have hC : S.lasts.all lastMay = true ∨ S.lasts.all lastMay = false := by cases S.lasts.all lastMay <;> simp
    rcases hC with hC | hC
    · have HR : Hid (stFault S = F) := by unfold Hid stFault; rw [HS.out, hC, if_pos rfl]; exact HF.out
      rw [hC] at HI
      clear hC HS
      go_enter Tryd.func13, Tryd.ntmps13
      go_wp2_with (first
        | (go_at_call 33; refine HI.out.mono ?_; rintro e w1 ⟨n, rfl, HN, hb1⟩; simp only [Bool.not_true, Bool.not_false, decide_eq_true_eq, decide_eq_false_iff_not] at HN; have y0 := (HB0.out.below hb1 HB0.out.lt).cell 0 _ rfl; have y1 := (HB0.out.below hb1 HB0.out.lt).cell 1 _ rfl; have HB1 : Hid (Below w.heap.size w w1) := Below.far HB.out hb1; clear hb1)
        | (go_at_call 24; refine (HV.out _ HB1.out).mono ?_; rintro e w2 ⟨rfl, hb2⟩)
        | go_in)
      go_ret
      exact ⟨by rw [HR.out]; rfl, Below.far HB1.out hb2⟩
    · have HR : Hid (stFault S = 8) := by unfold Hid stFault; rw [HS.out, hC]; rfl
      rw [hC] at HI
      clear hC HS
      go_enter Tryd.func13, Tryd.ntmps13
      go_wp2_with (first
        | (go_at_call 33; refine HI.out.mono ?_; rintro e w1 ⟨n, rfl, HN, hb1⟩; simp only [Bool.not_true, Bool.not_false, decide_eq_true_eq, decide_eq_false_iff_not] at HN; have HB1 : Hid (Below w.heap.size w w1) := Below.far HB.out hb1; clear hb1)
        | go_in)
      go_ret
      exact ⟨by rw [HR.out]; rfl, HB1.out⟩
  · have q4 : ((S.lasts.length : Int) != 4) = true := by simp [h4]
    have HR : Hid (stFault S = 8) := by
      unfold Hid stFault lastsMay
      have : ¬ S.lasts.length = 4 := by omega
      simp [this]
    clear h4
    go_enter Tryd.func13, Tryd.ntmps13
    go_wp2_with fail
    go_ret
    exact ⟨by rw [HR.out]; rfl, HB.out⟩

theorem goMakeLasts4 (w : World) : (Instr.makeSlice 41 (.int .i64 4) (.int .i64 4)).run Tryd.prog w = .ok (.slice (some ⟨w.heap.size, 0, none⟩) 4 4) (w.alloc (.cells #[.int .i64 0, .int .i64 0, .int .i64 0, .string ⟨#[]⟩, .int .i64 0, .int .i64 0, .int .i64 0, .string ⟨#[]⟩, .int .i64 0, .int .i64 0, .int .i64 0, .string ⟨#[]⟩, .int .i64 0, .int .i64 0, .int .i64 0, .string ⟨#[]⟩] 51)) := by kernel_rfl
theorem enter_volNew (us : Array Value) (w : World) : (callFunc 28 us).run Tryd.prog w = .ok (.enter 28 us) w := by kernel_rfl

theorem newSt_fin {w wL : World} {B g : Nat} {vn vs : Value} (hv : VolNew wL B (.agg #[vn, vs]) newVol) (hB : w.heap.size < B)
    (hl : Box wL g 51 [.int .i64 0, .int .i64 0, .int .i64 0, .string ⟨#[]⟩, .int .i64 0, .int .i64 0, .int .i64 0, .string ⟨#[]⟩, .int .i64 0, .int .i64 0, .int .i64 0, .string ⟨#[]⟩, .int .i64 0, .int .i64 0, .int .i64 0, .string ⟨#[]⟩]) (hg : w.heap.size < g) (hb : Below w.heap.size w wL) (t0 t1 t2 : Value) :
    StNew (((wL.setCell ⟨w.heap.size, 0, none⟩ t0).setCell ⟨w.heap.size, 1, none⟩ t1).setCell ⟨w.heap.size, 2, none⟩ t2) w.heap.size (.agg #[vn, vs, .slice (some ⟨g, 0, none⟩) 4 4]) newSt ∧
    Below w.heap.size w (((wL.setCell ⟨w.heap.size, 0, none⟩ t0).setCell ⟨w.heap.size, 1, none⟩ t1).setCell ⟨w.heap.size, 2, none⟩ t2) := by
  have h9 : StNew wL (w.heap.size + 1) (.agg #[vn, vs, .slice (some ⟨g, 0, none⟩) 4 4]) newSt := ⟨_, _, _, rfl, hv.base hB, own_box hl hg 4 4 rfl (by decide)⟩
  exact ⟨(((h9.other (a := ⟨w.heap.size, 0, none⟩) (by simp) t0).other (a := ⟨w.heap.size, 1, none⟩) (by simp) t1).other (a := ⟨w.heap.size, 2, none⟩) (by simp) t2).base (by omega), ((hb.setCell (by simp) _).setCell (by simp) _).setCell (by simp) _⟩

theorem newSt_fin1 {w wA : World} {B : Nat} {vn vs : Value} (hv : VolNew wA B (.agg #[vn, vs]) newVol) (hB : w.heap.size < B) (hg : w.heap.size < wA.heap.size) (hb : Below w.heap.size w wA) (t0 t1 t2 : Value) :
    StNew ((((wA.setCell ⟨w.heap.size, 0, none⟩ t0).setCell ⟨w.heap.size, 1, none⟩ t1).setCell ⟨w.heap.size, 2, none⟩ t2).alloc (.cells #[.int .i64 0, .int .i64 0, .int .i64 0, .string ⟨#[]⟩, .int .i64 0, .int .i64 0, .int .i64 0, .string ⟨#[]⟩, .int .i64 0, .int .i64 0, .int .i64 0, .string ⟨#[]⟩, .int .i64 0, .int .i64 0, .int .i64 0, .string ⟨#[]⟩] 51)) w.heap.size (.agg #[vn, vs, .slice (some ⟨wA.heap.size, 0, none⟩) 4 4]) newSt ∧
    Below w.heap.size w ((((wA.setCell ⟨w.heap.size, 0, none⟩ t0).setCell ⟨w.heap.size, 1, none⟩ t1).setCell ⟨w.heap.size, 2, none⟩ t2).alloc (.cells #[.int .i64 0, .int .i64 0, .int .i64 0, .string ⟨#[]⟩, .int .i64 0, .int .i64 0, .int .i64 0, .string ⟨#[]⟩, .int .i64 0, .int .i64 0, .int .i64 0, .string ⟨#[]⟩, .int .i64 0, .int .i64 0, .int .i64 0, .string ⟨#[]⟩] 51)) := by
  have h3 : Below w.heap.size w (((wA.setCell ⟨w.heap.size, 0, none⟩ t0).setCell ⟨w.heap.size, 1, none⟩ t1).setCell ⟨w.heap.size, 2, none⟩ t2) := ((hb.setCell (by simp) _).setCell (by simp) _).setCell (by simp) _
  have h4 := ((hv.other (a := ⟨w.heap.size, 0, none⟩) hB t0).other (a := ⟨w.heap.size, 1, none⟩) hB t1).other (a := ⟨w.heap.size, 2, none⟩) hB t2
  obtain ⟨W, hW⟩ : ∃ W, W = ((wA.setCell ⟨w.heap.size, 0, none⟩ t0).setCell ⟨w.heap.size, 1, none⟩ t1).setCell ⟨w.heap.size, 2, none⟩ t2 := ⟨_, rfl⟩
  have hs : W.heap.size = wA.heap.size := by rw [hW]; simp [World.setCell]
  rw [← hW] at h3 h4 ⊢
  have b := Box.new W 51 [.int .i64 0, .int .i64 0, .int .i64 0, .string ⟨#[]⟩, .int .i64 0, .int .i64 0, .int .i64 0, .string ⟨#[]⟩, .int .i64 0, .int .i64 0, .int .i64 0, .string ⟨#[]⟩, .int .i64 0, .int .i64 0, .int .i64 0, .string ⟨#[]⟩]
  rw [hs] at b
  exact ⟨⟨_, _, _, rfl, (h4.below (below_alloc W _)).base (by omega), own_box b (by omega) 4 4 rfl (by decide)⟩, Below.up h3 _⟩

set_option maxHeartbeats 1000000 in
theorem machNew_any (w : World) :
    Calls Tryd.prog 20 #[] w fun e w' => ∃ v', e = .returned v' ∧ StNew w' w.heap.size v' newSt ∧ Below w.heap.size w w' := by
  have k2 := goMakeLasts4
  obtain ⟨w0, hw0⟩ : ∃ w0, w0 = w.alloc (.cells #[.slice none 0 0, .slice none 0 0, .slice none 0 0] 43) := ⟨_, rfl⟩
  have b0 := Box.new w 43 [.slice none 0 0, .slice none 0 0, .slice none 0 0]
  have hb := below_alloc w (.cells #[.slice none 0 0, .slice none 0 0, .slice none 0 0] 43)
  have hs : w0.heap.size = w.heap.size + 1 := by rw [hw0]; simp
  rw [show w.alloc (.cells [.slice none 0 0, .slice none 0 0, .slice none 0 0].toArray 43) = w0 from hw0.symm] at b0
  rw [← hw0] at hb
  go_enter Tryd.func20, Tryd.ntmps20
  go_upto_region 1 with fail
  rw [← hw0]
  clear hw0
  have HB0 : Hid (Box w0 w.heap.size _ _) := b0
  have HBW : Hid (Below w.heap.size w w0) := hb
  have x0 := b0.cell 0 _ rfl
  have x1 := b0.cell 1 _ rfl
  have x2 := b0.cell 2 _ rfl
  have z0 := b0.frozen 0
  have z1 := b0.frozen 1
  have z2 := b0.frozen 2
  clear b0 hb
  go_region_law
    ((first
      | (refine step_go _ (by rfl) 28 [] _ (by rfl) [] (by rfl) enter_volNew _ (volNew_any _) ?_
         rintro u' wA ⟨hn3, hbA⟩
         obtain ⟨a1, c1, a2, c2, hu4⟩ := hn3.form
         subst hu4
         have hAU : Below w0.heap.size w0 wA := by (repeat (first | exact Below.refl _ _ | assumption | apply Below.drew | apply Below.up | (refine Below.far ?_ (by assumption))))
         have EA : Box wA w.heap.size _ _ := HB0.out.below hAU HB0.out.lt
         have xa0 := EA.cell 0 _ rfl
         have xa1 := EA.cell 1 _ rfl
         have xa2 := EA.cell 2 _ rfl
         have za0 := EA.frozen 0
         have za1 := EA.frozen 1
         have za2 := EA.frozen 2
         have qa := EA.lt)))
  all_goals go_wp2_with fail
  · have HF : Hid (StNew _ _ _ _ ∧ Below _ _ _) := newSt_fin1 (w := w) hn3 (by simp [hs]) qa (Below.far HBW.out hAU) (.slice a1 newVol.now.length c1) (.slice a2 newVol.snaps.length c2) (.slice (some ⟨wA.heap.size, 0, none⟩) 4 4)
    refine bodyPost_ret (v := .agg #[.slice a1 newVol.now.length c1, .slice a2 newVol.snaps.length c2, .slice (some ⟨wA.heap.size, 0, none⟩) 4 4]) ?_ rfl ?_
    · clear HF hn3 hbA hAU EA
      simp [results, Tryd.results20, go_sem, *]
    · exact ⟨_, rfl, HF.out.1, HF.out.2⟩
  · have BL : Box wA (w.heap.size + 1) 51 [.int .i64 0, .int .i64 0, .int .i64 0, .string ⟨#[]⟩, .int .i64 0, .int .i64 0, .int .i64 0, .string ⟨#[]⟩, .int .i64 0, .int .i64 0, .int .i64 0, .string ⟨#[]⟩, .int .i64 0, .int .i64 0, .int .i64 0, .string ⟨#[]⟩] := by
      have := (Box.new w0.drew 51 [.int .i64 0, .int .i64 0, .int .i64 0, .string ⟨#[]⟩, .int .i64 0, .int .i64 0, .int .i64 0, .string ⟨#[]⟩, .int .i64 0, .int .i64 0, .int .i64 0, .string ⟨#[]⟩, .int .i64 0, .int .i64 0, .int .i64 0, .string ⟨#[]⟩]).below hbA (by simp)
      rw [show w0.drew.heap.size = w.heap.size + 1 from hs] at this
      exact this
    have HF : Hid (StNew _ _ _ _ ∧ Below _ _ _) := newSt_fin (w := w) hn3 (by simp [hs]; try omega) BL (by omega) (Below.far HBW.out hAU) (.slice a1 newVol.now.length c1) (.slice a2 newVol.snaps.length c2) (.slice (some ⟨w.heap.size + 1, 0, none⟩) 4 4)
    refine bodyPost_ret (v := .agg #[.slice a1 newVol.now.length c1, .slice a2 newVol.snaps.length c2, .slice (some ⟨w.heap.size + 1, 0, none⟩) 4 4]) ?_ rfl ?_
    · clear HF hn3 hbA hAU EA BL
      simp [results, Tryd.results20, go_sem, *]
    · exact ⟨_, rfl, HF.out.1, HF.out.2⟩

end Go.Proofs.YtpbiojnmegemdadDoor
