/- The program's own machine.New and machine.Check. -/
import Derived.Test.YtmdgkjbiicaljahGreatDoorJointVolGo
import Derived.Test.YtmdgkjbiicaljahGreatDoorJointMachGoCopy
import Derived.Test.YtmdgkjbiicaljahGreatDoorJointSlotsMath
import Derived.Deep.RegionLaw
import Derived.Deep.DeepCutAuto
import Derived.BigRegion
set_option linter.unusedVariables false
set_option linter.unusedSimpArgs false
namespace Go.Proofs.YtmdgkjbiicaljahGreatDoor
open Go.RowKit
attribute [local go_sem] app_list ext_list get_list byteAt_zero

/-- The last that Check's closure refuses. -/
def lastMay (x : LastM) : Bool := decide (0 ≤ x.num) && decide (x.num ≤ 1048576)

set_option maxRecDepth 4000 in
set_option maxHeartbeats 1000000 in
theorem wrongLast_any (x : LastM) (w : World) :
    Calls Tryz.prog 72 #[.agg #[.int .i64 x.num, .int .i64 x.rep.code, .int .i64 x.rep.n, .string ⟨x.rep.data.toArray⟩]] w fun e w' => e = .returned (.bool (!(lastMay x))) ∧ Below w.heap.size w w' := by
  obtain ⟨n, c, m, d⟩ := x
  simp only
  by_cases h1 : n < 0
  · have HL : Hid (lastMay ⟨n, ⟨c, m, d⟩⟩ = false) := by unfold Hid lastMay; simp; omega
    go_enter Tryz.func72, Tryz.ntmps72
    go_wp2_with fail
    go_ret
    exact ⟨by rw [HL.out]; rfl, below_alloc _ _⟩
  by_cases h2 : 1048576 < n
  · have HL : Hid (lastMay ⟨n, ⟨c, m, d⟩⟩ = false) := by unfold Hid lastMay; simp; omega
    go_enter Tryz.func72, Tryz.ntmps72
    go_wp2_with fail
    go_ret
    exact ⟨by rw [HL.out]; rfl, below_alloc _ _⟩
  · have HL : Hid (lastMay ⟨n, ⟨c, m, d⟩⟩ = true) := by unfold Hid lastMay; simp; omega
    go_enter Tryz.func72, Tryz.ntmps72
    go_wp2_with fail
    go_ret
    exact ⟨by rw [HL.out]; rfl, below_alloc _ _⟩

set_option maxRecDepth 4000 in
set_option maxHeartbeats 1000000 in
theorem indexLast_any (x : List LastM) (v : Value) (w : World) (hx : LastsAt w v x) :
    Calls Tryz.prog 104 #[v, .func (.func 72) #[] #[]] w fun e w' => ∃ n : Int, e = .returned (.int .i64 n) ∧ decide (0 ≤ n) = !(x.all lastMay) ∧ Below w.heap.size w w' := by
  obtain ⟨a, c, rfl, hlx, hcx⟩ := hx
  go_enter Tryz.func104, Tryz.ntmps104
  go_wp2_with fail
  go_loopw [8] (fun i wr => ∃ k : Nat, k ≤ x.length ∧ i = .int .i64 k ∧ (x.take k).all lastMay = true ∧ Below w.heap.size w wr) (fun i wr => x.length - (intOf i).toNat)
  case atStart => exact ⟨0, by omega, rfl, rfl, Below.refl _ _⟩
  case round =>
    obtain ⟨k, hk, rfl, he, hB⟩ := hrel
    have He : Hid ((x.take k).all lastMay = true) := he
    clear he
    by_cases hlt : k < x.length
    · obtain ⟨b, o, rfl, p0, p1, p2, p3, _⟩ := hcx k hlt
      have lb := lt_of_cell p0
      have r0 := (hB.cell (p := ⟨b, _, none⟩) lb).trans p0
      have r1 := (hB.cell (p := ⟨b, _, none⟩) lb).trans p1
      have r2 := (hB.cell (p := ⟨b, _, none⟩) lb).trans p2
      have r3 := (hB.cell (p := ⟨b, _, none⟩) lb).trans p3
      have HB : Hid (Below w.heap.size w wr) := hB
      have hg : x.getD k zeroLast = x[k] := by simp [List.getD, hlt]
      have k0 : (0 : Int) ≤ (k : Int) := by omega
      have k1 : (k : Int) < (x.length : Int) := by omega
      have lr : b < wr.heap.size := lt_of_cell r0
      clear p0 p1 p2 p3 hB lb
      rcases Bool.eq_false_or_eq_true (lastMay (x.getD k zeroLast)) with e | e
      · have HE : Hid ((x.take (k + 1)).all lastMay = true) := by
          unfold Hid
          rw [List.take_succ_eq_append_getElem hlt, List.all_append, He.out, ← hg]
          simpa using e
        have HW : Hid (Calls _ _ _ _ _) := wrongLast_any (x.getD k zeroLast) wr
        rw [e] at HW
        clear hg hcx e He
        generalize x.getD k zeroLast = y at *
        go_wp2_with (go_at_call 72; refine HW.out.mono ?_; rintro e w1 ⟨rfl, hb1⟩)
        go_roundw
        case rel => exact ⟨k + 1, by omega, by go_num, HE.out, Below.far HB.out hb1⟩
        case measure => simp [intOf]; omega
      · have HE : Hid (x.all lastMay = false) := by
          apply List.all_eq_false.2
          exact ⟨x[k], List.getElem_mem hlt, by rw [← hg]; simpa using e⟩
        have HW : Hid (Calls _ _ _ _ _) := wrongLast_any (x.getD k zeroLast) wr
        rw [e] at HW
        clear hg hcx e He
        generalize x.getD k zeroLast = y at *
        go_wp2_with (go_at_call 72; refine HW.out.mono ?_; rintro e w1 ⟨rfl, hb1⟩)
        go_ret
        exact ⟨_, rfl, by rw [HE.out]; simp, Below.far HB.out hb1⟩
    · have HE : Hid (x.all lastMay = true) := by
        have := He.out
        rw [List.take_of_length_le (by omega)] at this
        exact this
      have HB : Hid (Below w.heap.size w wr) := hB
      clear hB hcx
      go_wp2_with fail
      go_ret
      exact ⟨_, rfl, by rw [HE.out]; rfl, HB.out⟩

set_option maxRecDepth 4000 in
set_option maxHeartbeats 1000000 in
theorem machCheck_any (S : StateM) (v : Value) (w : World) (h : StAt w v S) :
    Calls Tryz.prog 47 #[v] w fun e w' => e = .returned (.int .i64 (stFault S)) ∧ Below w.heap.size w w' := by
  obtain ⟨vn, vs, vl, rfl, hv, hl⟩ := h
  have hmf : ∀ (fn : Fn) (first cap : Array Value) (w : World), (Instr.makeFunc fn first cap).run Tryz.prog w = .ok (.func fn first cap) w := fun _ _ _ _ => rfl
  have b0 := Box.new w 72 [vn, vs, vl]
  have hb := below_alloc w (.cells #[vn, vs, vl] 72)
  have HI : Hid (Calls _ _ _ _ _) := indexLast_any S.lasts vl _ (hl.below hb)
  have HV : Hid (∀ W, Below w.heap.size w W → Calls _ _ _ W _) := fun W hW => volCheck_any S.vol (.agg #[vn, vs]) W (hv.below hW)
  have HB : Hid (Below _ _ _) := hb
  obtain ⟨F, HF⟩ : ∃ F, Hid (volFault S.vol = F) := ⟨_, rfl⟩
  rw [HF.out] at HV
  obtain ⟨a, c, rfl, hla, _⟩ := hl
  have HB0 : Hid (Box _ _ _ _) := b0
  clear b0 hb hv
  by_cases h4 : (S.lasts.length : Int) = 4
  · have q4 : ((S.lasts.length : Int) != 4) = false := by simp [h4]
    have HS : Hid (lastsMay S.lasts = S.lasts.all lastMay) := by
      unfold Hid lastsMay
      have : S.lasts.length = 4 := by omega
      rw [this]
      rfl
    clear h4
    have hC : S.lasts.all lastMay = true ∨ S.lasts.all lastMay = false := by cases S.lasts.all lastMay <;> simp
    rcases hC with hC | hC
    · have HR : Hid (stFault S = F) := by unfold Hid stFault; rw [HS.out, hC, if_pos rfl]; exact HF.out
      rw [hC] at HI
      clear hC HS
      go_enter Tryz.func47, Tryz.ntmps47
      go_wp2_with (first
        | (go_at_call 104; refine HI.out.mono ?_; rintro e w1 ⟨n, rfl, HN, hb1⟩; simp only [Bool.not_true, Bool.not_false, decide_eq_true_eq, decide_eq_false_iff_not] at HN; have y0 := (HB0.out.below hb1 HB0.out.lt).cell 0 _ rfl; have y1 := (HB0.out.below hb1 HB0.out.lt).cell 1 _ rfl; have HB1 : Hid (Below w.heap.size w w1) := Below.far HB.out hb1; clear hb1)
        | (go_at_call 74; refine (HV.out _ HB1.out).mono ?_; rintro e w2 ⟨rfl, hb2⟩)
        | go_in)
      go_ret
      exact ⟨by rw [HR.out]; rfl, Below.far HB1.out hb2⟩
    · have HR : Hid (stFault S = 8) := by unfold Hid stFault; rw [HS.out, hC]; rfl
      rw [hC] at HI
      clear hC HS
      go_enter Tryz.func47, Tryz.ntmps47
      go_wp2_with (first
        | (go_at_call 104; refine HI.out.mono ?_; rintro e w1 ⟨n, rfl, HN, hb1⟩; simp only [Bool.not_true, Bool.not_false, decide_eq_true_eq, decide_eq_false_iff_not] at HN; have HB1 : Hid (Below w.heap.size w w1) := Below.far HB.out hb1; clear hb1)
        | go_in)
      go_ret
      exact ⟨by rw [HR.out]; rfl, HB1.out⟩
  · have q4 : ((S.lasts.length : Int) != 4) = true := by simp [h4]
    have HR : Hid (stFault S = 8) := by
      unfold Hid stFault lastsMay
      have : ¬ S.lasts.length = 4 := by omega
      simp [this]
    clear h4
    go_enter Tryz.func47, Tryz.ntmps47
    go_wp2_with fail
    go_ret
    exact ⟨by rw [HR.out]; rfl, HB.out⟩

theorem goMakeLasts4 (w : World) : (Instr.makeSlice 70 (.int .i64 4) (.int .i64 4)).run Tryz.prog w = .ok (.slice (some ⟨w.heap.size, 0, none⟩) 4 4) (w.alloc (.cells #[.int .i64 0, .int .i64 0, .int .i64 0, .string ⟨#[]⟩, .int .i64 0, .int .i64 0, .int .i64 0, .string ⟨#[]⟩, .int .i64 0, .int .i64 0, .int .i64 0, .string ⟨#[]⟩, .int .i64 0, .int .i64 0, .int .i64 0, .string ⟨#[]⟩] 76)) := by kernel_rfl
theorem enter_volNew (us : Array Value) (w : World) : (callFunc 46 us).run Tryz.prog w = .ok (.enter 46 us) w := by kernel_rfl

theorem newSt_fin {w wL : World} {B g : Nat} {vn vs : Value} (hv : VolNew wL B (.agg #[vn, vs]) newVol) (hB : w.heap.size < B)
    (hl : Box wL g 76 [.int .i64 0, .int .i64 0, .int .i64 0, .string ⟨#[]⟩, .int .i64 0, .int .i64 0, .int .i64 0, .string ⟨#[]⟩, .int .i64 0, .int .i64 0, .int .i64 0, .string ⟨#[]⟩, .int .i64 0, .int .i64 0, .int .i64 0, .string ⟨#[]⟩]) (hg : w.heap.size < g) (hb : Below w.heap.size w wL) (t0 t1 t2 : Value) :
    StNew (((wL.setCell ⟨w.heap.size, 0, none⟩ t0).setCell ⟨w.heap.size, 1, none⟩ t1).setCell ⟨w.heap.size, 2, none⟩ t2) w.heap.size (.agg #[vn, vs, .slice (some ⟨g, 0, none⟩) 4 4]) newSt ∧
    Below w.heap.size w (((wL.setCell ⟨w.heap.size, 0, none⟩ t0).setCell ⟨w.heap.size, 1, none⟩ t1).setCell ⟨w.heap.size, 2, none⟩ t2) := by
  have h9 : StNew wL (w.heap.size + 1) (.agg #[vn, vs, .slice (some ⟨g, 0, none⟩) 4 4]) newSt := ⟨_, _, _, rfl, hv.base hB, own_box hl hg 4 4 rfl (by decide)⟩
  exact ⟨(((h9.other (a := ⟨w.heap.size, 0, none⟩) (by simp) t0).other (a := ⟨w.heap.size, 1, none⟩) (by simp) t1).other (a := ⟨w.heap.size, 2, none⟩) (by simp) t2).base (by omega), ((hb.setCell (by simp) _).setCell (by simp) _).setCell (by simp) _⟩

theorem newSt_fin1 {w wA : World} {B : Nat} {vn vs : Value} (hv : VolNew wA B (.agg #[vn, vs]) newVol) (hB : w.heap.size < B) (hg : w.heap.size < wA.heap.size) (hb : Below w.heap.size w wA) (t0 t1 t2 : Value) :
    StNew ((((wA.setCell ⟨w.heap.size, 0, none⟩ t0).setCell ⟨w.heap.size, 1, none⟩ t1).setCell ⟨w.heap.size, 2, none⟩ t2).alloc (.cells #[.int .i64 0, .int .i64 0, .int .i64 0, .string ⟨#[]⟩, .int .i64 0, .int .i64 0, .int .i64 0, .string ⟨#[]⟩, .int .i64 0, .int .i64 0, .int .i64 0, .string ⟨#[]⟩, .int .i64 0, .int .i64 0, .int .i64 0, .string ⟨#[]⟩] 76)) w.heap.size (.agg #[vn, vs, .slice (some ⟨wA.heap.size, 0, none⟩) 4 4]) newSt ∧
    Below w.heap.size w ((((wA.setCell ⟨w.heap.size, 0, none⟩ t0).setCell ⟨w.heap.size, 1, none⟩ t1).setCell ⟨w.heap.size, 2, none⟩ t2).alloc (.cells #[.int .i64 0, .int .i64 0, .int .i64 0, .string ⟨#[]⟩, .int .i64 0, .int .i64 0, .int .i64 0, .string ⟨#[]⟩, .int .i64 0, .int .i64 0, .int .i64 0, .string ⟨#[]⟩, .int .i64 0, .int .i64 0, .int .i64 0, .string ⟨#[]⟩] 76)) := by
  have h3 : Below w.heap.size w (((wA.setCell ⟨w.heap.size, 0, none⟩ t0).setCell ⟨w.heap.size, 1, none⟩ t1).setCell ⟨w.heap.size, 2, none⟩ t2) := ((hb.setCell (by simp) _).setCell (by simp) _).setCell (by simp) _
  have h4 := ((hv.other (a := ⟨w.heap.size, 0, none⟩) hB t0).other (a := ⟨w.heap.size, 1, none⟩) hB t1).other (a := ⟨w.heap.size, 2, none⟩) hB t2
  obtain ⟨W, hW⟩ : ∃ W, W = ((wA.setCell ⟨w.heap.size, 0, none⟩ t0).setCell ⟨w.heap.size, 1, none⟩ t1).setCell ⟨w.heap.size, 2, none⟩ t2 := ⟨_, rfl⟩
  have hs : W.heap.size = wA.heap.size := by rw [hW]; simp [World.setCell]
  rw [← hW] at h3 h4 ⊢
  have b := Box.new W 76 [.int .i64 0, .int .i64 0, .int .i64 0, .string ⟨#[]⟩, .int .i64 0, .int .i64 0, .int .i64 0, .string ⟨#[]⟩, .int .i64 0, .int .i64 0, .int .i64 0, .string ⟨#[]⟩, .int .i64 0, .int .i64 0, .int .i64 0, .string ⟨#[]⟩]
  rw [hs] at b
  exact ⟨⟨_, _, _, rfl, (h4.below (below_alloc W _)).base (by omega), own_box b (by omega) 4 4 rfl (by decide)⟩, Below.up h3 _⟩

set_option maxRecDepth 4000 in
set_option maxHeartbeats 1000000 in
theorem machNew_any (w : World) :
    Calls Tryz.prog 32 #[] w fun e w' => ∃ v', e = .returned v' ∧ StNew w' w.heap.size v' newSt ∧ Below w.heap.size w w' := by
  have k2 := goMakeLasts4
  obtain ⟨w0, hw0⟩ : ∃ w0, w0 = w.alloc (.cells #[.slice none 0 0, .slice none 0 0, .slice none 0 0] 72) := ⟨_, rfl⟩
  have b0 := Box.new w 72 [.slice none 0 0, .slice none 0 0, .slice none 0 0]
  have hb := below_alloc w (.cells #[.slice none 0 0, .slice none 0 0, .slice none 0 0] 72)
  have hs : w0.heap.size = w.heap.size + 1 := by rw [hw0]; simp
  rw [show w.alloc (.cells [.slice none 0 0, .slice none 0 0, .slice none 0 0].toArray 72) = w0 from hw0.symm] at b0
  rw [← hw0] at hb
  go_enter Tryz.func32, Tryz.ntmps32
  go_upto_region 1 with fail
  rw [← hw0]
  clear hw0
  have HB0 : Hid (Box w0 w.heap.size _ _) := b0
  have HBW : Hid (Below w.heap.size w w0) := hb
  obtain ⟨x0, x1, x2⟩ := b0.c3
  obtain ⟨z0, z1, z2⟩ := b0.z3
  clear b0 hb
  go_region_law
    ((first
      | (refine step_go _ (by rfl) 46 [] _ (by rfl) [] (by rfl) enter_volNew _ (volNew_any _) ?_
         rintro u' wA ⟨hn3, hbA⟩
         obtain ⟨a1, c1, a2, c2, hu4⟩ := hn3.form
         subst hu4
         have hAU : Below w0.heap.size w0 wA := by (repeat (first | exact Below.refl _ _ | assumption | apply Below.drew | apply Below.up | (refine Below.far ?_ (by assumption))))
         have EA : Box wA w.heap.size _ _ := HB0.out.below hAU HB0.out.lt
         obtain ⟨xa0, xa1, xa2⟩ := EA.c3
         obtain ⟨za0, za1, za2⟩ := EA.z3
         have qa := EA.lt)))
  all_goals go_wp2_with fail
  · have HF : Hid (StNew _ _ _ _ ∧ Below _ _ _) := newSt_fin1 (w := w) hn3 (by simp [hs]) qa (Below.far HBW.out hAU) (.slice a1 newVol.now.length c1) (.slice a2 newVol.snaps.length c2) (.slice (some ⟨wA.heap.size, 0, none⟩) 4 4)
    refine bodyPost_ret (v := .agg #[.slice a1 newVol.now.length c1, .slice a2 newVol.snaps.length c2, .slice (some ⟨wA.heap.size, 0, none⟩) 4 4]) ?_ rfl ?_
    · clear HF hn3 hbA hAU EA
      simp [results, Tryz.results32, go_sem, *]
    · exact ⟨_, rfl, HF.out.1, HF.out.2⟩
  · have BL : Box wA (w.heap.size + 1) 76 [.int .i64 0, .int .i64 0, .int .i64 0, .string ⟨#[]⟩, .int .i64 0, .int .i64 0, .int .i64 0, .string ⟨#[]⟩, .int .i64 0, .int .i64 0, .int .i64 0, .string ⟨#[]⟩, .int .i64 0, .int .i64 0, .int .i64 0, .string ⟨#[]⟩] := by
      have := (Box.new w0.drew 76 [.int .i64 0, .int .i64 0, .int .i64 0, .string ⟨#[]⟩, .int .i64 0, .int .i64 0, .int .i64 0, .string ⟨#[]⟩, .int .i64 0, .int .i64 0, .int .i64 0, .string ⟨#[]⟩, .int .i64 0, .int .i64 0, .int .i64 0, .string ⟨#[]⟩]).below hbA (by simp)
      rw [show w0.drew.heap.size = w.heap.size + 1 from hs] at this
      exact this
    have HF : Hid (StNew _ _ _ _ ∧ Below _ _ _) := newSt_fin (w := w) hn3 (by simp [hs]; try omega) BL (by omega) (Below.far HBW.out hAU) (.slice a1 newVol.now.length c1) (.slice a2 newVol.snaps.length c2) (.slice (some ⟨w.heap.size + 1, 0, none⟩) 4 4)
    refine bodyPost_ret (v := .agg #[.slice a1 newVol.now.length c1, .slice a2 newVol.snaps.length c2, .slice (some ⟨w.heap.size + 1, 0, none⟩) 4 4]) ?_ rfl ?_
    · clear HF hn3 hbA hAU EA BL
      simp [results, Tryz.results32, go_sem, *]
    · exact ⟨_, rfl, HF.out.1, HF.out.2⟩

end Go.Proofs.YtmdgkjbiicaljahGreatDoor

/- The program's own 'Do': what it looks up, and what it adds. -/
namespace Go.Proofs.YtmdgkjbiicaljahGreatDoor
open Go.RowKit
attribute [local go_sem] app_list ext_list get_list byteAt_zero

theorem enter_copySectors (us : Array Value) (w : World) : (callFunc 109 us).run Tryz.prog w = .ok (.enter 109 us) w := by kernel_rfl
theorem enter_copy (us : Array Value) (w : World) : (callFunc 76 us).run Tryz.prog w = .ok (.enter 76 us) w := by kernel_rfl
theorem enter_lookInto (us : Array Value) (w : World) : (callFunc 77 us).run Tryz.prog w = .ok (.enter 77 us) w := by kernel_rfl

/-- P2.3, Read: the reply. -/
def lookR (V : VolM) (s p : Int) : ReplyM :=
  if (V.snaps.length : Int) < s then ⟨6, 0, []⟩
  else if 0 < s then ⟨0, 0, (V.snaps.getD (s - 1).toNat []).getD p.toNat []⟩
  else ⟨0, 0, V.now.getD p.toNat []⟩

set_option maxRecDepth 4000 in
set_option maxHeartbeats 1000000 in
theorem look_any (V : VolM) (s p : Int) (vn vs : Value) (b : Nat) (w : World) (hbx : Box w b 69 [vn, vs]) (h : VolAt w (.agg #[vn, vs]) V) (hn6 : V.now.length = 6) (hs6 : ∀ l ∈ V.snaps, l.length = 6) (hs0 : 0 ≤ s) (hp0 : 0 ≤ p) (hp5 : p ≤ 5) :
    Calls Tryz.prog 110 #[.int .i64 s, .int .i64 p, .pointer (some ⟨b, 0, none⟩)] w fun e w' => e = .returned (repVal (lookR V s p)) ∧ Below w.heap.size w w' := by
  obtain ⟨_, _, hv, hn, hs⟩ := h
  cases hv
  obtain ⟨an, cn, rfl, hln, hcn⟩ := hn
  obtain ⟨a, c, rfl, hla, hca⟩ := hs
  obtain ⟨q, rfl⟩ := Int.eq_ofNat_of_zero_le hp0
  obtain ⟨x0, x1⟩ := hbx.c2
  have lb := hbx.lt
  have ne1 : ¬ b = w.heap.size := by omega
  by_cases h0 : s = 0
  · subst h0
    have hq : q < V.now.length := by omega
    obtain ⟨b', o', rfl, hc, hz⟩ := hcn q hq
    have hb' := lt_of_cell hc
    have HR : Hid (lookR V 0 q = ⟨0, 0, V.now.getD q []⟩) := by unfold Hid lookR; simp
    generalize V.now.getD q [] = t at *
    have q1 : (q : Int) < (V.now.length : Int) := by omega
    clear hcn hca hn6 hs6
    go_enter Tryz.func110, Tryz.ntmps110
    go_wp2_with fail
    rw [HR.out]
    exact bodyPost_ret (v := .agg #[.int .i64 0, .int .i64 0, .string ⟨t.toArray⟩]) (by simp [results, Tryz.results110, go_sem]) rfl ⟨rfl, below_alloc _ _⟩
  · by_cases h1 : (V.snaps.length : Int) < s
    · have HR : Hid (lookR V s q = ⟨6, 0, []⟩) := by unfold Hid lookR; simp [h1]
      clear hcn hca hn6 hs6
      go_enter Tryz.func110, Tryz.ntmps110
      go_wp2_with fail
      rw [HR.out]
      exact bodyPost_ret (v := .agg #[.int .i64 6, .int .i64 0, .string ⟨#[]⟩]) (by simp [results, Tryz.results110, go_sem]) rfl ⟨rfl, below_alloc _ _⟩
    · obtain ⟨j, hj⟩ : ∃ j : Nat, s - 1 = j := ⟨(s - 1).toNat, by omega⟩
      have hjl : j < V.snaps.length := by omega
      obtain ⟨b', o', u, rfl, hc, hstr⟩ := hca j hjl
      have hmem : V.snaps.getD j [] ∈ V.snaps := by
        rw [show V.snaps.getD j [] = V.snaps[j] by simp [List.getD, hjl]]; exact List.getElem_mem hjl
      have hl6 := hs6 _ hmem
      have HR : Hid (lookR V s q = ⟨0, 0, (V.snaps.getD j []).getD q []⟩) := by unfold Hid lookR; rw [if_neg h1, if_pos (by omega), hj]; simp
      generalize V.snaps.getD j [] = l at *
      obtain ⟨a3, c3, rfl, hl3, hc3⟩ := hstr
      obtain ⟨b4, o4, rfl, hc4, hz4⟩ := hc3 q (by omega)
      have hb' := lt_of_cell hc
      have hb4 := lt_of_cell hc4
      generalize l.getD q [] = t at *
      have q1 : (q : Int) < (l.length : Int) := by omega
      have q2 : (j : Int) < (V.snaps.length : Int) := by omega
      obtain rfl : s = (j : Int) + 1 := by omega
      clear hcn hca hn6 hs6 hl6 hc3 hj
      go_enter Tryz.func110, Tryz.ntmps110
      go_wp2_with fail
      rw [HR.out]
      exact bodyPost_ret (v := .agg #[.int .i64 0, .int .i64 0, .string ⟨t.toArray⟩]) (by simp [results, Tryz.results110, go_sem]) rfl ⟨rfl, below_alloc _ _⟩

/-- What addSnap leaves: the volume with its snapshots vs', in memory from block B on; blocks that were there stay, but that of the old list. -/
structure SnapDone (V : VolM) (w : World) (B : Nat) (vn vs vs' : Value) (r : ReplyM) (w' : World) : Prop where
  vol : VolNew w' B (.agg #[vn, vs']) (if V.snaps.length < 3 then { V with snaps := V.snaps ++ [V.now] } else V)
  rep : r = if V.snaps.length < 3 then ⟨0, V.snaps.length + 1, []⟩ else ⟨7, 0, []⟩
  grown : w.grownBy w' vs.ownBlock

set_option maxRecDepth 4000 in
set_option maxHeartbeats 2000000 in
theorem addSnap_any (V : VolM) (B : Nat) (vn vs : Value) (w : World) (hV : VolNew w B (.agg #[vn, vs]) V) (hB : B ≤ w.heap.size) (hn6 : V.now.length = 6) (hs3 : V.snaps.length ≤ 3) (hz : ∀ s ∈ V.now, s.length ≤ 8) :
    Calls Tryz.prog 78 #[.agg #[vn, vs]] w fun e w' => ∃ vs' r, e = .returned (.tuple #[vs', repVal r]) ∧ SnapDone V w B vn vs vs' r w' := by
  obtain ⟨_, _, us, hv, hn, hs, hu1, hu2, hap⟩ := id hV
  cases hv
  obtain ⟨b0, b1, hb⟩ := boxes2 w 69 64 [vn, vs] [.int .i64 0, .int .i64 0, .string ⟨#[]⟩]
  by_cases h3 : V.snaps.length < 3
  · have HST : Hid (∀ o1 o2, Strs ((w.alloc o1).alloc o2).drew vn V.now) := fun o1 o2 => (Strs.of_own (own_below hn (below_alloc2 w o1 o2).drew (own_lt hn)) (by omega) (fun s hs => by have := hz s hs; omega))
    obtain ⟨an, cn, rfl⟩ := own_form hn
    obtain ⟨aw, cw, rfl⟩ := own_form hs
    have HZ : Hid (V.now.length * 16 ≤ 140737488355328) := by unfold Hid; omega
    have HS : Hid (w.ownsRow B 42 1 (.slice aw V.snaps.length cw) V.snaps.length us) := hs
    have HALL : Hid (w.ownsRow B 9 1 (.slice an V.now.length cn) V.now.length (V.now.map enc) ∧ OwnEach w B (.slice an V.now.length cn) us V.snaps ∧ OwnEach w B (.slice aw V.snaps.length cw) us V.snaps ∧ Apart (.slice an V.now.length cn) (.slice aw V.snaps.length cw)) := ⟨hn, hu1, hu2, hap⟩
    have HB0 : Hid (Box _ _ _ _) := b0
    have HB1 : Hid (Box _ _ _ _) := b1
    have HL3 : Hid (V.snaps.length < 3) := h3
    have HN6 : Hid (V.now.length = 6) := hn6
    have hs6 : ¬ (3 : Int) ≤ (V.snaps.length : Int) := by omega
    clear hn hs hu1 hu2 hap hV hn6 b0 b1 hb hz
    go_enter Tryz.func78, Tryz.ntmps78
    go_wp2_with fail
    go_region_law
      ((first
        | (refine step_go _ (by rfl) 109 _ _ (by rfl) _ (by rfl) enter_copySectors _ (copySectors_any V.now _ _ (HST.out _ _) HZ.out) ?_
           rintro u' wA ⟨hownA, hbA⟩
           obtain ⟨a4, c4, hu4⟩ := own_form hownA
           subst hu4
           have hbX := undrew hbA
           have hbA2 : Below w.heap.size w wA := (below_alloc2 w _ _).trans (hbX.mono (by simp <;> omega))
           have q4 : w.heap.size + 1 + 1 ≤ wA.heap.size := by have := hbX.size; simpa using this
           have q5 : w.heap.size < wA.heap.size := by omega
           have m1 := (HB0.out.below hbX HB0.out.lt).cell 1 _ rfl)
        | (refine step_append_row _ (by rfl) _ _ 26 (by rfl) B 42 Tryz.t42 _ 1 24 Tryz.underlying26 infoStrs zeroStrs sizeStrs bytesStrs rfl (by decide) _ V.snaps.length us (by rfl) (own_below HS.out (hbA2.alloc (by omega) _) (own_lt HS.out)) _ 1 [.slice a4 V.now.length c4] (by rfl) (RowAt.one _ _ _) (by simp [Value.oneCell']) (by unfold maxLen; have := HL3.out; omega) (by have := HL3.out; omega) (by simp <;> omega) ?_
           intro u3 wB hownB hgB hatB
           obtain ⟨a5, c5, hu5⟩ := own_form hownB
           subst hu5)))
    all_goals
      have BR := ((HB1.out.below hbX HB1.out.lt).alloc (.cells #[.slice a4 V.now.length c4] 42)).grown hgB (fun e => by have := own_lt HS.out _ e; omega)
      obtain ⟨r0, r1, r2⟩ := BR.c3
      obtain ⟨r3, r4, r5⟩ := BR.z3
      have hfin : ∀ wC : World, (∀ k, k < w.heap.size ∨ w.heap.size + 2 ≤ k → wC.heap[k]? = wB.heap[k]?) → wC.os = wB.os → wC.tape = wB.tape → wC.output = wB.output → wC.heap.size = wB.heap.size → SnapDone V w B (.slice an V.now.length cn) (.slice aw V.snaps.length cw) (.slice a5 (V.snaps.length + 1) c5) ⟨0, V.snaps.length + 1, []⟩ wC := by
        intro wC hC e1 e2 e3 e4
        refine ⟨?_, by rw [if_pos HL3.out], ?_⟩
        · rw [if_pos HL3.out]
          exact vol_snap (wC := wC) (l := V.now) HALL.out.1 HS.out HALL.out.2.1 HALL.out.2.2.1 HALL.out.2.2.2 hB hbA2 (hi := w.heap.size + 1 + 1) (by omega) q4 (by simpa using hownA) hgB hownB (by simpa using hatB) hC
        · have g1 := hgB.size
          simp at g1
          have g2 := hbA2.size
          exact ⟨e1.trans (hgB.os.trans hbA2.os), e2.trans (hgB.tape.trans hbA2.tape), e3.trans (hgB.output.trans hbA2.output), by omega,
            fun k hk hne => ((hC k (Or.inl hk)).trans (hgB.block k (by simp; omega) hne)).trans ((Below.heap_alloc _ _ _ (by omega)).trans (hbA2.block k hk))⟩
      have HF : Hid (∀ wC : World, _) := hfin
      clear hfin HALL HS hgB hownB hownA hbA hbX hbA2 BR HB0 HB1 HST
      go_wp2_with fail
      refine bodyPost_ret (v := .tuple #[.slice a5 (V.snaps.length + 1) c5, .agg #[.int .i64 0, .int .i64 ((V.snaps.length : Int) + 1), .string ⟨#[]⟩]]) ?_ rfl ?_
      · clear HF
        simp [results, Tryz.results78, go_sem, *]
      · refine ⟨_, ⟨0, (V.snaps.length : Int) + 1, []⟩, rfl, HF.out _ (fun k hk => ?_) rfl rfl rfl ?_⟩
        · rw [Below.heap_setCell _ _ _ _ (by simp <;> omega), Below.heap_setCell _ _ _ _ (by simp <;> omega), Below.heap_setCell _ _ _ _ (by simp <;> omega)]
        · simp [World.setCell]
  · have h3' : V.snaps.length = 3 := by omega
    obtain ⟨an, cn, rfl⟩ := own_form hn
    obtain ⟨aw, cw, rfl⟩ := own_form hs
    have hs6 : (3 : Int) ≤ (V.snaps.length : Int) := by omega
    have HF : Hid (∀ w', Below w.heap.size w w' → SnapDone V w B (.slice an V.now.length cn) (.slice aw V.snaps.length cw) (.slice aw V.snaps.length cw) ⟨7, 0, []⟩ w') := by
      intro w' hb'
      refine ⟨?_, by rw [if_neg h3], ⟨hb'.os, hb'.tape, hb'.output, hb'.size, fun k hk _ => hb'.block k hk⟩⟩
      rw [if_neg h3]
      exact hV.below hb'
    have HB : Hid (Below _ _ _) := hb
    clear hn hs hu1 hu2 hap hV hn6 b0 b1 hb hz h3'
    go_enter Tryz.func78, Tryz.ntmps78
    go_wp2_with fail
    refine bodyPost_ret (v := .tuple #[.slice aw V.snaps.length cw, .agg #[.int .i64 7, .int .i64 0, .string ⟨#[]⟩]]) ?_ rfl ?_
    · clear HF HB
      simp [results, Tryz.results78, go_sem, *]
    · exact ⟨_, ⟨7, 0, []⟩, rfl, HF.out _ (below_alloc2 w _ _)⟩

end Go.Proofs.YtmdgkjbiicaljahGreatDoor
