/- The program's own copy of a state. -/
import Derived.Test.YtpbiojnmegemdadDoorMachGoCopy
import Derived.Test.YtpbiojnmegemdadDoorMachGoDec
import Derived.Test.YtpbiojnmegemdadDoorMachGoSt
import Derived.Test.YtpbiojnmegemdadDoorVolGoDo3
import Derived.Test.YtpbiojnmegemdadDoorMachFacts
import Derived.Test.YtpbiojnmegemdadDoorAppFin
import Derived.Test.YtpbiojnmegemdadDoorStepFn
import Derived.Deep.DeepCutAuto
namespace Go.Proofs.YtpbiojnmegemdadDoor
open Go.RowKit
set_option linter.unusedVariables false
set_option linter.unusedSimpArgs false
attribute [local go_sem] app_list ext_list get_list byteAt_zero

theorem enter_copyLasts (us : Array Value) (w : World) : (callFunc 32 us).run Tryd.prog w = .ok (.enter 32 us) w := by kernel_rfl
theorem enter_told (us : Array Value) (w : World) : (callFunc 39 us).run Tryd.prog w = .ok (.enter 39 us) w := by kernel_rfl

theorem copySt_fin {w wL : World} {S : StateM} {v1 v2 v3 : Value} {B B' : Nat} (hb : Below w.heap.size w wL) (hv : VolNew wL B (.agg #[v1, v2]) S.vol) (hB : w.heap.size + 1 < B)
    (hl : wL.ownsRow B' 51 4 v3 S.lasts.length (lastsCells S.lasts)) (hB' : w.heap.size + 1 < B') (t0 t1 t2 : Value) :
    StNew (((wL.setCell ⟨w.heap.size + 1, 0, none⟩ t0).setCell ⟨w.heap.size + 1, 1, none⟩ t1).setCell ⟨w.heap.size + 1, 2, none⟩ t2) w.heap.size (.agg #[v1, v2, v3]) S ∧
    Below w.heap.size w (((wL.setCell ⟨w.heap.size + 1, 0, none⟩ t0).setCell ⟨w.heap.size + 1, 1, none⟩ t1).setCell ⟨w.heap.size + 1, 2, none⟩ t2) := by
  have h9 : StNew wL (w.heap.size + 1 + 1) (.agg #[v1, v2, v3]) S := ⟨_, _, _, rfl, hv.base hB, own_base hl hB'⟩
  exact ⟨(((h9.other (a := ⟨w.heap.size + 1, 0, none⟩) (by simp) t0).other (a := ⟨w.heap.size + 1, 1, none⟩) (by simp) t1).other (a := ⟨w.heap.size + 1, 2, none⟩) (by simp) t2).base (by omega), ((hb.setCell (by simp) _).setCell (by simp) _).setCell (by simp) _⟩

set_option maxHeartbeats 2000000 in
theorem copyState_any (S : StateM) (v : Value) (w : World) (h : StAt w v S) (hf : VolFits S.vol) :
    Calls Tryd.prog 30 #[v] w fun e w' => ∃ v', e = .returned v' ∧ StNew w' w.heap.size v' S ∧ Below w.heap.size w w' := by
  obtain ⟨vn, vs, vl, rfl, hv, hlast⟩ := h
  obtain ⟨_, _, hve, ⟨an, cn, rfl, _⟩, ⟨aw, cw, rfl, _⟩⟩ := id hv
  cases hve
  obtain ⟨al, cl, rfl, _, _⟩ := id hlast
  obtain ⟨b0, b1, hb⟩ := boxes2 w 43 43 [.slice an S.vol.now.length cn, .slice aw S.vol.snaps.length cw, .slice al S.lasts.length cl] [.slice none 0 0, .slice none 0 0, .slice none 0 0]
  obtain ⟨w0, hw0⟩ : ∃ w0, w0 = (w.alloc (.cells #[.slice an S.vol.now.length cn, .slice aw S.vol.snaps.length cw, .slice al S.lasts.length cl] 43)).alloc (.cells #[.slice none 0 0, .slice none 0 0, .slice none 0 0] 43) := ⟨_, rfl⟩
  have hs : w0.heap.size = w.heap.size + 1 + 1 := by rw [hw0]; simp
  go_enter Tryd.func30, Tryd.ntmps30
  go_upto_region 1 with fail
  rw [← hw0]
  rw [← hw0] at b0 b1 hb
  have HB0 : Hid (Box w0 w.heap.size _ _) := b0
  have HB1 : Hid (Box w0 (w.heap.size + 1) _ _) := b1
  have HBW : Hid (Below w.heap.size w w0) := hb
  clear hw0 b0 b1 hb
  have HC : Hid (∀ W, Below w0.heap.size w0 W → Calls Tryd.prog 40 [.agg #[.slice an S.vol.now.length cn, .slice aw S.vol.snaps.length cw]].toArray W fun e w' => ∃ v', e = .returned v' ∧ (VolNew w' W.heap.size v' S.vol ∧ Below W.heap.size W w')) :=
    fun W hW => volCopy_any S.vol _ _ (hv.below (Below.far HBW.out hW)) hf
  have HL : Hid (∀ W, Below w0.heap.size w0 W → Calls Tryd.prog 32 [.slice al S.lasts.length cl].toArray W fun e w' => ∃ v', e = .returned v' ∧ (w'.ownsRow W.heap.size 51 4 v' S.lasts.length (lastsCells S.lasts) ∧ Below W.heap.size W w')) :=
    fun W hW => copyLasts_any S.lasts _ _ (hlast.below (Below.far HBW.out hW))
  have x0 := HB0.out.cell 0 _ rfl
  have x1 := HB0.out.cell 1 _ rfl
  have x2 := HB0.out.cell 2 _ rfl
  have y0 := HB1.out.cell 0 _ rfl
  have y1 := HB1.out.cell 1 _ rfl
  have y2 := HB1.out.cell 2 _ rfl
  have z0 := HB1.out.frozen 0
  have z1 := HB1.out.frozen 1
  have z2 := HB1.out.frozen 2
  clear hv hlast
  go_region_law
    ((first
      | (refine step_go _ (by rfl) 40 _ _ (by rfl) _ (by rfl) enter_copy _ (HC.out _ (by (repeat (first | exact Below.refl _ _ | assumption | apply Below.drew | apply Below.up | (refine Below.far ?_ (by assumption)))))) ?_
         rintro u' wA ⟨hn3, hbA⟩
         obtain ⟨a1, c1, a2, c2, hu4⟩ := hn3.form
         subst hu4
         have hAU : Below w0.heap.size w0 wA := by (repeat (first | exact Below.refl _ _ | assumption | apply Below.drew | apply Below.up | (refine Below.far ?_ (by assumption))))
         have EA : Box wA w.heap.size _ _ := HB0.out.below hAU HB0.out.lt
         have EA1 : Box wA (w.heap.size + 1) _ _ := HB1.out.below hAU HB1.out.lt
         have xa0 := EA.cell 0 _ rfl
         have xa1 := EA.cell 1 _ rfl
         have xa2 := EA.cell 2 _ rfl
         have ya0 := EA1.cell 0 _ rfl
         have ya1 := EA1.cell 1 _ rfl
         have ya2 := EA1.cell 2 _ rfl
         have za0 := EA1.frozen 0
         have za1 := EA1.frozen 1
         have za2 := EA1.frozen 2
         have qa' : w0.heap.size ≤ wA.heap.size := hAU.size)
      | (refine step_go _ (by rfl) 32 _ _ (by rfl) _ (by rfl) enter_copyLasts _ (HL.out _ (by (repeat (first | exact Below.refl _ _ | assumption | apply Below.drew | apply Below.up | (refine Below.far ?_ (by assumption)))))) ?_
         rintro u2 wB ⟨hownB, hbB⟩
         obtain ⟨a3, c3, hu5⟩ := own_formN hownB
         subst hu5
         have hBU : Below w0.heap.size w0 wB := by (repeat (first | exact Below.refl _ _ | assumption | apply Below.drew | apply Below.up | (refine Below.far ?_ (by assumption))))
         have EB : Box wB w.heap.size _ _ := HB0.out.below hBU HB0.out.lt
         have EB1 : Box wB (w.heap.size + 1) _ _ := HB1.out.below hBU HB1.out.lt
         have xb0 := EB.cell 0 _ rfl
         have xb1 := EB.cell 1 _ rfl
         have xb2 := EB.cell 2 _ rfl
         have yb0 := EB1.cell 0 _ rfl
         have yb1 := EB1.cell 1 _ rfl
         have yb2 := EB1.cell 2 _ rfl
         have zb0 := EB1.frozen 0
         have zb1 := EB1.frozen 1
         have zb2 := EB1.frozen 2
         have qb' : w0.heap.size ≤ wB.heap.size := hBU.size)))
  all_goals go_wp2_with fail
  all_goals first
    | (have HF : Hid (StNew _ _ _ _ ∧ Below _ _ _) := copySt_fin (w := w) (wL := wB) (Below.far HBW.out hBU) (hn3.below hbB) (by first | omega | (simp <;> omega)) hownB (by first | omega | (simp <;> omega)) (.slice a1 S.vol.now.length c1) (.slice a2 S.vol.snaps.length c2) (.slice a3 S.lasts.length c3)
       refine bodyPost_ret (v := .agg #[.slice a1 S.vol.now.length c1, .slice a2 S.vol.snaps.length c2, .slice a3 S.lasts.length c3]) ?_ rfl ⟨_, rfl, HF.out.1, HF.out.2⟩
       clear HF hn3 hbA hAU EA EA1 EB EB1 hBU hownB hbB
       simp [results, Tryd.results30, go_sem, *])
    | (have HF : Hid (StNew _ _ _ _ ∧ Below _ _ _) := copySt_fin (w := w) (wL := wA) (Below.far HBW.out hAU) hn3 (by first | omega | (simp <;> omega)) (own_below hownB hbA (own_lt hownB)) (by first | omega | (simp <;> omega)) (.slice a1 S.vol.now.length c1) (.slice a2 S.vol.snaps.length c2) (.slice a3 S.lasts.length c3)
       refine bodyPost_ret (v := .agg #[.slice a1 S.vol.now.length c1, .slice a2 S.vol.snaps.length c2, .slice a3 S.lasts.length c3]) ?_ rfl ⟨_, rfl, HF.out.1, HF.out.2⟩
       clear HF hn3 hbA hAU EA EA1 EB EB1 hBU hownB hbB
       simp [results, Tryd.results30, go_sem, *])

end Go.Proofs.YtpbiojnmegemdadDoor
