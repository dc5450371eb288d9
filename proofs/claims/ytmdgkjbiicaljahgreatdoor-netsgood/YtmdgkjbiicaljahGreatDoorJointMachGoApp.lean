/- The program's own 'Do', whole: its contract. -/
import Derived.Test.YtmdgkjbiicaljahGreatDoorVolGoDo2
import Derived.Test.YtmdgkjbiicaljahGreatDoorJointMachGoCopy
import Derived.Test.YtmdgkjbiicaljahGreatDoorJointSlotsMath
import Derived.Test.YtmdgkjbiicaljahGreatDoorJointKeptDup
import Derived.Test.YtmdgkjbiicaljahGreatDoorJointVolGoDo
import Derived.Deep.DeepCutAuto
set_option linter.unusedVariables false
set_option linter.unusedSimpArgs false
namespace Go.Proofs.YtmdgkjbiicaljahGreatDoor
open Go.RowKit
attribute [local go_sem] app_list ext_list get_list byteAt_zero

end Go.Proofs.YtmdgkjbiicaljahGreatDoor

/- What is left of a state's memory behind the stores into a client's last and into the result. -/
namespace Go.Proofs.YtmdgkjbiicaljahGreatDoor
open Go.RowKit

/-- The stores into a client's last, and into the result. -/
theorem app_fin {w w6 : World} {B5 B g c3 i : Nat} {v5 v6 : Value} {V' : VolM} {L : List LastM} (x : LastM) (n2 : VolNew w6 B5 (.agg #[v5,v6]) V')
  (l2:w6.ownsRow B 76 4 (.slice (some ⟨g,0,none⟩) L.length c3) L.length (lastsCells L)) (h5:w.heap.size+1 < B5) (hB:w.heap.size+1 < B) (hb:Below w.heap.size w w6) (t0 t1 t2:Value) :
  StNew (((((((w6.setCell ⟨g,i * 4,none⟩ (.int .i64 x.num)).setCell ⟨g,i * 4+1,none⟩ (.int .i64 x.rep.code)).setCell ⟨g,i * 4+2,none⟩ (.int .i64 x.rep.n)).setCell ⟨g,i * 4+3,none⟩ (.string ⟨x.rep.data.toArray⟩)).setCell ⟨w.heap.size+1,0,none⟩ t0).setCell ⟨w.heap.size+1,1,none⟩ t1).setCell ⟨w.heap.size+1,2,none⟩ t2) w.heap.size
   (.agg #[v5,v6, .slice (some ⟨g,0,none⟩) L.length c3]) ⟨V',L.set i x⟩ ∧
  Below w.heap.size w (((((((w6.setCell ⟨g,i * 4,none⟩ (.int .i64 x.num)).setCell ⟨g,i * 4+1,none⟩ (.int .i64 x.rep.code)).setCell ⟨g,i * 4+2,none⟩ (.int .i64 x.rep.n)).setCell ⟨g,i * 4+3,none⟩ (.string ⟨x.rep.data.toArray⟩)).setCell ⟨w.heap.size+1,0,none⟩ t0).setCell ⟨w.heap.size+1,1,none⟩ t1).setCell ⟨w.heap.size+1,2,none⟩ t2):=by
 have key : ∀ {W:World} {xs:List Value} (k:Nat) (y:Value),VolNew W B5 (.agg #[v5,v6]) V' → W.ownsRow B 76 4 (.slice (some ⟨g,0,none⟩) L.length c3) L.length xs →
   VolNew (W.setCell ⟨g,k,none⟩ y) B5 (.agg #[v5,v6]) V' ∧ (W.setCell ⟨g,k,none⟩ y).ownsRow B 76 4 (.slice (some ⟨g,0,none⟩) L.length c3) L.length (xs.set k y):=fun k y h1 h2 =>
  ⟨h1.apart (fun e z m zs he hz=>own_types hz h2 (by rcases he with rfl | rfl <;> decide) rfl) k y,own_set h2 k y⟩
 obtain⟨n3,l3⟩:=key (i * 4) (.int .i64 x.num) n2 l2
 obtain⟨n4,l4⟩:=key (i * 4+1) (.int .i64 x.rep.code) n3 l3
 obtain⟨n5,l5⟩:=key (i * 4+2) (.int .i64 x.rep.n) n4 l4
 obtain⟨n6,l6⟩:=key (i * 4+3) (.string ⟨x.rep.data.toArray⟩) n5 l5
 rw[← lastsCells_set] at l6
 have hg:=own_ge l2 g rfl
 refine⟨⟨_,_,_,rfl,(((n6.other (a:=⟨w.heap.size+1,0,none⟩) (by simpa using h5) t0).other (a:=⟨w.heap.size+1,1,none⟩) (by simpa using h5) t1).other (a:=⟨w.heap.size+1,2,none⟩) (by simpa using h5) t2).base (by omega), ?_⟩, ?_⟩
 ·have l7:=own_base (ownsRow_setCell_below (ownsRow_setCell_below (ownsRow_setCell_below l6 (a:=⟨w.heap.size+1,0,none⟩) (by simpa using hB) t0) (a:=⟨w.heap.size+1,1,none⟩) (by simpa using hB) t1) (a:=⟨w.heap.size+1,2,none⟩) (by simpa using hB) t2) (base' := w.heap.size) (by omega)
  simpa using l7
 ·have hgw:w.heap.size≤g:=by omega
  exact ((((((hb.setCell (by simpa using hgw) _).setCell (by simpa using hgw) _).setCell (by simpa using hgw) _).setCell (by simpa using hgw) _).setCell (by simp) _).setCell (by simp) _).setCell (by simp) _

end Go.Proofs.YtmdgkjbiicaljahGreatDoor

/- A call of a closure at a step of a region that draws its order. -/
namespace Go.Proofs.YtmdgkjbiicaljahGreatDoor
open Go.RowKit

theorem step_fn {P : Program} (w : World) {ops : Array Oper} {o : Oper} {a : Act} {K : Act → World → Prop} {Q : Exit → Act → World → Prop} {E : Prop} (hgd : o.guard = none) (t : Nat) (f : FuncId) (cap : List Value) (args : List Operand) (ts : Array TypeId)
  (ho:o.op = .call { callee := .value (.tmp t),args:=args.toArray,argTypes:=ts }) (hf:a.tmps.getD t undef = .func (.func f) #[] cap.toArray) (vs:List Value) (hv:args.map a.eval=vs) (hcf : ∀ us w,(callFunc f us).run P w = .ok (.enter f us) w) (R:Value→World→Prop)
  (hc:Calls P f (vs ++ cap).toArray w fun e w' => ∃ v',e = .returned v' ∧ R v' w') (h : ∀ v' w',R v' w' → K (a.put o.dst v') w') :
  if Region.wanted o (yielded ops a.tmps)=true then Oper.wp P o a w K Q else E:=by
 rw[if_pos (by simp[Region.wanted,hgd])]
 unfold Oper.wp execOp
 simp only[ho,resolve,invoke,hf,go_sem,Sem.run_bind,Sem.run_pure,Result.andThen_ok,List.map_toArray,hv]

 rw[hcf]
 unfold Oper.upon
 simp only[Array.empty_append,Array.append_empty]
 rw[show vs.toArray ++ cap.toArray=(vs ++ cap).toArray by simp]
 refine hc.mono ?_
 rintro e w' ⟨v',rfl,hr⟩
 exact h v' w' hr

end Go.Proofs.YtmdgkjbiicaljahGreatDoor

/- The program's own copy of a state. -/
namespace Go.Proofs.YtmdgkjbiicaljahGreatDoor
open Go.RowKit
attribute [local go_sem] app_list ext_list get_list byteAt_zero

theorem enter_copyLasts (us : Array Value) (w : World) : (callFunc 51 us).run Tryz.prog w = .ok (.enter 51 us) w := by kernel_rfl
theorem enter_told (us : Array Value) (w : World) : (callFunc 75 us).run Tryz.prog w = .ok (.enter 75 us) w := by kernel_rfl

theorem copySt_fin {w wL : World} {S : StateM} {v1 v2 v3 : Value} {B B' : Nat} (hb : Below w.heap.size w wL) (hv : VolNew wL B (.agg #[v1, v2]) S.vol) (hB : w.heap.size + 1 < B)
    (hl : wL.ownsRow B' 76 4 v3 S.lasts.length (lastsCells S.lasts)) (hB' : w.heap.size + 1 < B') (t0 t1 t2 : Value) :
    StNew (((wL.setCell ⟨w.heap.size + 1, 0, none⟩ t0).setCell ⟨w.heap.size + 1, 1, none⟩ t1).setCell ⟨w.heap.size + 1, 2, none⟩ t2) w.heap.size (.agg #[v1, v2, v3]) S ∧
    Below w.heap.size w (((wL.setCell ⟨w.heap.size + 1, 0, none⟩ t0).setCell ⟨w.heap.size + 1, 1, none⟩ t1).setCell ⟨w.heap.size + 1, 2, none⟩ t2) := by
  have h9 : StNew wL (w.heap.size + 1 + 1) (.agg #[v1, v2, v3]) S := ⟨_, _, _, rfl, hv.base hB, own_base hl hB'⟩
  exact ⟨(((h9.other (a := ⟨w.heap.size + 1, 0, none⟩) (by simp) t0).other (a := ⟨w.heap.size + 1, 1, none⟩) (by simp) t1).other (a := ⟨w.heap.size + 1, 2, none⟩) (by simp) t2).base (by omega), ((hb.setCell (by simp) _).setCell (by simp) _).setCell (by simp) _⟩

set_option maxRecDepth 4000 in
set_option maxHeartbeats 2000000 in
theorem copyState_any (S : StateM) (v : Value) (w : World) (h : StAt w v S) (hf : VolFits S.vol) :
    Calls Tryz.prog 49 #[v] w fun e w' => ∃ v', e = .returned v' ∧ StNew w' w.heap.size v' S ∧ Below w.heap.size w w' := by
  obtain ⟨vn, vs, vl, rfl, hv, hlast⟩ := h
  obtain ⟨_, _, hve, ⟨an, cn, rfl, _⟩, ⟨aw, cw, rfl, _⟩⟩ := id hv
  cases hve
  obtain ⟨al, cl, rfl, _, _⟩ := id hlast
  obtain ⟨b0, b1, hb⟩ := boxes2 w 72 72 [.slice an S.vol.now.length cn, .slice aw S.vol.snaps.length cw, .slice al S.lasts.length cl] [.slice none 0 0, .slice none 0 0, .slice none 0 0]
  obtain ⟨w0, hw0⟩ : ∃ w0, w0 = (w.alloc (.cells #[.slice an S.vol.now.length cn, .slice aw S.vol.snaps.length cw, .slice al S.lasts.length cl] 72)).alloc (.cells #[.slice none 0 0, .slice none 0 0, .slice none 0 0] 72) := ⟨_, rfl⟩
  have hs : w0.heap.size = w.heap.size + 1 + 1 := by rw [hw0]; simp
  go_enter Tryz.func49, Tryz.ntmps49
  go_upto_region 1 with fail
  rw [← hw0]
  rw [← hw0] at b0 b1 hb
  have HB0 : Hid (Box w0 w.heap.size _ _) := b0
  have HB1 : Hid (Box w0 (w.heap.size + 1) _ _) := b1
  have HBW : Hid (Below w.heap.size w w0) := hb
  clear hw0 b0 b1 hb
  have HC : Hid (∀ W, Below w0.heap.size w0 W → Calls Tryz.prog 76 [.agg #[.slice an S.vol.now.length cn, .slice aw S.vol.snaps.length cw]].toArray W fun e w' => ∃ v', e = .returned v' ∧ (VolNew w' W.heap.size v' S.vol ∧ Below W.heap.size W w')) :=
    fun W hW => volCopy_any S.vol _ _ (hv.below (Below.far HBW.out hW)) hf
  have HL : Hid (∀ W, Below w0.heap.size w0 W → Calls Tryz.prog 51 [.slice al S.lasts.length cl].toArray W fun e w' => ∃ v', e = .returned v' ∧ (w'.ownsRow W.heap.size 76 4 v' S.lasts.length (lastsCells S.lasts) ∧ Below W.heap.size W w')) :=
    fun W hW => copyLasts_any S.lasts _ _ (hlast.below (Below.far HBW.out hW))
  obtain ⟨x0, x1, x2⟩ := HB0.out.c3
  obtain ⟨y0, y1, y2⟩ := HB1.out.c3
  obtain ⟨z0, z1, z2⟩ := HB1.out.z3
  clear hv hlast
  go_region_law
    ((first
      | (refine step_go _ (by rfl) 76 _ _ (by rfl) _ (by rfl) enter_copy _ (HC.out _ (by (repeat (first | exact Below.refl _ _ | assumption | apply Below.drew | apply Below.up | (refine Below.far ?_ (by assumption)))))) ?_
         rintro u' wA ⟨hn3, hbA⟩
         obtain ⟨a1, c1, a2, c2, hu4⟩ := hn3.form
         subst hu4
         have hAU : Below w0.heap.size w0 wA := by (repeat (first | exact Below.refl _ _ | assumption | apply Below.drew | apply Below.up | (refine Below.far ?_ (by assumption))))
         have EA : Box wA w.heap.size _ _ := HB0.out.below hAU HB0.out.lt
         have EA1 : Box wA (w.heap.size + 1) _ _ := HB1.out.below hAU HB1.out.lt
         obtain ⟨xa0, xa1, xa2⟩ := EA.c3
         obtain ⟨ya0, ya1, ya2⟩ := EA1.c3
         obtain ⟨za0, za1, za2⟩ := EA1.z3
         have qa' : w0.heap.size ≤ wA.heap.size := hAU.size)
      | (refine step_go _ (by rfl) 51 _ _ (by rfl) _ (by rfl) enter_copyLasts _ (HL.out _ (by (repeat (first | exact Below.refl _ _ | assumption | apply Below.drew | apply Below.up | (refine Below.far ?_ (by assumption)))))) ?_
         rintro u2 wB ⟨hownB, hbB⟩
         obtain ⟨a3, c3, hu5⟩ := own_formN hownB
         subst hu5
         have hBU : Below w0.heap.size w0 wB := by (repeat (first | exact Below.refl _ _ | assumption | apply Below.drew | apply Below.up | (refine Below.far ?_ (by assumption))))
         have EB : Box wB w.heap.size _ _ := HB0.out.below hBU HB0.out.lt
         have EB1 : Box wB (w.heap.size + 1) _ _ := HB1.out.below hBU HB1.out.lt
         obtain ⟨xb0, xb1, xb2⟩ := EB.c3
         obtain ⟨yb0, yb1, yb2⟩ := EB1.c3
         obtain ⟨zb0, zb1, zb2⟩ := EB1.z3
         have qb' : w0.heap.size ≤ wB.heap.size := hBU.size)))
  all_goals go_wp2_with fail
  all_goals first
    | (have HF : Hid (StNew _ _ _ _ ∧ Below _ _ _) := copySt_fin (w := w) (wL := wB) (Below.far HBW.out hBU) (hn3.below hbB) (by first | omega | (simp <;> omega)) hownB (by first | omega | (simp <;> omega)) (.slice a1 S.vol.now.length c1) (.slice a2 S.vol.snaps.length c2) (.slice a3 S.lasts.length c3)
       refine bodyPost_ret (v := .agg #[.slice a1 S.vol.now.length c1, .slice a2 S.vol.snaps.length c2, .slice a3 S.lasts.length c3]) ?_ rfl ⟨_, rfl, HF.out.1, HF.out.2⟩
       clear HF hn3 hbA hAU EA EA1 EB EB1 hBU hownB hbB
       simp [results, Tryz.results49, go_sem, *])
    | (have HF : Hid (StNew _ _ _ _ ∧ Below _ _ _) := copySt_fin (w := w) (wL := wA) (Below.far HBW.out hAU) hn3 (by first | omega | (simp <;> omega)) (own_below hownB hbA (own_lt hownB)) (by first | omega | (simp <;> omega)) (.slice a1 S.vol.now.length c1) (.slice a2 S.vol.snaps.length c2) (.slice a3 S.lasts.length c3)
       refine bodyPost_ret (v := .agg #[.slice a1 S.vol.now.length c1, .slice a2 S.vol.snaps.length c2, .slice a3 S.lasts.length c3]) ?_ rfl ⟨_, rfl, HF.out.1, HF.out.2⟩
       clear HF hn3 hbA hAU EA EA1 EB EB1 hBU hownB hbB
       simp [results, Tryz.results49, go_sem, *])

end Go.Proofs.YtmdgkjbiicaljahGreatDoor

/- The program's own 'Apply', of what may be. -/
namespace Go.Proofs.YtmdgkjbiicaljahGreatDoor
open Go.RowKit
attribute [local go_sem] app_list ext_list get_list byteAt_zero

theorem fieldLast (a b c d : Value) (w : World) : (Instr.field 76 (.agg #[a, b, c, d]) 0).run Tryz.prog w = .ok a w := by kernel_rfl

set_option maxRecDepth 4000 in
set_option maxHeartbeats 2000000 in
theorem apply_ok (S : StateM) (s : List UInt8) (v : Value) (w : World) (h : StAt w v S) (hl : s.length ≤ 281474976710656) (h0 : stFault S = 0) (h1 : decE s = 0) :
    Calls Tryz.prog 33 #[v, .string ⟨s.toArray⟩] w fun e w' => ∃ v', e = .returned (.tuple #[v', .int .i64 0]) ∧ StNew w' w.heap.size v' (doneS S (reqOf s)) ∧ Below w.heap.size w w' := by
  have hS := stMay_of S h0
  have hm := volMay_len (volMay_of S.vol hS.1)
  have hf : VolFits S.vol := ⟨by omega, by omega, fun l hl => by have := hm.2.2 l hl; omega⟩
  have hreq := decE_req s h1
  have hdr : decR s = reqOf s := by unfold decR; rw [if_pos h1]
  generalize reqOf s = r at *
  have hr := reqMay_of r hreq
  have hom := opMay_of r.op hr.2.2
  have HSL : Hid (S.lasts.length = 4) := hS.2.1
  have h' := h
  obtain ⟨vn, vs, vl, rfl, hv, hlast⟩ := h'
  obtain ⟨_, _, hve, ⟨an, cn, rfl, _⟩, ⟨aw, cw, rfl, _⟩⟩ := id hv
  cases hve
  obtain ⟨al, cl, rfl, _, _⟩ := id hlast
  obtain ⟨b0, b1, hb⟩ := boxes2 w 72 72 [.slice an S.vol.now.length cn, .slice aw S.vol.snaps.length cw, .slice al S.lasts.length cl] [.slice none 0 0, .slice none 0 0, .slice none 0 0]
  have HF : Hid (Calls _ _ _ _ _) := machCheck_any S _ _ (h.below hb)
  have HE : Hid (∀ w, Calls _ _ _ w _) := fun w => machDec_any s w hl
  rw [h0] at HF
  rw [h1, hdr] at HE
  obtain ⟨c, n, k, p, sn, d⟩ := r
  simp only at hr hom
  unfold reqVal at HE
  obtain ⟨hr1, hr2, ho⟩ := hr
  have hvf := hS.1
  clear hS hm h0 h1 hdr hreq
  go_enter Tryz.func33, Tryz.ntmps33
  go_wp2_with fail
  refine HF.out.mono ?_
  rintro e w1 ⟨rfl, hb1⟩
  have c0 := b0.below hb1 b0.lt
  have c1 := b1.below hb1 b1.lt
  have hw1 := Below.seq hb hb1
  clear b0 b1 hb hb1 HF
  go_wp2_with fail
  refine (HE.out _).mono ?_
  rintro e w2 ⟨rfl, hb2⟩
  have d0 := c0.below hb2 c0.lt
  have d1 := c1.below hb2 c1.lt
  have hw2 := Below.seq hw1 hb2
  clear c0 c1 hw1 hb2 HE
  have l0 := d0.lt
  have l1 := d1.lt
  have B7 := Box.new w2 62 [.int .i64 c, .int .i64 n, .int .i64 k, .int .i64 p, .int .i64 sn, .string ⟨d.toArray⟩]
  obtain ⟨w3, hw3e⟩ : ∃ w3, w3 = w2.alloc (.cells #[.int .i64 c, .int .i64 n, .int .i64 k, .int .i64 p, .int .i64 sn, .string ⟨d.toArray⟩] 62) := ⟨_, rfl⟩
  go_upto_region 7 with fail
  rw [← hw3e]
  have e0 := d0.alloc (.cells #[.int .i64 c, .int .i64 n, .int .i64 k, .int .i64 p, .int .i64 sn, .string ⟨d.toArray⟩] 62)
  have e1 := d1.alloc (.cells #[.int .i64 c, .int .i64 n, .int .i64 k, .int .i64 p, .int .i64 sn, .string ⟨d.toArray⟩] 62)
  rw [← hw3e] at B7 e0 e1
  have hw3 : Below w.heap.size w w3 := by rw [hw3e]; exact Below.up hw2 _
  have l7 : w.heap.size + 1 < w2.heap.size := d1.lt
  clear d0 d1 hw2 hw3e l0 l1
  obtain ⟨x0, x1, x2⟩ := e0.c3
  go_wp2_with fail
  refine (toldIn_any (.slice an S.vol.now.length cn) (.slice aw S.vol.snaps.length cw) (.slice al S.lasts.length cl) w3 rfl rfl rfl).mono ?_
  rintro e w4 ⟨v4, rfl, rfl, hw4e⟩
  have f0 := e0.alloc (.cells #[.slice an S.vol.now.length cn, .slice aw S.vol.snaps.length cw, .slice al S.lasts.length cl] 72)
  have f1 := e1.alloc (.cells #[.slice an S.vol.now.length cn, .slice aw S.vol.snaps.length cw, .slice al S.lasts.length cl] 72)
  have f7 := B7.alloc (.cells #[.slice an S.vol.now.length cn, .slice aw S.vol.snaps.length cw, .slice al S.lasts.length cl] 72)
  have fT := Box.new w3 72 [.slice an S.vol.now.length cn, .slice aw S.vol.snaps.length cw, .slice al S.lasts.length cl]
  rw [← hw4e] at f0 f1 f7 fT
  have hw4 : Below w.heap.size w w4 := by rw [hw4e]; exact Below.up hw3 _
  clear hw4e e0 e1 B7 hw3 x0 x1 x2
  obtain ⟨i, hi⟩ : ∃ i : Nat, c - 1 = i := ⟨(c - 1).toNat, by omega⟩
  obtain rfl : c = (i : Int) + 1 := by omega
  have hi4 : i < 4 := by omega
  have hil : i < S.lasts.length := by have := HSL.out; omega
  clear hi
  have HT : Hid (∀ W, Below w4.heap.size w4 W → Calls Tryz.prog 75 ([(.int .i64 ((i : Int) + 1) : Value)] ++ [(.pointer (some ⟨w3.heap.size, 0, none⟩) : Value)]).toArray W fun e w' => ∃ v', e = .returned v' ∧ (v' = .agg #[.int .i64 (S.lasts.getD i zeroLast).num, .int .i64 (S.lasts.getD i zeroLast).rep.code, .int .i64 (S.lasts.getD i zeroLast).rep.n, .string ⟨(S.lasts.getD i zeroLast).rep.data.toArray⟩] ∧ Below W.heap.size W w')) :=
    fun W hW => (told_any S.lasts i _ _ _ _ W (fT.below hW fT.lt) (hlast.below (Below.far hw4 hW)) hil).mono fun e w' ⟨he, hb⟩ => ⟨_, he, rfl, hb⟩
  obtain ⟨ln, hln⟩ : ∃ ln, (S.lasts.getD i zeroLast).num = ln := ⟨_, rfl⟩
  have HLN : Hid ((S.lasts.getD i zeroLast).num = ln) := hln
  rw [hln] at HT
  clear hln
  generalize (S.lasts.getD i zeroLast).rep = lr at HT
  obtain ⟨y0, y1⟩ := f7.c2
  have HB7 : Hid (Box w4 w2.heap.size _ _) := f7
  have kf := fieldLast
  go_upto_region 8 with fail
  go_cut [37] (fun s37 wx => s37 = .bool (decide (n ≤ ln)) ∧ Below w4.heap.size w4 wx)
  case first =>
    go_region_law
      ((refine step_fn _ (by rfl) 32 75 [.pointer (some ⟨w3.heap.size, 0, none⟩)] _ _ (by rfl) ?hfn [.int .i64 ((i : Int) + 1)] ?hvs enter_told _ (HT.out _ ?hbw) ?_
        case hfn => rfl
        case hvs => rfl
        case hbw => (repeat (first | exact Below.refl _ _ | assumption | apply Below.drew | apply Below.up | (refine Below.far ?_ (by assumption))))
        rintro u' wA ⟨hu4, hbA⟩
        subst hu4
        have hAU : Below w4.heap.size w4 wA := by (repeat (first | exact Below.refl _ _ | assumption | apply Below.drew | apply Below.up | (refine Below.far ?_ (by assumption))))
        have E7 := HB7.out.below hAU HB7.out.lt
        have y0a := E7.cell 0 _ rfl
        have y1a := E7.cell 1 _ rfl))
    all_goals go_wp2_with fail
    all_goals go_meet
    all_goals exact ⟨rfl, hAU⟩
  case rest =>
    obtain ⟨rfl, hbc⟩ := hcut
    have g0 := f0.below hbc f0.lt
    have g1 := f1.below hbc f1.lt
    have g7 := f7.below hbc f7.lt
    have hwc := Below.far hw4 hbc
    have m0 := g0.lt
    have m1 := g1.lt
    have m7 := g7.lt
    clear f0 f1 f7 fT HT HB7 y0 y1 kf hbc hw4
    obtain ⟨x0, x1, x2⟩ := g0.c3
    by_cases hle : n ≤ ln
    · have q : decide (n ≤ ln) = true := by simp [hle]
      rw [q]
      have HD : Hid (doneS S ⟨(i : Int) + 1, n, ⟨k, p, sn, d⟩⟩ = S) := by
        unfold Hid doneS
        have e1 : ((i : Int) + 1 - 1).toNat = i := by omega
        simp only [e1, HLN.out]
        rw [if_neg (by omega)]
      have HC : Hid (Calls _ _ _ _ _) := copyState_any S _ wc (h.below hwc) hf
      clear HLN q hle
      go_wp2_with fail
      refine HC.out.mono ?_
      rintro e w5 ⟨v5, rfl, hn5, hb5⟩
      obtain ⟨a1, c1, a2, c2, a3, c3, rfl⟩ := hn5.form
      have k1 := g1.below hb5 g1.lt
      obtain ⟨z0, z1, z2⟩ := k1.c3
      obtain ⟨z3, z4, z5⟩ := k1.z3
      have HN : Hid (StNew _ _ _ _) := (((hn5.other (a := ⟨w.heap.size + 1, 0, none⟩) (by first | exact m1 | (simp <;> omega)) (.slice a1 S.vol.now.length c1)).other (a := ⟨w.heap.size + 1, 1, none⟩) (by first | exact m1 | (simp <;> omega)) (.slice a2 S.vol.snaps.length c2)).other (a := ⟨w.heap.size + 1, 2, none⟩) (by first | exact m1 | (simp <;> omega)) (.slice a3 S.lasts.length c3)).base (B' := w.heap.size) (by omega)
      have HB : Hid (Below w.heap.size w _) := (((Below.far hwc hb5).setCell (p := ⟨w.heap.size + 1, 0, none⟩) (by simp) (.slice a1 S.vol.now.length c1)).setCell (p := ⟨w.heap.size + 1, 1, none⟩) (by simp) (.slice a2 S.vol.snaps.length c2)).setCell (p := ⟨w.heap.size + 1, 2, none⟩) (by simp) (.slice a3 S.lasts.length c3)
      clear hn5 hb5 k1 HC x0 x1 x2 g0 g1 g7
      go_wp2_with fail
      rw [HD.out]
      refine bodyPost_ret (v := .tuple #[.agg #[.slice a1 S.vol.now.length c1, .slice a2 S.vol.snaps.length c2, .slice a3 S.lasts.length c3], .int .i64 0]) ?_ rfl ⟨_, rfl, HN.out, HB.out⟩
      clear HN HB
      simp [results, Tryz.results33, go_sem, *]
    · have q : decide (n ≤ ln) = false := by simp [hle]
      rw [q]
      have HD : Hid (doneS S ⟨(i : Int) + 1, n, ⟨k, p, sn, d⟩⟩ = ⟨didV S.vol ⟨k, p, sn, d⟩, S.lasts.set i ⟨n, didR S.vol ⟨k, p, sn, d⟩⟩⟩) := by
        unfold Hid doneS
        have e1 : ((i : Int) + 1 - 1).toNat = i := by omega
        simp only [e1, HLN.out]
        rw [if_pos (by omega)]
      have HC : Hid (Calls Tryz.prog 50 #[.agg #[.slice an S.vol.now.length cn, .slice aw S.vol.snaps.length cw], .agg #[.int .i64 k, .int .i64 p, .int .i64 sn, .string ⟨d.toArray⟩]] wc _) := do_ok S.vol ⟨k, p, sn, d⟩ _ wc (hv.below hwc) hvf ho
      clear HLN q hle
      have y2 := g7.cell 2 _ rfl
      have y3 := g7.cell 3 _ rfl
      have y4 := g7.cell 4 _ rfl
      have y5 := g7.cell 5 _ rfl
      go_wp2_with fail
      refine HC.out.mono ?_
      rintro e w5 ⟨v5, rfl, hn5, hb5⟩
      obtain ⟨a5, c5, a6, c6, rfl⟩ := hn5.form
      have k0 := g0.below hb5 m0
      have k1 := g1.below hb5 m1
      have k7 := g7.below hb5 m7
      have hw5 : Below w.heap.size w w5 := Below.far hwc hb5
      have m5 := hb5.size
      obtain ⟨RR, HRR⟩ : ∃ RR, Hid (didR S.vol ⟨k, p, sn, d⟩ = RR) := ⟨_, rfl⟩
      rw [HRR.out]
      obtain ⟨VV, HVV⟩ : ∃ VV, Hid (didV S.vol ⟨k, p, sn, d⟩ = VV) := ⟨_, rfl⟩
      rw [HVV.out] at hn5 ⊢
      obtain ⟨N5, HN5⟩ : ∃ N5, Hid (VV.now.length = N5) := ⟨_, rfl⟩
      obtain ⟨N6, HN6⟩ : ∃ N6, Hid (VV.snaps.length = N6) := ⟨_, rfl⟩
      rw [HN5.out, HN6.out] at hn5 ⊢
      obtain ⟨rc, rn, rd⟩ := RR
      unfold repVal
      simp only
      clear x0 x1 x2 y2 y3 y4 y5 g0 g1 g7
      have x2 := k0.cell 2 _ rfl
      have o0 := k0.lt
      have HL : Hid (∀ W, Below w5.heap.size w5 W → Calls Tryz.prog 51 #[.slice al S.lasts.length cl] W _) := fun W hW => copyLasts_any S.lasts _ W (hlast.below (Below.far hw5 hW))
      obtain ⟨bV, bR, hb6⟩ := boxes2 w5 69 64 [.slice a5 N5 c5, .slice a6 N6 c6] [.int .i64 rc, .int .i64 rn, .string ⟨rd.toArray⟩]
      obtain ⟨w6, hw6e⟩ : ∃ w6, w6 = (w5.alloc (.cells #[.slice a5 N5 c5, .slice a6 N6 c6] 69)).alloc (.cells #[.int .i64 rc, .int .i64 rn, .string ⟨rd.toArray⟩] 64) := ⟨_, rfl⟩
      go_upto_region 13 with fail
      rw [← hw6e]
      rw [← hw6e] at bV bR hb6
      have j0 := k0.below hb6 k0.lt
      have j1 := k1.below hb6 k1.lt
      have j7 := k7.below hb6 k7.lt
      have hn6 := hn5.below hb6
      have hw6 := Below.far hw5 hb6
      have HL6 : Hid (Calls _ _ _ _ _) := HL.out w6 hb6
      have m6 := hb6.size
      have n6 : w6.heap.size = w5.heap.size + 1 + 1 := by rw [hw6e]; simp
      clear hw6e hb5 k0 k1 k7 HL hn5 hb6 x2
      have x2 := j0.cell 2 _ rfl
      go_wp2_with fail
      refine HL6.out.mono ?_
      rintro e w7 ⟨v7, rfl, hl7, hb7⟩
      have i1 := j1.below hb7 j1.lt
      have i7 := j7.below hb7 j7.lt
      have iV := bV.below hb7 bV.lt
      have iR := bR.below hb7 bR.lt
      have hn7 := hn6.below hb7
      have hw7 := Below.far hw6 hb7
      obtain ⟨g, c3, hgv, hgB, _, u0, u4⟩ := own_cellN hl7 (by decide) (i * 4) (by omega)
      subst hgv
      obtain ⟨_, _, hgv, _, _, u1, u5⟩ := own_cellN hl7 (by decide) (i * 4 + 1) (by omega)
      cases hgv
      obtain ⟨_, _, hgv, _, _, u2, u6⟩ := own_cellN hl7 (by decide) (i * 4 + 2) (by omega)
      cases hgv
      obtain ⟨_, _, hgv, _, _, u3, u7⟩ := own_cellN hl7 (by decide) (i * 4 + 3) (by omega)
      cases hgv
      rw [lastsCells_get _ i 1 hil (by decide)] at u1
      rw [lastsCells_get _ i 2 hil (by decide)] at u2
      rw [lastsCells_get _ i 3 hil (by decide)] at u3
      have u0' := lastsCells_get S.lasts i 0 hil (by decide)
      rw [Nat.add_zero] at u0'
      rw [u0'] at u0
      simp only [lastCells, List.getElem?_cons_zero, List.getElem?_cons_succ] at u0 u1 u2 u3
      have HF : Hid (StNew _ _ _ _ ∧ Below _ _ _) := app_fin (w := w) (i := i) (x := ⟨n, ⟨rc, rn, rd⟩⟩) hn7 hl7 (by first | omega | (simp <;> omega)) (by first | omega | (simp <;> omega)) hw7 (.slice a5 N5 c5) (.slice a6 N6 c6) (.slice (some ⟨g, 0, none⟩) S.lasts.length c3)
      generalize S.lasts.getD i zeroLast = ll at *
      obtain ⟨y0, y1⟩ := i7.c2
      obtain ⟨r0, r1, r2⟩ := i1.c3
      obtain ⟨s0, s1, s2⟩ := i1.z3
      obtain ⟨z0, z1⟩ := iV.c2
      obtain ⟨t0, t1, t2⟩ := iR.c3
      have q1 : ¬ w.heap.size + 1 = g := by omega
      have q2 : ¬ g = w.heap.size + 1 := by omega
      have q3 : ¬ g = w5.heap.size := by omega
      have q4 : ¬ w5.heap.size = g := by omega
      have i0' : (0 : Int) ≤ (i : Int) := by omega
      have i1' : (i : Int) < (S.lasts.length : Int) := by omega
      clear hn6 hn7 hl7 i1 i7 iV iR hw5 hw6 hw7 u0' hb7 j0 j1 j7 bV bR x2 HC
      clear m0 m1 m5 m6 n6 m7 o0 hgB l7
      go_wp2_with fail
      rw [HD.out, HVV.out, HRR.out]
      refine bodyPost_ret (v := .tuple #[.agg #[.slice a5 N5 c5, .slice a6 N6 c6, .slice (some ⟨g, 0, none⟩) S.lasts.length c3], .int .i64 0]) ?_ rfl ⟨_, rfl, HF.out.1, HF.out.2⟩
      clear HF
      simp [results, Tryz.results33, go_sem, *]

end Go.Proofs.YtmdgkjbiicaljahGreatDoor
