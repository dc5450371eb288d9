/- The program's own: a client asks for an operation. -/
import Derived.Test.YtmdgkjbiicaljahGreatDoorJointNetAnew
import Derived.Test.YtmdgkjbiicaljahGreatDoorJointCodecIs
import Derived.Test.YtmdgkjbiicaljahGreatDoorJointVolMem
import Derived.BigQuiet
import Derived.Laws.EntriesVeiled
import Derived.Laws.CopyOwn
import Derived.Deep.QuietTactic
set_option linter.unusedVariables false
set_option linter.unusedSimpArgs false
namespace Go.Proofs.YtmdgkjbiicaljahGreatDoor
open Go.RowKit

theorem put_cust (xs : List Value) (k : Nat) (a0 a1 a2 a3 a4 a5 a6 a7 : Value) (h : xs[k]? = some a0) : putAt xs k [a0,a1,a2,a3,a4,a5,a6,a7] = (putAt xs (k + 2) [a2,a3,a4,a5,a6,a7]).set (k + 1) a1 := by
 have e0:xs.set k a0=xs:=by
  apply List.ext_getElem?
  intro j
  rw[List.getElem?_set]
  split
  ·rename_i e
   subst e
   have:=(List.getElem?_eq_some_iff.1 h).1
   rw[if_pos this,h]
  ·rfl
 simp only[putAt]
 rw[e0,List.set_comm _ _ (show k+1≠k+1+1 by omega),List.set_comm _ _ (show k+1≠k+1+1+1 by omega),List.set_comm _ _ (show k+1≠k+1+1+1+1 by omega),List.set_comm _ _ (show k+1≠k+1+1+1+1+1 by omega),List.set_comm _ _ (show k+1≠k+1+1+1+1+1+1 by omega),List.set_comm _ _ (show k+1≠k+1+1+1+1+1+1+1 by omega)]
theorem setAll_cell_low {g : Nat} (xs : List Value) (w : World) (k j : Nat) (h : j < k) : (setAll w g k xs).cell? ⟨g,j,none⟩ = w.cell? ⟨g,j,none⟩ := by
 rw[← setCells_all]
 exact World.cell?_setCells_out _ _ _ _ _ fun _ _=>Or.inl h
theorem setAll_one (w : World) (g k : Nat) (x : Value) : w.setCell ⟨g,k,none⟩ x = setAll w g k [x] := rfl
theorem setAll_frozen_all {g : Nat} (xs : List Value) (w : World) (k : Nat) (a : Addr) : (setAll w g k xs).frozen? a = w.frozen? a := by
 rw[← setCells_all]
 exact World.frozen?_setCells _ _ _ _ _
/-- The world's struct, behind stores into the clients' row. -/
theorem NetRows.cust {w w' : World} {B b g cap n i : Nat} {N : NetM} {vr vs vf vt vk : Value} (h : NetRows w B N vr vs vf (.slice (some ⟨g,0,none⟩) n cap) vt vk) (hx : Box w b 87 [vr,vs,vf, .slice (some ⟨g,0,none⟩) n cap,vt,vk]) (hx' : Box w' b 87 [vr,vs,vf, .slice (some ⟨g,0,none⟩) n cap,vt,vk]) (c : CustM)
  (hs:w'.heap.size=w.heap.size) (hg:B≤g) (ho : ∀ k,k≠g→w'.heap[k]? = w.heap[k]?) (hw:w'.os=w.os∧w'.tape=w.tape∧w'.output=w.output) (st:Stay [105] w w') (hr:w'.ownsRow B 105 8 (.slice (some ⟨g,0,none⟩) n cap) (N.custs.set i c).length ((N.custs.set i c).flatMap custCells)) :
  NetAt w' B b (custN N i c)∧Goes w w' B b:=by
 refine⟨⟨vr,vs,vf,_,vt,vk,hx',h.r.stay st (by decide),h.s.stay st (by decide),h.f.stay st (by decide),hr,h.t.stay st (by decide),h.k.stay st (by decide)⟩, ?_, ?_,st.keeps (by decide), ?_⟩
 ·exact⟨hw.1,hw.2.1,hw.2.2,Nat.le_of_eq hs.symm,fun k hk=>ho k (by omega)⟩
 ·exact leaves_row (g:=g) hx hx' (Nat.le_of_eq hs.symm) ⟨.slice (some ⟨g,0,none⟩) n cap,by simp,rfl⟩ (fun c hc k e=>Or.inr ⟨c,hc,e⟩) fun k hk _=>ho k hk
 ·have e:w'.heap[b]? = w.heap[b]? := ho b fun e=>own_type h.c hx (by decide) (congrArg some e.symm)
  simp only[World.cell?,e]

def askQ (N : NetM) (i : Nat) (o : OpM) : Int × NetM :=
 if (N.cust i).wait.num≠0 then (12,N) else if opFault o≠0 then (opFault o,N) else (0,custN N i ⟨(N.cust i).id,(N.cust i).next+1,⟨(N.cust i).id,(N.cust i).next,o⟩⟩)

set_option maxRecDepth 4000 in
set_option maxHeartbeats 4000000 in
theorem ask_any (B b g cap n i : Nat) (N : NetM) (o : OpM) (vr vs vf vt vk : Value) (w : World) (h : NetRows w B N vr vs vf (.slice (some ⟨g,0,none⟩) n cap) vt vk) (hx : Box w b 87 [vr,vs,vf, .slice (some ⟨g,0,none⟩) n cap,vt,vk]) (hB : B ≤ w.heap.size) (hg : B ≤ g) (hi : i < N.custs.length)
  (hl:o.data.length≤281474976710656) (hc:0≤(N.cust i).next∧(N.cust i).next≤1000000) :
  Calls Tryz.prog 56 #[.pointer (some ⟨g,i * 8,none⟩), .agg (opCells o).toArray] w fun e w' => e = .returned (.int .i64 (askQ N i o).1)∧NetAt w' B b (askQ N i o).2∧Goes w w' B b:=by
 have HN:Hid (NetAt w B b N):=⟨_,_,_,_,_,_,hx,h⟩
 have HBS:Hid (B≤w.heap.size∧B≤g):=⟨hB,hg⟩
 obtain⟨g',cap',e,_,hcs⟩:=h.c.read i hi (N.cust i) rfl
 simp only[Value.slice.injEq,Option.some.injEq,Addr.mk.injEq,and_true,true_and] at e
 obtain⟨rfl,rfl,rfl⟩:=e
 have HCK:Hid (Calls Tryz.prog 71 #[.agg (opCells o).toArray] _ _):=volCheckOp_any o (w.alloc (.cells (opCells o).toArray 38)) hl
 have b0:=Box.new w 38 (opCells o)
 unfold opCells at b0 HCK ⊢
 obtain⟨w0,hw0⟩ : ∃ w0,w0=w.alloc (.cells #[.int .i64 o.kind, .int .i64 o.place, .int .i64 o.snap, .string ⟨o.data.toArray⟩] 38):=⟨_,rfl⟩
 have hb0:Below w.heap.size w w0:=by rw[hw0]; exact below_alloc _ _
 change Box (w.alloc (.cells #[.int .i64 o.kind, .int .i64 o.place, .int .i64 o.snap, .string ⟨o.data.toArray⟩] 38)) _ _ _ at b0
 have HCK' : Hid (Calls Tryz.prog 71 #[.agg #[.int .i64 o.kind, .int .i64 o.place, .int .i64 o.snap, .string ⟨o.data.toArray⟩]] w0 fun e w' => e = .returned (.int .i64 (opFault o))∧Below w0.heap.size w0 w'):=by rw[hw0]; exact HCK.out
 rw[← hw0] at b0
 clear HCK
 have ct : ∀ j,j < 8→w0.cell? ⟨g,i * 8+j,none⟩=(custCells (N.cust i))[j]? := fun j hj=>by
  have q:=(hcs j hj).1
  have hlt:j < (custCells (N.cust i)).length:=hj
  rw[List.getElem?_eq_getElem hlt] at q ⊢
  exact (hb0.cell (p:=⟨g,i * 8+j,none⟩) (lt_of_cell q)).trans q
 have t3:=ct 3 (by omega)
 simp only[custCells,List.getElem?_cons_zero,List.getElem?_cons_succ] at t3
 have HB0:Hid (Below w.heap.size w w0):=hb0
 have H0:Hid (Box w0 w.heap.size _ _):=b0
 have HX:Hid (Box w b _ _):=hx
 have HR:Hid (NetRows w B N _ _ _ _ _ _):=h
 have HI:Hid (i < N.custs.length):=hi
 have HC:Hid (0≤(N.cust i).next∧(N.cust i).next≤1000000):=hc
 obtain⟨C,hC⟩ : ∃ C,N.cust i=C:=⟨_,rfl⟩
 have HCC:Hid (N.cust i=C):=hC
 rw[hC] at t3 HC
 clear hb0 b0 ct hcs hB hg hx h hi hl hc hC
 go_enter Tryz.func56,Tryz.ntmps56
 go_upto_region 1 with fail
 rw[← hw0]
 clear hw0
 by_cases hw:C.wait.num=0
 ·have q1:(C.wait.num != 0)=false:=by simp[hw]
  have HQ:Hid (askQ N i o=if opFault o≠0 then (opFault o,N) else (0,custN N i ⟨C.id,C.next+1,⟨C.id,C.next,o⟩⟩)):=by unfold askQ; rw[HCC.out,if_neg (by simp[hw])]; rfl
  have z0:=H0.out
  obtain⟨y0,y1,y2,y3⟩:=z0.c4
  clear hw z0
  go_wp2_with fail
  refine HCK'.out.mono ?_
  rintro e w2 ⟨rfl,hb2⟩
  clear y0 y1 y2 y3
  have HB2:Hid (Below w0.heap.size w0 w2):=hb2
  have H2:Hid (Box w2 w.heap.size 38 [.int .i64 o.kind, .int .i64 o.place, .int .i64 o.snap, .string ⟨o.data.toArray⟩]):=H0.out.below hb2 H0.out.lt
  have HW2:Hid (Below w.heap.size w w2):=Below.far HB0.out hb2
  have HN2:Hid (NetAt w2 B b N∧Goes w w2 B b):=⟨HN.out.below HW2.out,Goes.net HN.out HBS.out.1 HW2.out⟩
  have HX2:Hid (Box w2 b _ _):=HX.out.below HW2.out HX.out.lt
  have HR2:Hid (NetRows w2 B N _ _ _ _ _ _):=HR.out.below HW2.out
  clear hb2 t3
  by_cases hf:opFault o=0
  ·have q2:(opFault o != 0)=false:=by simp[hf]
   have HQ2:Hid (askQ N i o=(0,custN N i ⟨C.id,C.next+1,⟨C.id,C.next,o⟩⟩)):=by rw[HQ.out,if_neg (by simp[hf])]; rfl
   clear hf
   go_upto_region 6 with fail
   refine wp_region_plan [0,0,0,0,0,0,0,0,0,0,0,1,1,1] (.free 0 (.done 1)) (by kernel_rfl) (by kernel_rfl) (fun h=>h) (Below w2.heap.size w2) (Below.refl _ _) (fun V n hV=>below_drewN n hV) fun n5 => ?_
   refine wpPlan_free (by kernel_rfl) ?_
   have rd : ∀ W,Below w2.heap.size w2 W → ∀ j,j < 8→W.cell? ⟨g,i * 8+j,none⟩=(custCells C)[j]? ∧ W.frozen? ⟨g,i * 8+j,none⟩=false:=fun W hW j hj=>by
    obtain⟨g',cap',e,_,hcs⟩:=(HR2.out.below hW).c.read i HI.out (N.cust i) rfl
    simp only[Value.slice.injEq,Option.some.injEq,Addr.mk.injEq,and_true,true_and] at e
    obtain⟨rfl,_,_⟩:=e
    rw[HCC.out] at hcs
    exact hcs j hj
   have HRD:Hid (∀ W,Below w2.heap.size w2 W → ∀ j,j < 8→W.cell? ⟨g,i * 8+j,none⟩=(custCells C)[j]? ∧ W.frozen? ⟨g,i * 8+j,none⟩=false):=rd
   clear rd
   apply Exists.intro
   refine⟨?_, ?_⟩
   ·intro V hV
    have by' := H2.out.below hV H2.out.lt
    obtain⟨y0,y1,y2,y3⟩:=by'.c4
    have t0:=(HRD.out V hV 0 (by omega)).1
    have t1:=(HRD.out V hV 1 (by omega)).1
    simp only[custCells,List.getElem?_cons_zero,List.getElem?_cons_succ,Nat.add_zero] at t0 t1
    simp only[sel,↓reduceIte,Nat.reduceEqDiff]
    repeat (go_big_quiet_step (fail))
    refine wpQuiet_nil ?_
    rfl
   intro n6
   refine wpPlan_done ?_
   simp only[sel,↓reduceIte,Nat.reduceEqDiff]
   obtain⟨w5,hw5⟩ : ∃ w5,w5=(w2.drewN n5).drewN n6:=⟨_,rfl⟩
   have HB5:Hid (Below w2.heap.size w2 w5):=by rw[hw5]; exact below_drewN _ (below_drewN _ (Below.refl _ _))
   rw[← hw5]
   clear hw5
   have rs : ∀ j,j < 8→(∃ x,w5.cell? ⟨g,i * 8+j,none⟩=some x)∧w5.frozen? ⟨g,i * 8+j,none⟩=false:=fun j hj=>by
    obtain⟨q1,q2⟩:=HRD.out w5 HB5.out j hj
    refine⟨?_,q2⟩
    rw[q1]
    exact⟨_,List.getElem?_eq_getElem (by show j < 8; omega)⟩
   obtain⟨⟨q2',p2⟩,r2⟩:=rs 2 (by omega)
   obtain⟨⟨q3',p3⟩,r3⟩:=rs 3 (by omega)
   obtain⟨⟨q4',p4⟩,r4⟩:=rs 4 (by omega)
   obtain⟨⟨q5',p5⟩,r5⟩:=rs 5 (by omega)
   obtain⟨⟨q6',p6⟩,r6⟩:=rs 6 (by omega)
   obtain⟨⟨q7',p7⟩,r7⟩:=rs 7 (by omega)
   clear rs
   obtain⟨w6,hw6⟩ : ∃ w6,w6=setAll w5 g (i * 8+2) [.int .i64 C.id, .int .i64 C.next, .int .i64 o.kind, .int .i64 o.place, .int .i64 o.snap, .string ⟨o.data.toArray⟩]:=⟨_,rfl⟩
   have HW6:Hid (w6=setAll w5 g (i * 8+2) [.int .i64 C.id, .int .i64 C.next, .int .i64 o.kind, .int .i64 o.place, .int .i64 o.snap, .string ⟨o.data.toArray⟩]):=hw6
   simp only[setAll,Nat.add_assoc,Nat.reduceAdd] at hw6
   go_upto_region 7 with fail
   rw[← hw6]
   clear hw6 p2 p3 p4 p5 p6 p7 r2 r3 r4 r5 r6 r7
   have t1:w6.cell? ⟨g,i * 8+1,none⟩=some (.int .i64 C.next)∧w6.frozen? ⟨g,i * 8+1,none⟩=false:=by
    obtain⟨q1,q2⟩:=HRD.out w5 HB5.out 1 (by omega)
    rw[HW6.out]
    exact⟨by rw[setAll_cell_low _ _ _ _ (by omega),q1]; rfl,by rw[setAll_frozen_all,q2]⟩
   obtain⟨t1,f1⟩:=t1
   have HE:Hid (NetAt (w6.setCell ⟨g,i * 8+1,none⟩ (.int .i64 (C.next+1))) B b (custN N i ⟨C.id,C.next+1,⟨C.id,C.next,o⟩⟩)∧Goes w (w6.setCell ⟨g,i * 8+1,none⟩ (.int .i64 (C.next+1))) B b):=by
    have hx5:=HX2.out.below HB5.out HX2.out.lt
    have hr5:=HR2.out.below HB5.out
    have hcl:=hr5.c
    have hne:b≠g:=fun e=>own_type hcl hx5 (by decide) (congrArg some e.symm)
    obtain⟨w7,hw7⟩ : ∃ w7,w7=setAll w6 g (i * 8+1) [.int .i64 (C.next+1)]:=⟨_,rfl⟩
    rw[setAll_one,← hw7]
    have h6:=HW6.out
    have hx6:Box w6 b 87 [vr,vs,vf, .slice (some ⟨g,0,none⟩) N.custs.length cap,vt,vk]:=by rw[h6]; exact hx5.setAll_other hne [.int .i64 C.id, .int .i64 C.next, .int .i64 o.kind, .int .i64 o.place, .int .i64 o.snap, .string ⟨o.data.toArray⟩] (i * 8+2)
    have hx7:Box w7 b 87 [vr,vs,vf, .slice (some ⟨g,0,none⟩) N.custs.length cap,vt,vk]:=by rw[hw7]; exact hx6.setAll_other hne [.int .i64 (C.next+1)] (i * 8+1)
    have s1:Stay [105] w5 w6:=by rw[h6]; exact Stay.row hcl [.int .i64 C.id, .int .i64 C.next, .int .i64 o.kind, .int .i64 o.place, .int .i64 o.snap, .string ⟨o.data.toArray⟩] (i * 8+2)
    have r6:w6.ownsRow B 105 8 (.slice (some ⟨g,0,none⟩) N.custs.length cap) N.custs.length (putAt (N.custs.flatMap custCells) (i * 8+2) [.int .i64 C.id, .int .i64 C.next, .int .i64 o.kind, .int .i64 o.place, .int .i64 o.snap, .string ⟨o.data.toArray⟩]):=by rw[h6]; exact own_putAll _ _ _ _ hcl
    have s2:Stay [105] w6 w7:=by rw[hw7]; exact Stay.row r6 [.int .i64 (C.next+1)] (i * 8+1)
    have r7:w7.ownsRow B 105 8 (.slice (some ⟨g,0,none⟩) N.custs.length cap) N.custs.length (putAt (putAt (N.custs.flatMap custCells) (i * 8+2) [.int .i64 C.id, .int .i64 C.next, .int .i64 o.kind, .int .i64 o.place, .int .i64 o.snap, .string ⟨o.data.toArray⟩]) (i * 8+1) [.int .i64 (C.next+1)]):=by rw[hw7]; exact own_putAll _ _ _ _ r6
    have z7:w7.heap.size=w5.heap.size:=by rw[hw7,setAll_size,h6,setAll_size]
    have o7 : ∀ k,k≠g→w7.heap[k]? = w5.heap[k]? := fun k hk=>by rw[hw7,setAll_heap_other hk,h6,setAll_heap_other hk]
    have e7:w7.os=w5.os∧w7.tape=w5.tape∧w7.output=w5.output:=by
     obtain⟨a1,a2,a3⟩:=setAll_same g [.int .i64 (C.next+1)] w6 (i * 8+1)
     obtain⟨b1,b2,b3⟩:=setAll_same g [.int .i64 C.id, .int .i64 C.next, .int .i64 o.kind, .int .i64 o.place, .int .i64 o.snap, .string ⟨o.data.toArray⟩] w5 (i * 8+2)
     rw[← h6] at b1 b2 b3
     rw[← hw7] at a1 a2 a3
     exact⟨a1.trans b1,a2.trans b2,a3.trans b3⟩
    clear h6 hw7
    have e:(N.custs.set i ⟨C.id,C.next+1,⟨C.id,C.next,o⟩⟩).flatMap custCells=putAt (putAt (N.custs.flatMap custCells) (i * 8+2) [.int .i64 C.id, .int .i64 C.next, .int .i64 o.kind, .int .i64 o.place, .int .i64 o.snap, .string ⟨o.data.toArray⟩]) (i * 8+1) [.int .i64 (C.next+1)]:=by
     rw[flat_set custCells 8 custCells_len _ _ _ HI.out]
     refine put_cust _ _ _ _ _ _ _ _ _ _ ?_
     have:=flat_get custCells 8 custCells_len N.custs i 0 C (by rw[← HCC.out]; unfold NetM.cust; have:=HI.out; simp[List.getD,this]) (by omega)
     rw[Nat.add_zero] at this
     rw[this]
     rfl
    have q:=hr5.cust (w' := w7) (i:=i) hx5 hx7 ⟨C.id,C.next+1,⟨C.id,C.next,o⟩⟩ z7 HBS.out.2 o7 e7 ((s1.trans s2).mono (by simp)) (by rw[e,List.length_set]; exact r7)
    exact⟨q.1,(HN2.out.2.trans (Goes.of HX2.out (Nat.le_trans HBS.out.1 HW2.out.size) HB5.out)).trans q.2⟩
   have k1:0≤C.next:=HC.out.1
   have k2:C.next≤1000000:=HC.out.2
   go_wp2_with fail
   go_ret
   rw[HQ2.out]
   exact⟨rfl,HE.out⟩
  ·have q2:(opFault o != 0)=true:=by simpa using hf
   have HQ2:Hid (askQ N i o=(opFault o,N)):=by rw[HQ.out,if_pos hf]; rfl
   clear hf
   go_wp2_with fail
   go_ret
   rw[HQ2.out]
   exact⟨rfl,HN2.out⟩
 ·have q1:(C.wait.num != 0)=true:=by simpa using hw
  have HQ:Hid (askQ N i o=(12,N)):=by unfold askQ; rw[HCC.out,if_pos hw]; rfl
  have HN0:Hid (NetAt w0 B b N∧Goes w w0 B b):=⟨HN.out.below HB0.out,Goes.net HN.out HBS.out.1 HB0.out⟩
  clear hw
  go_wp2_with fail
  go_ret
  rw[HQ.out]
  exact⟨rfl,HN0.out⟩

end Go.Proofs.YtmdgkjbiicaljahGreatDoor

/- What the program's own package volume does: its contracts. -/
namespace Go.Proofs.YtmdgkjbiicaljahGreatDoor
open Go.RowKit
attribute [local go_sem] app_list ext_list get_list byteAt_zero

set_option maxHeartbeats 1000000 in
theorem indexLong_any (x : List (List UInt8)) (v : Value) (w : World) (hx : Strs w v x) :
  Calls Tryz.prog 29 #[v, .func (.func 105) #[] #[]] w fun e w' => ∃ n:Int,e = .returned (.int .i64 n)∧decide (0≤n) = !(x.all (fun s=>decide (s.length≤8)))∧w' = w:=by
 obtain⟨a,c,rfl,hlx,hcx⟩:=hx
 go_enter Tryz.func29,Tryz.ntmps29
 go_wp2
 go_loop [8] (fun i => ∃ k:Nat,k≤x.length∧i = .int .i64 k∧(x.take k).all (fun s=>decide (s.length≤8))=true) (fun i=>x.length - (intOf i).toNat)
 case atStart=>exact⟨0,by omega,rfl,rfl⟩
 case round =>
  obtain⟨k,hk,rfl,he⟩:=hrel
  have He:Hid ((x.take k).all (fun s=>decide (s.length≤8))=true):=he
  clear he
  by_cases hlt:k < x.length
  ·obtain⟨b,o,rfl,h1,h2⟩:=hcx k hlt
   have hg:x.getD k []=x[k]:=by simp[List.getD,hlt]
   by_cases e:(x.getD k []).length≤8
   ·have HE:Hid ((x.take (k+1)).all (fun s=>decide (s.length≤8))=true):=by
     unfold Hid
     rw[List.take_succ_eq_append_getElem hlt,List.all_append,He.out,← hg]
     simpa using e
    clear hg hcx
    generalize x.getD k []=s at *
    go_wp2
    exact⟨⟨k+1,by omega,by go_num,HE.out⟩,by simp[intOf]; omega⟩
   ·have HE:Hid (x.all (fun s=>decide (s.length≤8))=false):=by
     apply List.all_eq_false.2
     exact⟨x[k],List.getElem_mem hlt,by rw[← hg]; simpa using e⟩
    clear hg hcx
    generalize x.getD k []=s at *
    go_wp2
    go_ret
    exact⟨_,rfl,by rw[HE.out]; simp,rfl⟩
  ·have HE:Hid (x.all (fun s=>decide (s.length≤8))=true):=by
    have:=He.out
    rw[List.take_of_length_le (by omega)] at this
    exact this
   go_wp2
   go_ret
   exact⟨_,rfl,by rw[HE.out]; rfl,rfl⟩

set_option maxHeartbeats 1000000 in
theorem wrong_any (x : List (List UInt8)) (v : Value) (w : World) (hx : Strs w v x) (b : Nat) (hb : w.cell? ⟨b,0,none⟩ = some (.func (.func 105) #[] #[])) :
  Calls Tryz.prog 106 #[v, .pointer (some ⟨b,0,none⟩)] w fun e w' => e = .returned (.bool (!(secMay x)))∧w' = w:=by
 have hx' := hx
 obtain⟨a,c,rfl,hlx,_⟩:=hx'
 by_cases h6:(x.length:Int)=6
 ·have HE:Hid (secMay x=x.all (fun s=>decide (s.length≤8))):=by
   unfold Hid secMay
   have:x.length=6:=by omega
   rw[this]; simp
  have q:((x.length:Int) != 6)=false:=by simp[h6]
  clear h6
  go_enter Tryz.func106,Tryz.ntmps106
  go_wp2_with (first
   | (go_at_call 29; refine (indexLong_any _ _ _ hx).mono ?_; rintro e w1 ⟨n,rfl,HN,rfl⟩; have HN' : Hid (_=_):=HN; clear HN)
   | go_in)
  go_ret
  exact⟨by rw[HE.out,← HN'.out]; rfl,rfl⟩
 ·have HE:Hid (secMay x=false):=by
   unfold Hid secMay
   have : ¬ x.length=6:=by omega
   simp[this]
  have q:((x.length:Int) != 6)=true:=by simp[h6]
  clear h6
  go_enter Tryz.func106,Tryz.ntmps106
  go_wp2_with fail
  go_ret
  exact⟨by rw[HE.out]; rfl,rfl⟩

set_option maxHeartbeats 1000000 in
theorem indexWrong_any (x : List (List (List UInt8))) (v : Value) (w : World) (hx : Strss w v x) (b : Nat) (hb : w.cell? ⟨b,0,none⟩ = some (.func (.func 105) #[] #[])) :
  Calls Tryz.prog 130 #[v, .func (.func 106) #[] #[.pointer (some ⟨b,0,none⟩)]] w fun e w' => ∃ n:Int,e = .returned (.int .i64 n)∧decide (0≤n) = !(x.all secMay)∧w' = w:=by
 obtain⟨a,c,rfl,hlx,hcx⟩:=hx
 go_enter Tryz.func130,Tryz.ntmps130
 go_wp2_with fail
 go_loop [8] (fun i => ∃ k:Nat,k≤x.length∧i = .int .i64 k∧(x.take k).all secMay=true) (fun i=>x.length - (intOf i).toNat)
 case atStart=>exact⟨0,by omega,rfl,rfl⟩
 case round =>
  obtain⟨k,hk,rfl,he⟩:=hrel
  have He:Hid ((x.take k).all secMay=true):=he
  clear he
  by_cases hlt:k < x.length
  ·obtain⟨b',o,u,rfl,h1,h2⟩:=hcx k hlt
   have hg:x.getD k []=x[k]:=by simp[List.getD,hlt]
   rcases Bool.eq_false_or_eq_true (secMay (x.getD k [])) with e | e
   ·have HE:Hid ((x.take (k+1)).all secMay=true):=by
     unfold Hid
     rw[List.take_succ_eq_append_getElem hlt,List.all_append,He.out,← hg]
     simpa using e
    have HW:Hid (Calls _ _ _ _ _):=wrong_any (x.getD k []) u w h2 b hb
    rw[e] at HW
    clear hg hcx e h2
    go_wp2_with (go_at_call 106; refine HW.out.mono ?_; rintro e w1 ⟨rfl,rfl⟩)
    exact⟨⟨k+1,by omega,by go_num,HE.out⟩,by simp[intOf]; omega⟩
   ·have HE:Hid (x.all secMay=false):=by
     apply List.all_eq_false.2
     exact⟨x[k],List.getElem_mem hlt,by rw[← hg]; simpa using e⟩
    have HW:Hid (Calls _ _ _ _ _):=wrong_any (x.getD k []) u w h2 b hb
    rw[e] at HW
    clear hg hcx e h2
    go_wp2_with (go_at_call 106; refine HW.out.mono ?_; rintro e w1 ⟨rfl,rfl⟩)
    go_ret
    exact⟨_,rfl,by rw[HE.out]; simp,rfl⟩
  ·have HE:Hid (x.all secMay=true):=by
    have:=He.out
    rw[List.take_of_length_le (by omega)] at this
    exact this
   go_wp2_with fail
   go_ret
   exact⟨_,rfl,by rw[HE.out]; rfl,rfl⟩

set_option maxHeartbeats 1000000 in
theorem volCheck_any (V : VolM) (v : Value) (w : World) (h : VolAt w v V) :
  Calls Tryz.prog 74 #[v] w fun e w' => e = .returned (.int .i64 (volFault V))∧Below w.heap.size w w' := by
 obtain⟨vn,vs,rfl,hn,hs⟩:=h
 have hmf : ∀ (fn:Fn) (first cap:Array Value) (w:World),(Instr.makeFunc fn first cap).run Tryz.prog w = .ok (.func fn first cap) w:=fun _ _ _ _=>rfl
 obtain⟨bA,bB,hb⟩:=boxes2 w 69 97 [vn,vs] [.func (.func 105) #[] #[]]
 have hn' := hn.below hb
 have hs' := hs.below hb
 have HW:Hid (Calls _ _ _ _ _):=wrong_any V.now vn _ hn' (w.heap.size+1) (bB.cell 0 _ rfl)
 have HI:Hid (Calls _ _ _ _ _):=indexWrong_any V.snaps vs _ hs' (w.heap.size+1) (bB.cell 0 _ rfl)
 have HB:Hid (Below _ _ _):=hb
 obtain⟨a,c,rfl,hla,_⟩:=hs
 clear hn' hs' hn bA bB hb
 rcases Bool.eq_false_or_eq_true (secMay V.now) with e | e
 ·rw[e] at HW
  by_cases hl:(V.snaps.length:Int)≤3
  ·have HF:Hid (volFault V=if V.snaps.all secMay=true then 0 else 8):=by
    unfold Hid volFault volMay
    rw[e]
    have:V.snaps.length≤3:=by omega
    simp[this]
   clear e
   have hB:V.snaps.all secMay=true∨V.snaps.all secMay=false:=by cases V.snaps.all secMay <;> simp
   rcases hB with hB | hB
   all_goals
    rw[hB] at HF HI
    clear hB
    go_enter Tryz.func74,Tryz.ntmps74
    go_wp2_with (first
     | (go_at_call 106; refine HW.out.mono ?_; rintro e w1 ⟨rfl,rfl⟩)
     | (go_at_call 130; refine HI.out.mono ?_; rintro e w1 ⟨n,rfl,HN,rfl⟩; simp only[Bool.not_true,Bool.not_false,decide_eq_true_eq,decide_eq_false_iff_not] at HN)
     | go_in)
    go_ret
    exact⟨by rw[HF.out]; rfl,HB.out⟩
  ·have HF:Hid (volFault V=8):=by
    unfold Hid volFault volMay
    have : ¬ V.snaps.length≤3:=by omega
    simp[this]
   clear e
   go_enter Tryz.func74,Tryz.ntmps74
   go_wp2_with (first
    | (go_at_call 106; refine HW.out.mono ?_; rintro e w1 ⟨rfl,rfl⟩))
   go_ret
   exact⟨by rw[HF.out]; rfl,HB.out⟩
 ·rw[e] at HW
  have HF:Hid (volFault V=8):=by
   unfold Hid volFault volMay
   simp[e]
  clear e
  go_enter Tryz.func74,Tryz.ntmps74
  go_wp2_with (first
   | (go_at_call 106; refine HW.out.mono ?_; rintro e w1 ⟨rfl,rfl⟩))
  go_ret
  exact⟨by rw[HF.out]; rfl,HB.out⟩

theorem goMakeStrs6 (w : World) : (Instr.makeSlice 42 (.int .i64 6) (.int .i64 6)).run Tryz.prog w = .ok (.slice (some ⟨w.heap.size,0,none⟩) 6 6) (w.alloc (.cells #[.string ⟨#[]⟩, .string ⟨#[]⟩, .string ⟨#[]⟩, .string ⟨#[]⟩, .string ⟨#[]⟩, .string ⟨#[]⟩] 9)) := by kernel_rfl

set_option maxHeartbeats 1000000 in
theorem volNew_any (w : World) :
  Calls Tryz.prog 46 #[] w fun e w' => ∃ v',e = .returned v' ∧ VolNew w' w.heap.size v' newVol∧Below w.heap.size w w' := by
 have k1:=goMakeStrs6
 go_enter Tryz.func46,Tryz.ntmps46
 go_wp2_with fail
 clear k1
 obtain⟨b0,b1,hb⟩:=boxes2 w 69 9 [.slice (some ⟨w.heap.size+1,0,none⟩) 6 6, .slice none 0 0] [.string ⟨#[]⟩, .string ⟨#[]⟩, .string ⟨#[]⟩, .string ⟨#[]⟩, .string ⟨#[]⟩, .string ⟨#[]⟩]
 have HV:Hid (VolNew _ _ _ _):=newVol_at b1 (B:=w.heap.size) (by omega)
 have HB:Hid (Below _ _ _):=hb
 clear b0 b1 hb
 refine bodyPost_ret (v := .agg #[.slice (some ⟨w.heap.size+1,0,none⟩) 6 6, .slice none 0 0]) ?_ rfl ?_
 ·clear HV HB
  simp[results,Tryz.results46,go_sem]
 ·exact⟨_,rfl,HV.out,HB.out⟩

/-- The cells of a new list of strings. -/
theorem made_one (z : Value) (n : Nat) : (madeCells #[z] n).toList = List.replicate n z := by
 unfold madeCells
 apply List.ext_getElem
 ·simp
 ·intro i h1 h2
  simp[Nat.mod_one]

set_option maxHeartbeats 1000000 in
theorem copySectors_any (x : List (List UInt8)) (v : Value) (w : World) (hx : Strs w v x) (hz : x.length * 16 ≤ 140737488355328) :
  Calls Tryz.prog 109 #[v] w fun e w' => ∃ v',e = .returned v' ∧ w'.ownsRow w.heap.size 9 1 v' x.length (x.map enc)∧Below w.heap.size w w' := by
 have hx0:Hid (Strs w v x):=hx
 obtain⟨a,c,rfl,hlx,hcx⟩:=hx
 go_enter Tryz.func109,Tryz.ntmps109
 go_wp2_with (at_make; refine wpList_make_full _ rfl _ _ 42 rfl w.heap.size 9 Tryz.t9 _ 1 Tryz.underlying42 infoStr zeroStr sizeStr .i64 .i64 x.length x.length x.length rfl rfl rfl rfl (by rw[bytesStr]; omega) (by unfold maxLen; omega) (Nat.le_refl _) ?_)
 intro w1 hown hg
 rw[made_one] at hown
 obtain⟨g,cap,cur,hv,hb,hgc,_,hm,hcur,hcc⟩:=hown.2.resolve_left (by rintro⟨h,_⟩; cases h)
 cases hv
 have hb1:Below w.heap.size w w1:=(Below.refl _ _).grown hg (Nat.le_refl _) (fun _ h=>by cases h)
 have Hr1:Hid (RowAt w1 (.slice a x.length c) x.length 1 (x.map enc)):=(hx0.out.below hb1).row
 have hcs:cur.size=x.length:=by simpa using hcur
 have HG:Hid (w1.heap[w.heap.size]? = some (.cells cur.toList.toArray 9 (0,0))):=by unfold Hid; simpa using hgc
 have HL:Hid (cur.size=x.length):=hcs
 have HZ:Hid (0+(x.map enc).length≤cur.toList.length):=by unfold Hid; simp; omega
 have HC:Hid (0 < (x.map enc).length → ∃ ad,a=some ad ∧ ∀ j u,(x.map enc)[j]? = some u→w1.cell? (ad.add j)=some u):=by
  intro h0
  obtain⟨a',c',hv,hl,hc⟩:=Hr1.out
  cases hv
  obtain⟨ad,had,_⟩:=hc 0 _ (List.getElem?_eq_getElem h0)
  refine⟨ad,had,fun j u hj => ?_⟩
  obtain⟨ad',had',h2⟩:=hc j u hj
  rw[had] at had'
  cases had'
  exact h2
 have HM:Hid (x.length≤maxLen):=hm
 clear hx0 hcs hgc hm hcur hcc hown hg hcx
 go_wp2_with (refine show wpList _ _ _ ({ dst:=_,op := .call { callee := .builtin .copy,args:=_,argTypes:=_ },type:=_,pos:=_,after:=_,guard:=_ } :: _) _ _ from ?_; refine wpList_copy_splice rfl _ _ 42 42 rfl 9 Tryz.underlying42 (by kernel_rfl) _ _ _ _ _ _ rfl rfl w.heap.size 0 cur.toList 9 HG.out (x.map enc) (by rw[List.length_map]; exact (Nat.min_self _).symm) (fun h0=>⟨rfl,HC.out h0⟩) HZ.out (enc_one _) w.heap.size w hb1 (Nat.le_refl _) ?_)
 intro w2 HW2 hb2
 have HO:Hid (World.ownsRow w2 w.heap.size 9 1 (.slice (some ⟨w.heap.size,0,none⟩) x.length x.length) x.length (x.map enc)):=by
  refine⟨by simp,Or.inr ⟨_,_,_,rfl,Nat.le_refl _,HW2.out,Nat.le_refl _,HM.out, ?_, ?_⟩⟩
  ·have:=HL.out
   simp[splice]; omega
  ·have:=HL.out
   simp[splice]
 clear HW2 HG Hr1
 go_wp2_with fail
 go_ret
 exact⟨_,rfl,HO.out,hb2⟩

end Go.Proofs.YtmdgkjbiicaljahGreatDoor
