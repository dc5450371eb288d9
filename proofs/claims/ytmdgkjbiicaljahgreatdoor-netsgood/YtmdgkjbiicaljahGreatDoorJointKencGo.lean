/- The program's own stage.writeEach, of numbers and of texts. -/
import Derived.Test.YtmdgkjbiicaljahGreatDoorJointBuildGo
import Derived.Test.YtmdgkjbiicaljahGreatDoorJointRlogGo
import Derived.Test.YtmdgkjbiicaljahGreatDoorJointReplMem
import Derived.Test.YtmdgkjbiicaljahGreatDoorJointKeptDup
set_option linter.unusedVariables false
set_option linter.unusedSimpArgs false
namespace Go.Proofs.YtmdgkjbiicaljahGreatDoor
open Go.RowKit
attribute [local go_sem] app_list ext_list get_list byteAt_zero

theorem byteCells_append (a b : List UInt8) : Lib.byteCells (a ++ b) = Lib.byteCells a ++ Lib.byteCells b := by simp [Lib.byteCells]

/-- A builder of the call's own stays one while new memory is laid. -/
theorem isBuilder_below {T e : TypeId} {B b : Nat} {bs : List Value} {w w' : World} (h : Lib.IsBuilder T e B b bs w) (hb : Below w.heap.size w w') : Lib.IsBuilder T e B b bs w' := by
 have one : ∀ p,Lib.BuilderAt T e B b p bs w→Lib.BuilderAt T e B b p bs w' := by
  rintro p ⟨hB,v,hbk,hown,hne⟩
  have hlt:b < w.heap.size:=(Array.getElem?_eq_some_iff.1 hbk).1
  exact⟨hB,v,by rw[hb.block b hlt]; exact hbk,own_below hown hb (own_lt hown),hne⟩
 rcases h with h | h
 ·exact Or.inl (one _ h)
 ·exact Or.inr (one _ h)

set_option maxHeartbeats 2000000 in
theorem writeNums_ok (ns : List Int) (b o c : Nat) (w : World) (hn : ns.length ≤ 60) (hr : ∀ x ∈ ns,0 ≤ x ∧ x ≤ 1073741824) (hc : ∀ i,i < ns.length → w.cell? ⟨b,o + i,none⟩ = some (.int .i64 (ns.getD i 0))) :
  Calls Tryz.prog 81 #[.slice (some ⟨b,o,none⟩) ns.length c, .func (.func 82) #[] #[]] w fun e w' => e = .returned (.tuple #[.string ⟨(ns.flatMap numBytes).toArray⟩, .int .i64 0])∧Below w.heap.size w w' := by
 have HI:Hid (Lib.IsBuilder 188 5 w.heap.size w.heap.size (Lib.byteCells ((ns.take 0).flatMap numBytes)) _∧Below w.heap.size w _):=⟨Lib.fresh_isBuilder 188 5 w,below_alloc w (.cells #[.pointer none, .slice none 0 0] 188)⟩
 go_enter Tryz.func81,Tryz.ntmps81
 go_wp2_with fail
 go_loopw [13] (fun i wr => ∃ k:Nat,k≤ns.length∧i = .int .i64 k∧Lib.IsBuilder 188 5 w.heap.size w.heap.size (Lib.byteCells ((ns.take k).flatMap numBytes)) wr∧Below w.heap.size w wr) (fun i wr=>ns.length - (intOf i).toNat)
 case atStart=>exact⟨0,by omega,rfl,HI.out.1,HI.out.2⟩
 case round =>
  clear HI
  obtain⟨k,hk,rfl,hbu,hbr⟩:=hrel
  by_cases hlt:k < ns.length
  ·have t0:=(hbr.cell (p:=⟨b,_,none⟩) (lt_of_cell (hc k hlt))).trans (hc k hlt)
   have hx:=hr (ns.getD k 0) (by rw[show ns.getD k 0=ns[k] by simp[List.getD,hlt]]; exact List.getElem_mem hlt)
   have HTK:Hid (Lib.byteCells ((ns.take (k+1)).flatMap numBytes)=Lib.byteCells ((ns.take k).flatMap numBytes) ++ Lib.byteCells (numBytes (ns.getD k 0))):=by
    unfold Hid
    rw[List.take_succ_eq_append_getElem hlt,List.flatMap_append,byteCells_append,show ns.getD k 0=ns[k] by simp[List.getD,hlt]]
    simp
   have HNB:Hid (∀ w,Calls _ _ _ w _):=fun w=>number_ok (ns.getD k 0) w hx.1 hx.2
   have HBU:Hid (Lib.IsBuilder _ _ _ _ _ wr):=hbu
   have HBR:Hid (Below w.heap.size w wr):=hbr
   have k0:(0:Int)≤(k:Int):=by omega
   have k1:(k:Int) < (ns.length:Int):=by omega
   have hTl:(Lib.byteCells ((ns.take k).flatMap numBytes)).length≤240:=by rw[Lib.byteCells_length,flatNum_len,List.length_take]; omega
   clear hbr hx hc hbu hr
   generalize ns.getD k 0=nn at *
   have hUl:(numBytes nn).length=4:=length_num nn
   obtain⟨U,HU⟩ : ∃ U,numBytes nn=U:=⟨_,rfl⟩
   rw[HU] at HNB HTK hUl
   clear HU
   obtain⟨T,HT⟩ : ∃ T,Lib.byteCells ((ns.take k).flatMap numBytes)=T:=⟨_,rfl⟩
   rw[HT] at HTK hTl HBU
   clear HT
   go_wp2_with fail
   refine (HNB.out _).mono ?_
   rintro e w4 ⟨rfl,hb4⟩
   have HB4:Hid (Below w.heap.size w w4):=Below.far HBR.out hb4
   have HU4:Hid (Lib.IsBuilder _ _ _ _ _ w4):=isBuilder_below HBU.out hb4
   clear hb4 t0 HNB HBU HBR
   go_wp2_with fail
   refine (bWriteString _ _ _ _ _ HU4.out (by rw[show (⟨U.toArray⟩:ByteArray).size=U.length by simp[ByteArray.size]]; omega) HB4.out.size).mono ?_
   rintro e w5 ⟨rfl,hU5,hb5⟩
   have HU5:Hid (Lib.IsBuilder 188 5 w.heap.size w.heap.size (Lib.byteCells ((ns.take (k+1)).flatMap numBytes)) w5):=by
    unfold Hid
    rw[HTK.out]
    exact Or.inr hU5
   have HB5:Hid (Below w.heap.size w w5):=HB4.out.trans hb5
   clear hU5 hb5 HU4 HB4 HTK
   go_wp2_with fail
   go_roundw
   case rel=>exact⟨k+1,by omega,by go_num,HU5.out,HB5.out⟩
   case measure=>simp[intOf]; omega
  ·obtain rfl:k=ns.length:=by omega
   rw[List.take_length] at hbu
   have HBU:Hid (Lib.IsBuilder _ _ _ _ _ wr):=hbu
   have HBR:Hid (Below w.heap.size w wr):=hbr
   clear hbr hbu hc hr
   obtain⟨T,HT⟩ : ∃ T,Hid (ns.flatMap numBytes=T):=⟨_,rfl⟩
   rw[HT.out] at HBU
   go_wp2_with fail
   refine (Tryz.Builder_String_any _ _ _ _ HBU.out HBR.out.size).mono ?_
   rintro e w5 ⟨rfl,hb5⟩
   have HB5:Hid (Below w.heap.size w w5):=HBR.out.trans hb5
   clear hb5 HBU HBR
   go_wp2_with fail
   go_ret2
   rw[HT.out]
   exact⟨rfl,HB5.out⟩

set_option maxHeartbeats 2000000 in
theorem writeNums_no (n : Int) (ns : List Int) (b o c : Nat) (w : World) (hn : ns.length ≤ 60) (hr : n < 0 ∨ 1073741824 < n) (hc : w.cell? ⟨b,o,none⟩ = some (.int .i64 n)) :
  Calls Tryz.prog 81 #[.slice (some ⟨b,o,none⟩) (n :: ns).length c, .func (.func 82) #[] #[]] w fun e w' => e = .returned (.tuple #[.string ⟨#[]⟩, .int .i64 2])∧Below w.heap.size w w' := by
 have HI:Hid (Below w.heap.size w _):=below_alloc w (.cells #[.pointer none, .slice none 0 0] 188)
 have hcl:=lt_of_cell hc
 have HNB:Hid (∀ w,Calls _ _ _ w _):=fun w=>number_no n w hr
 have hlen:(n :: ns).length=ns.length+1:=rfl
 obtain⟨L,hL⟩ : ∃ L,(n :: ns).length=L:=⟨_,rfl⟩
 rw[hL] at hlen ⊢
 clear hL
 have hL0:(0:Int) < (L:Int):=by omega
 clear hlen hr
 go_enter Tryz.func81,Tryz.ntmps81
 go_wp2_with fail
 go_loopw [13] (fun i wr=>i = .int .i64 0∧Below w.heap.size w wr) (fun i wr=>0)
 case atStart=>exact⟨rfl,HI.out⟩
 case round =>
  clear HI
  obtain⟨rfl,hbr⟩:=hrel
  have t0:=(hbr.cell (p:=⟨b,_,none⟩) hcl).trans hc
  have HBR:Hid (Below w.heap.size w wr):=hbr
  clear hbr hc
  go_wp2_with fail
  refine (HNB.out _).mono ?_
  rintro e w4 ⟨rfl,hb4⟩
  have HB4:Hid (Below w.heap.size w w4):=Below.far HBR.out hb4
  clear hb4 t0 HNB HBR
  go_wp2_with fail
  go_ret2
  exact⟨rfl,HB4.out⟩

set_option maxHeartbeats 2000000 in
theorem writeTexts_ok (l : List (List UInt8)) (v : Value) (w : World) (h : Strs w v l) (hn : l.length ≤ 60) (hr : ∀ s ∈ l,s.length ≤ 40) :
  Calls Tryz.prog 83 #[v, .func (.func 84) #[] #[]] w fun e w' => e = .returned (.tuple #[.string ⟨(l.flatMap txtB).toArray⟩, .int .i64 0])∧Below w.heap.size w w' := by
 obtain⟨a,c,rfl,hlx,hc⟩:=h
 have HI:Hid (Lib.IsBuilder 188 5 w.heap.size w.heap.size (Lib.byteCells ((l.take 0).flatMap txtB)) _∧Below w.heap.size w _):=⟨Lib.fresh_isBuilder 188 5 w,below_alloc w (.cells #[.pointer none, .slice none 0 0] 188)⟩
 go_enter Tryz.func83,Tryz.ntmps83
 go_wp2_with fail
 go_loopw [13] (fun i wr => ∃ k:Nat,k≤l.length∧i = .int .i64 k∧Lib.IsBuilder 188 5 w.heap.size w.heap.size (Lib.byteCells ((l.take k).flatMap txtB)) wr∧Below w.heap.size w wr) (fun i wr=>l.length - (intOf i).toNat)
 case atStart=>exact⟨0,by omega,rfl,HI.out.1,HI.out.2⟩
 case round =>
  clear HI
  obtain⟨k,hk,rfl,hbu,hbr⟩:=hrel
  by_cases hlt:k < l.length
  ·obtain⟨b,o,rfl,h1,h2⟩:=hc k hlt
   have t0:=(hbr.cell (p:=⟨b,_,none⟩) (lt_of_cell h1)).trans h1
   have hx:=hr (l.getD k []) (by rw[show l.getD k []=l[k] by simp[List.getD,hlt]]; exact List.getElem_mem hlt)
   have HTK:Hid (Lib.byteCells ((l.take (k+1)).flatMap txtB)=Lib.byteCells ((l.take k).flatMap txtB) ++ Lib.byteCells (txtB (l.getD k []))):=by
    unfold Hid
    rw[List.take_succ_eq_append_getElem hlt,List.flatMap_append,byteCells_append,show l.getD k []=l[k] by simp[List.getD,hlt]]
    simp
   have HNB:Hid (∀ w,Calls _ _ _ w _):=fun w=>text_ok (l.getD k []) w (by omega)
   have HBU:Hid (Lib.IsBuilder _ _ _ _ _ wr):=hbu
   have HBR:Hid (Below w.heap.size w wr):=hbr
   have k0:(0:Int)≤(k:Int):=by omega
   have k1:(k:Int) < (l.length:Int):=by omega
   have hTl:(Lib.byteCells ((l.take k).flatMap txtB)).length≤2460:=by
    have:=flatTxt_len (l.take k) (fun s hs=>hr s (List.mem_of_mem_take hs))
    have:=List.length_take_le k l
    rw[Lib.byteCells_length]
    omega
   have hUl:(txtB (l.getD k [])).length≤41:=by unfold txtB; rw[List.length_cons]; omega
   clear hbr hx hc hbu hr h1 h2
   generalize l.getD k []=nn at *
   have HU:Hid (b8 nn.length :: nn=txtB nn):=rfl
   rw[HU.out] at HNB
   obtain⟨U,HU2⟩ : ∃ U,txtB nn=U:=⟨_,rfl⟩
   rw[HU2] at HNB HTK hUl
   clear HU HU2
   obtain⟨T,HT⟩ : ∃ T,Lib.byteCells ((l.take k).flatMap txtB)=T:=⟨_,rfl⟩
   rw[HT] at HTK hTl HBU
   clear HT
   go_wp2_with fail
   refine (HNB.out _).mono ?_
   rintro e w4 ⟨rfl,hb4⟩
   have HB4:Hid (Below w.heap.size w w4):=Below.far HBR.out hb4
   have HU4:Hid (Lib.IsBuilder _ _ _ _ _ w4):=isBuilder_below HBU.out hb4
   clear hb4 t0 HNB HBU HBR
   go_wp2_with fail
   refine (bWriteString _ _ _ _ _ HU4.out (by rw[show (⟨U.toArray⟩:ByteArray).size=U.length by simp[ByteArray.size]]; omega) HB4.out.size).mono ?_
   rintro e w5 ⟨rfl,hU5,hb5⟩
   have HU5:Hid (Lib.IsBuilder 188 5 w.heap.size w.heap.size (Lib.byteCells ((l.take (k+1)).flatMap txtB)) w5):=by
    unfold Hid
    rw[HTK.out]
    exact Or.inr hU5
   have HB5:Hid (Below w.heap.size w w5):=HB4.out.trans hb5
   clear hU5 hb5 HU4 HB4 HTK
   go_wp2_with fail
   go_roundw
   case rel=>exact⟨k+1,by omega,by go_num,HU5.out,HB5.out⟩
   case measure=>simp[intOf]; omega
  ·obtain rfl:k=l.length:=by omega
   rw[List.take_length] at hbu
   have HBU:Hid (Lib.IsBuilder _ _ _ _ _ wr):=hbu
   have HBR:Hid (Below w.heap.size w wr):=hbr
   clear hbr hbu hc hr
   obtain⟨T,HT⟩ : ∃ T,Hid (l.flatMap txtB=T):=⟨_,rfl⟩
   rw[HT.out] at HBU
   go_wp2_with fail
   refine (Tryz.Builder_String_any _ _ _ _ HBU.out HBR.out.size).mono ?_
   rintro e w5 ⟨rfl,hb5⟩
   have HB5:Hid (Below w.heap.size w w5):=HBR.out.trans hb5
   clear hb5 HBU HBR
   go_wp2_with fail
   go_ret2
   rw[HT.out]
   exact⟨rfl,HB5.out⟩

end Go.Proofs.YtmdgkjbiicaljahGreatDoor

/- The program's own stage.headOf and stage.Encode. -/
namespace Go.Proofs.YtmdgkjbiicaljahGreatDoor
open Go.RowKit
attribute [local go_sem] app_list ext_list get_list byteAt_zero

theorem keptNums_in (K : KeptM) (g : Int) (h : KeptMay K) (hg : 0 ≤ g ∧ g ≤ 1073741824) : ∀ x ∈ keptNums K g,0 ≤ x ∧ x ≤ 1073741824 := by
 intro x hx
 have hl:=h.len
 simp only[keptNums,List.mem_cons,List.not_mem_nil,or_false] at hx
 rcases hx with rfl | rfl | rfl | rfl | rfl | rfl
 ·exact hg
 ·exact⟨h.v0,by have:=h.v1; omega⟩
 ·exact⟨h.n0,by have:=h.v1; have:=h.n1; omega⟩
 ·unfold bit; split <;> omega
 ·exact⟨h.c0,by have:=h.c1; omega⟩
 ·omega

set_option maxHeartbeats 2000000 in
theorem headOf_any (vw nm : Int) (cm : Bool) (a : Option Addr) (n c : Nat) (ct g : Int) (w : World) :
  Calls Tryz.prog 80 #[.agg #[.int .i64 vw, .int .i64 nm, .bool cm, .slice a n c, .int .i64 ct], .int .i64 g] w fun e w' => e = .returned (.agg #[.int .i64 g, .int .i64 vw, .int .i64 nm, .int .i64 (bit cm), .int .i64 ct, .int .i64 n])∧Below w.heap.size w w' := by
 obtain⟨b0,b1,b2,hb⟩:=boxes3 w 44 109 109 [.int .i64 vw, .int .i64 nm, .bool cm, .slice a n c, .int .i64 ct] [.int .i64 0, .int .i64 0, .int .i64 0, .int .i64 0, .int .i64 0, .int .i64 0] [.int .i64 g, .int .i64 vw, .int .i64 nm, .int .i64 0, .int .i64 ct, .int .i64 n]
 obtain⟨w0,hw0⟩ : ∃ w0,w0=((w.alloc (.cells #[.int .i64 vw, .int .i64 nm, .bool cm, .slice a n c, .int .i64 ct] 44)).alloc (.cells #[.int .i64 0, .int .i64 0, .int .i64 0, .int .i64 0, .int .i64 0, .int .i64 0] 109)).alloc (.cells #[.int .i64 g, .int .i64 vw, .int .i64 nm, .int .i64 0, .int .i64 ct, .int .i64 n] 109):=⟨_,rfl⟩
 go_enter Tryz.func80,Tryz.ntmps80
 go_upto_region 2 with fail
 rw[← hw0] at b0 b1 b2 hb ⊢
 clear hw0
 have x2:=b0.cell 2 _ rfl
 have l2:=b2.lt
 have ne1 : ¬ (w.heap.size+1+1)=w.heap.size+1:=by omega
 cases cm
 ·have p0:=b2.cell 0 _ rfl
  have p1:=b2.cell 1 _ rfl
  have p2:=b2.cell 2 _ rfl
  have p3:=b2.cell 3 _ rfl
  have p4:=b2.cell 4 _ rfl
  have p5:=b2.cell 5 _ rfl
  obtain⟨r0,r1,r2,r3,r4,r5⟩:=b1.c6
  obtain⟨f0,f1,f2,f3,f4,f5⟩:=b1.z6
  have HB:Hid (Below w.heap.size w _):=(((((hb.setCell (p:=⟨w.heap.size+1,0,none⟩) (by simp) (.int .i64 g)).setCell (p:=⟨w.heap.size+1,1,none⟩) (by simp) (.int .i64 vw)).setCell (p:=⟨w.heap.size+1,2,none⟩) (by simp) (.int .i64 nm)).setCell (p:=⟨w.heap.size+1,3,none⟩) (by simp) (.int .i64 0)).setCell (p:=⟨w.heap.size+1,4,none⟩) (by simp) (.int .i64 ct)).setCell (p:=⟨w.heap.size+1,5,none⟩) (by simp) (.int .i64 n)
  clear b0 b1 b2 hb
  go_wp2_with fail
  exact bodyPost_ret (v := .agg #[.int .i64 g, .int .i64 vw, .int .i64 nm, .int .i64 0, .int .i64 ct, .int .i64 n]) (by clear HB; simp[results,Tryz.results80,go_sem, *]) rfl ⟨rfl,HB.out⟩
 ·have p3:=b2.cell 3 _ rfl
  have g3:=b2.frozen 3
  obtain⟨w1,hw1⟩ : ∃ w1,w1=w0.setCell ⟨w.heap.size+1+1,3,none⟩ (.int .i64 1):=⟨_,rfl⟩
  have c2:=b2.set 3 (.int .i64 1)
  have c1:=b1.other (a:=⟨w.heap.size+1+1,3,none⟩) (.int .i64 1) (by simp)
  have hc:=hb.setCell (p:=⟨w.heap.size+1+1,3,none⟩) (by simp; omega) (.int .i64 1)
  clear b0 b1 b2 hb
  go_upto_region 4 with fail
  rw[← hw1] at c1 c2 hc ⊢
  clear hw1 p3 g3 x2
  obtain⟨p0,p1,p2,p3,p4,p5⟩:=c2.c6
  obtain⟨r0,r1,r2,r3,r4,r5⟩:=c1.c6
  obtain⟨f0,f1,f2,f3,f4,f5⟩:=c1.z6
  have HB:Hid (Below w.heap.size w _):=(((((hc.setCell (p:=⟨w.heap.size+1,0,none⟩) (by simp) (.int .i64 g)).setCell (p:=⟨w.heap.size+1,1,none⟩) (by simp) (.int .i64 vw)).setCell (p:=⟨w.heap.size+1,2,none⟩) (by simp) (.int .i64 nm)).setCell (p:=⟨w.heap.size+1,3,none⟩) (by simp) (.int .i64 1)).setCell (p:=⟨w.heap.size+1,4,none⟩) (by simp) (.int .i64 ct)).setCell (p:=⟨w.heap.size+1,5,none⟩) (by simp) (.int .i64 n)
  clear c1 c2 hc
  go_wp2_with fail
  exact bodyPost_ret (v := .agg #[.int .i64 g, .int .i64 vw, .int .i64 nm, .int .i64 1, .int .i64 ct, .int .i64 n]) (by clear HB; simp[results,Tryz.results80,go_sem, *]) rfl ⟨rfl,HB.out⟩

set_option maxHeartbeats 2000000 in
theorem stageEnc_any (K : KeptM) (g : Int) (v : Value) (w : World) (h : KeptAt w v K) :
  Calls Tryz.prog 53 #[v, .int .i64 g] w fun e w' => e = .returned (.tuple #[.string ⟨(kencS K g).toArray⟩, .int .i64 (kencE K g)])∧Below w.heap.size w w' := by
 have h' := h
 obtain⟨vl,rfl,hs⟩:=h'
 have HF:Hid (∀ W,Below w.heap.size w W→Calls _ _ _ W _):=fun W hW=>stageCheck_any K _ W (h.below hW)
 have HKE:Hid (kencE K g=if keptFault K=0 then (if 0≤g∧g≤1073741824 then 0 else 2) else keptFault K):=rfl
 have HKS:Hid (kencS K g=if kencE K g=0 then keptB K g else []):=rfl
 have HKM:Hid (keptFault K=0→KeptMay K):=keptMay_of K
 have HNM:Hid (KeptMay K→0≤g∧g≤1073741824 → ∀ x ∈ [g,K.view,K.normal,bit K.calm,K.commit,(K.log.length:Int)],0≤x∧x≤1073741824):=keptNums_in K g
 have HKB:Hid (keptB K g=sealBytes (bodyB K g) ++ bodyB K g):=rfl
 have HBB:Hid (bodyB K g = [g,K.view,K.normal,bit K.calm,K.commit,(K.log.length:Int)].flatMap numBytes ++ K.log.flatMap txtB):=rfl
 obtain⟨f,hf⟩ : ∃ f,keptFault K=f:=⟨_,rfl⟩
 rw[hf] at HF HKE HKM
 clear hf
 obtain⟨KE,hKE⟩ : ∃ KE,kencE K g=KE:=⟨_,rfl⟩
 obtain⟨KS,hKS⟩ : ∃ KS,kencS K g=KS:=⟨_,rfl⟩
 obtain⟨KB,hKB⟩ : ∃ KB,keptB K g=KB:=⟨_,rfl⟩
 obtain⟨BB,hBB⟩ : ∃ BB,bodyB K g=BB:=⟨_,rfl⟩
 rw[hKE] at HKE HKS ⊢
 rw[hKS] at HKS ⊢
 rw[hKB] at HKS HKB
 rw[hBB] at HKB HBB
 clear hKE hKS hKB hBB
 have HLB:Hid (KeptMay K→K.log.length≤60 ∧ ∀ s ∈ K.log,s.length≤40):=fun m=>⟨m.len,fun s hs=>decE_len s (m.log s hs)⟩
 have HST:Hid (Strs w vl K.log):=hs
 obtain⟨vw,nm,cm,l,ct⟩:=K
 simp only at hs HF HNM HBB HLB HST ⊢
 obtain⟨a,c,rfl,hlx,hcx⟩:=hs
 clear h hcx
 have b0:=Box.new w 44 [.int .i64 vw, .int .i64 nm, .bool cm, .slice a l.length c, .int .i64 ct]
 have hb:=below_alloc w (.cells #[.int .i64 vw, .int .i64 nm, .bool cm, .slice a l.length c, .int .i64 ct] 44)
 obtain⟨w0,hw0⟩ : ∃ w0,w0=w.alloc (.cells #[.int .i64 vw, .int .i64 nm, .bool cm, .slice a l.length c, .int .i64 ct] 44):=⟨_,rfl⟩
 go_enter Tryz.func53,Tryz.ntmps53
 go_upto_region 1 with fail
 rw[← hw0] at b0 hb ⊢
 clear hw0
 obtain⟨x0,x1,x2,x3,x4⟩:=b0.c5
 have HB0:Hid (Box w0 w.heap.size _ _):=b0
 have HW0:Hid (Below w.heap.size w w0):=hb
 clear b0 hb
 go_wp2_with fail
 refine (HF.out _ HW0.out).mono ?_
 rintro e w1 ⟨rfl,hb1⟩
 have b1:=HB0.out.below hb1 HB0.out.lt
 have hw1:=Below.far HW0.out hb1
 clear HB0 HW0 hb1 HF x0 x1 x2 x3 x4
 by_cases hf0:f=0
 ·subst hf0
  have HM:Hid (KeptMay ⟨vw,nm,cm,l,ct⟩):=HKM.out rfl
  have HH:Hid (∀ W,Calls _ _ _ W _):=fun W=>headOf_any vw nm cm a l.length c ct g W
  obtain⟨x0,x1,x2,x3,x4⟩:=b1.c5
  have HB1:Hid (Box w1 w.heap.size _ _):=b1
  have HW1:Hid (Below w.heap.size w w1):=hw1
  clear b1 hw1 HKM
  obtain⟨bc,hbc⟩ : ∃ bc,bit cm=bc:=⟨_,rfl⟩
  rw[hbc] at HH HNM HBB
  clear hbc
  go_wp2_with fail
  refine (HH.out _).mono ?_
  rintro e w2 ⟨rfl,hb2⟩
  have B7:=Box.new w2 109 [.int .i64 g, .int .i64 vw, .int .i64 nm, .int .i64 bc, .int .i64 ct, .int .i64 l.length]
  have b2:=(HB1.out.below hb2 HB1.out.lt).alloc (.cells #[.int .i64 g, .int .i64 vw, .int .i64 nm, .int .i64 bc, .int .i64 ct, .int .i64 l.length] 109)
  have hw2:=Below.up (Below.far HW1.out hb2) (.cells #[.int .i64 g, .int .i64 vw, .int .i64 nm, .int .i64 bc, .int .i64 ct, .int .i64 l.length] 109)
  obtain⟨w3,hw3⟩ : ∃ w3,w3=w2.alloc (.cells #[.int .i64 g, .int .i64 vw, .int .i64 nm, .int .i64 bc, .int .i64 ct, .int .i64 l.length] 109):=⟨_,rfl⟩
  go_upto_region 5 with fail
  rw[← hw3] at B7 b2 hw2 ⊢
  clear hw3 HB1 HW1 HH hb2 x0 x1 x2 x3 x4
  obtain⟨b7,hb7⟩ : ∃ b7,w2.heap.size=b7:=⟨_,rfl⟩
  rw[hb7] at B7 ⊢
  clear hb7
  have l7:=B7.lt
  by_cases hg:0≤g∧g≤1073741824
  ·have HX:Hid (KE=0∧KS=sealBytes BB ++ BB):=by
    have e:KE=0:=by rw[HKE.out]; simp[hg]
    exact⟨e,by rw[HKS.out,if_pos e,HKB.out]⟩
   have HW:Hid (∀ W,Below w3.heap.size w3 W→Calls Tryz.prog 81 #[.slice (some ⟨b7,0,none⟩) 6 6, .func (.func 82) #[] #[]] W _):=fun W hW =>
    writeNums_ok [g,vw,nm,bc,ct,l.length] b7 0 6 W (by simp) (HNM.out HM.out hg) (fun i hi=>by
     have BW:=B7.below hW l7
     rw[Nat.zero_add]
     refine BW.cell i _ ?_
     exact numCells_get [g,vw,nm,bc,ct,l.length] i hi)
   have HWT:Hid (∀ W,Below w.heap.size w W→Calls _ _ _ W _):=fun W hW=>writeTexts_ok l _ W (HST.out.below hW) (HLB.out HM.out).1 (HLB.out HM.out).2
   have hnl:([g,vw,nm,bc,ct,(l.length:Int)].flatMap numBytes).length=24:=by rw[flatNum_len]; rfl
   have htl:(l.flatMap txtB).length≤2460:=by
    have:=flatTxt_len l (HLB.out HM.out).2
    have:=(HLB.out HM.out).1
    omega
   obtain⟨NB,hNB⟩ : ∃ NB,[g,vw,nm,bc,ct,(l.length:Int)].flatMap numBytes=NB:=⟨_,rfl⟩
   obtain⟨TB,hTB⟩ : ∃ TB,l.flatMap txtB=TB:=⟨_,rfl⟩
   rw[hNB] at HW HBB hnl
   rw[hTB] at HWT HBB htl
   clear hNB hTB
   have HB2:Hid (Box w3 w.heap.size _ _):=b2
   have HW2:Hid (Below w.heap.size w w3):=hw2
   clear b2 hw2 B7 HKE HKS HKB HM HNM HLB HST hg
   go_wp2_with fail
   refine (HW.out _ (Below.refl _ _)).mono ?_
   rintro e w4 ⟨rfl,hb4⟩
   have b4:=HB2.out.below hb4 HB2.out.lt
   have HW4:Hid (Below w.heap.size w w4):=Below.far HW2.out hb4
   have x3:=b4.cell 3 _ rfl
   have lx:=b4.lt
   clear HB2 HW2 hb4 HW b4
   go_wp2_with fail
   refine (HWT.out _ HW4.out).mono ?_
   rintro e w5 ⟨rfl,hb5⟩
   have HW5:Hid (Below w.heap.size w w5):=Below.far HW4.out hb5
   clear hb5 HW4 HWT x3
   have HTB:Hid (NB ++ TB=BB):=HBB.out.symm
   have hBl:BB.length≤2484:=by rw[HBB.out,List.length_append]; omega
   have HSL:Hid (∀ w,Calls _ _ _ w _):=fun w=>seal_any BB w (by omega)
   have hSl:(sealBytes BB).length≤4:=by simp[sealBytes]
   obtain⟨SB,HSB⟩ : ∃ SB,sealBytes BB=SB:=⟨_,rfl⟩
   rw[HSB] at HSL HX hSl
   clear HSB HBB
   have eTB:NB ++ TB=BB:=HTB.out
   go_wp2_with fail
   refine (HSL.out _).mono ?_
   rintro e w6 ⟨rfl,hb6⟩
   have HW6:Hid (Below w.heap.size w w6):=Below.far HW5.out hb6
   clear hb6 HW5 HSL
   go_wp2_with fail
   go_ret2
   exact⟨by rw[HX.out.1,HX.out.2]; rfl,HW6.out⟩
  ·have HX:Hid (KE=2∧KS = []):=by
    have e:KE=2:=by rw[HKE.out]; simp[hg]
    exact⟨e,by rw[HKS.out,e]; rfl⟩
   have HW:Hid (∀ W,Below w3.heap.size w3 W→Calls Tryz.prog 81 #[.slice (some ⟨b7,0,none⟩) 6 6, .func (.func 82) #[] #[]] W _):=fun W hW =>
    writeNums_no g [vw,nm,bc,ct,l.length] b7 0 6 W (by simp) (by omega) ((B7.below hW l7).cell 0 _ rfl)
   have HW2:Hid (Below w.heap.size w w3):=hw2
   clear b2 hw2 B7 HKE HKS HKB HM HNM HLB HST hg
   go_wp2_with fail
   refine (HW.out _ (Below.refl _ _)).mono ?_
   rintro e w4 ⟨rfl,hb4⟩
   have HW4:Hid (Below w.heap.size w w4):=Below.far HW2.out hb4
   clear hb4 HW HW2
   go_wp2_with fail
   go_ret2
   exact⟨by rw[HX.out.1,HX.out.2]; rfl,HW4.out⟩
 ·have t1:(f == 0)=false:=by simpa using hf0
  have t2:(f != 0)=true:=by simpa using hf0
  have HX:Hid (KE=f∧KS = []):=by
   have e:KE=f:=by rw[HKE.out,if_neg hf0]
   exact⟨e,by rw[HKS.out,if_neg (by rw[e]; exact hf0)]⟩
  have HW1:Hid (Below w.heap.size w w1):=hw1
  clear b1 hw1 HKE HKS HKB HKM HNM HLB HST HBB hf0
  go_wp2_with fail
  go_ret2
  exact⟨by rw[HX.out.1,HX.out.2]; rfl,HW1.out⟩

end Go.Proofs.YtmdgkjbiicaljahGreatDoor
