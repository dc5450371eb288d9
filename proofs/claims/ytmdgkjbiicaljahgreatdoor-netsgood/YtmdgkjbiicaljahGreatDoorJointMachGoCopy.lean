/- The program's own copy of a volume: its contract. -/
import Derived.Test.YtmdgkjbiicaljahGreatDoorJointVolGo
import Derived.Test.YtmdgkjbiicaljahGreatDoorJointVolMem
import Derived.Deep.RegionLaw
import Derived.BigRegion
import Derived.Test.YtmdgkjbiicaljahGreatDoorJointRowlaw
import Derived.Laws.CopyOwn
import Derived.Test.YtmdgkjbiicaljahGreatDoorJointStageMath
import Derived.Test.YtmdgkjbiicaljahGreatDoorJointSlotsMath
import Derived.Deep.DeepCutAuto
set_option linter.unusedVariables false
set_option linter.unusedSimpArgs false
namespace Go.Proofs.YtmdgkjbiicaljahGreatDoor
open Go.RowKit
attribute [local go_sem] app_list ext_list get_list byteAt_zero

/-- What holds after k rounds of the copy's loop. -/
structure GoCopyInv (w : World) (N : Nat) (V : VolM) (vn va : Value) (k : Nat) (us : List Value) (wr : World) : Prop where
 below:Below N w wr
 arg:Box wr N 69 [vn,va]
 res:Box wr (N+1) 69 [.slice none 0 0, .slice none 0 0]
 snaps:wr.ownsRow (N+2) 42 1 (.slice (some ⟨N+2,0,none⟩) V.snaps.length V.snaps.length) V.snaps.length (us ++ List.replicate (V.snaps.length - k) (.slice none 0 0))
 many:us.length=k
 each : ∀ i u,us[i]? = some u→wr.ownsRow (N+3) 9 1 u (V.snaps.getD i []).length ((V.snaps.getD i []).map enc)

theorem set_next (us : List Value) (z u : Value) (n k : Nat) (hk : k < n) (hu : us.length = k) : (us ++ List.replicate (n - k) z).set k u = (us ++ [u]) ++ List.replicate (n - (k + 1)) z := by
 obtain⟨m,rfl⟩ : ∃ m,n=k+1+m:=⟨n - (k+1),by omega⟩
 have e1:k+1+m - k=m+1:=by omega
 have e2:k+1+m - (k+1)=m:=by omega
 rw[e1,e2,List.set_append_right _ _ (by omega),hu,List.replicate_succ]
 simp

theorem gocopy_step {w wr wA : World} {N : Nat} {V : VolM} {vn va : Value} {k : Nat} {u : Value} {us : List Value} {sk : List (List UInt8)}
  (I:GoCopyInv w N V vn va k us wr) (hlt:k < V.snaps.length) (hk:V.snaps.getD k []=sk) (hA:Below wr.heap.size wr wA)
  (hownA:wA.ownsRow wr.heap.size 9 1 u sk.length (sk.map enc)) :
  GoCopyInv w N V vn va (k+1) (us ++ [u]) (wA.setCell ⟨N+2,k,none⟩ u):=by
 have l2:=own_lt I.snaps (N+2) rfl
 have hlow : ∀ (e:TypeId) (x:Value) (m:Nat) (xs:List Value) (B:Nat),N+3≤B→wA.ownsRow B e 1 x m xs→(wA.setCell ⟨N+2,k,none⟩ u).ownsRow B e 1 x m xs :=
  fun e x m xs B hB h=>ownsRow_setCell_below h (by simp; omega) _
 refine⟨((I.below.trans (hA.mono (by omega))).setCell (by simp) _),(I.arg.below hA (by omega)).other _ (by simp),(I.res.below hA (by omega)).other _ (by simp), ?_,by simp[I.many], ?_⟩
 ·have:=own_set (own_below I.snaps hA (own_lt I.snaps)) k u
  rw[set_next us _ u _ k hlt I.many] at this
  exact this
 ·intro i x hx
  by_cases hi:i < us.length
  ·rw[List.getElem?_append_left hi] at hx
   have h2:=I.each i x hx
   exact hlow _ _ _ _ _ (Nat.le_refl _) (own_below h2 hA (own_lt h2))
  ·rw[List.getElem?_append_right (by omega)] at hx
   have hi2:i=us.length:=by
    have:=(List.getElem?_eq_some_iff.1 hx).1
    simp at this
    omega
   subst hi2
   simp at hx
   subst hx
   rw[I.many,hk]
   exact hlow _ _ _ _ _ (Nat.le_refl _) (own_base hownA (by omega))

theorem gocopy_done {w wr wA : World} {N : Nat} {V : VolM} {vn va v1 : Value} {us : List Value} (I : GoCopyInv w N V vn va V.snaps.length us wr) (hA : Below wr.heap.size wr wA)
  (hownA:wA.ownsRow wr.heap.size 9 1 v1 V.now.length (V.now.map enc)) (x y:Value) :
  VolNew ((wA.setCell ⟨N+1,0,none⟩ x).setCell ⟨N+1,1,none⟩ y) N (.agg #[v1, .slice (some ⟨N+2,0,none⟩) V.snaps.length V.snaps.length]) V∧Below N w ((wA.setCell ⟨N+1,0,none⟩ x).setCell ⟨N+1,1,none⟩ y):=by
 have l2:=own_lt I.snaps (N+2) rfl
 have setR : ∀ (B:Nat) (e:TypeId) (z:Value) (m:Nat) (xs:List Value),N+1 < B→wA.ownsRow B e 1 z m xs→((wA.setCell ⟨N+1,0,none⟩ x).setCell ⟨N+1,1,none⟩ y).ownsRow N e 1 z m xs :=
  fun B e x m xs hB h=>own_base (ownsRow_setCell_below (ownsRow_setCell_below h (by simpa using hB) _) (by simpa using hB) _) (by omega)
 have hs:=I.snaps
 rw[Nat.sub_self,List.replicate_zero,List.append_nil] at hs
 refine⟨⟨_,_,us,rfl,setR _ _ _ _ _ (by omega) hownA,setR _ _ _ _ _ (by omega) (own_below hs hA (own_lt hs)),⟨I.many,fun i u hu => ?_⟩,⟨I.many,fun i u hu => ?_⟩, ?_⟩,((I.below.trans (hA.mono (by omega))).setCell (by simp) _).setCell (by simp) _⟩
 ·have h2:=I.each i u hu
  refine⟨setR _ _ _ _ _ (by omega) (own_below h2 hA (own_lt h2)),fun g hg hug => ?_⟩
  have:=own_ge hownA g hg
  have:=own_lt h2 g hug
  omega
 ·have h2:=I.each i u hu
  refine⟨setR _ _ _ _ _ (by omega) (own_below h2 hA (own_lt h2)),fun g hg hug => ?_⟩
  have:=own_ge h2 g hug
  obtain rfl:N+2=g:=Option.some.inj hg
  omega
 ·intro g hg hug
  have:=own_ge hownA g hg
  obtain rfl:N+2=g:=Option.some.inj hug
  omega

set_option maxHeartbeats 2000000 in
theorem volCopy_any (V : VolM) (v : Value) (w : World) (h : VolAt w v V) (hz : VolFits V) :
  Calls Tryz.prog 76 #[v] w fun e w' => ∃ v',e = .returned v' ∧ VolNew w' w.heap.size v' V∧Below w.heap.size w w' := by
 obtain⟨vn,vs,rfl,hn,hs⟩:=h
 have HS0:Hid (Strs w vn V.now):=hn
 obtain⟨a,c,rfl,hla,hca⟩:=hs
 obtain⟨an,cn,rfl,hln,_⟩:=hn
 obtain⟨bA,bB,hb⟩:=boxes2 w 69 69 [.slice an V.now.length cn, .slice a V.snaps.length c] [.slice none 0 0, .slice none 0 0]
 have HZ1:Hid (Tryz.t42.bytes * V.snaps.length≤281474976710656):=by unfold Hid; rw[bytesStrs]; have:=hz.snaps; omega
 have HZ2:Hid (V.snaps.length≤maxLen):=by unfold Hid maxLen; omega
 have HZ3:Hid (w.heap.size+2≤((w.alloc (Obj.cells #[.slice an V.now.length cn, .slice a V.snaps.length c] 69)).alloc (Obj.cells #[.slice none 0 0, .slice none 0 0] 69)).heap.size):=by unfold Hid; simp
 go_enter Tryz.func76,Tryz.ntmps76
 go_wp2_with (at_make; refine wpList_make_full _ rfl _ _ 26 rfl (w.heap.size+2) 42 Tryz.t42 _ 1 Tryz.underlying26 infoStrs zeroStrs sizeStrs .i64 .i64 V.snaps.length V.snaps.length V.snaps.length rfl rfl rfl rfl HZ1.out HZ2.out HZ3.out ?_)
 intro w1 hown hg
 simp only[Value.cells,made_one,Nat.mul_one] at hown
 have hb1:Below (w.heap.size+2) ((w.alloc (Obj.cells #[.slice an V.now.length cn, .slice a V.snaps.length c] 69)).alloc (Obj.cells #[.slice none 0 0, .slice none 0 0] 69)) w1:=(Below.refl _ _).grown hg HZ3.out (fun _ h=>by cases h)
 have HI:Hid (GoCopyInv w w.heap.size V (.slice an V.now.length cn) (.slice a V.snaps.length c) 0 [] w1) :=
  ⟨hb.trans (hb1.mono (by omega)),bA.below hb1 (by omega),bB.below hb1 (by omega),by simpa using hown,rfl,fun i u h=>by simp at h⟩
 have hc1:=HI.out.arg.cell 1 _ rfl
 clear hown hg hb1 bA bB hb HZ1 HZ2 HZ3
 go_wp2_with fail
 clear hc1
 go_loopw [13] (fun i wr => ∃ (k:Nat) (us:List Value),k≤V.snaps.length∧i = .int .i64 k∧GoCopyInv w w.heap.size V (.slice an V.now.length cn) (.slice a V.snaps.length c) k us wr) (fun i wr=>V.snaps.length - (intOf i).toNat)
 case atStart=>exact⟨0,_,by omega,rfl,HI.out⟩
 case round =>
  clear HI
  obtain⟨k,us,hk,rfl,I⟩:=hrel
  obtain⟨hc0,hc1⟩:=I.arg.c2
  by_cases hlt:k < V.snaps.length
  ·obtain⟨sk,HSK⟩ : ∃ sk,Hid (V.snaps.getD k []=sk):=⟨_,rfl⟩
   have hmem:sk ∈ V.snaps:=by
    rw[← HSK.out,show V.snaps.getD k []=V.snaps[k] by simp[List.getD,hlt]]; exact List.getElem_mem hlt
   obtain⟨b,o,u,rfl,h1,h2⟩:=hca k hlt
   rw[HSK.out] at h2
   have hb:=lt_of_cell h1
   have h2r:=h2.below I.below
   have h1r:wr.cell? ⟨b,o+k,none⟩=some u:=(I.below.cell (p:=⟨b,o+k,none⟩) hb).trans h1
   have k0:(0:Int)≤(k:Int):=by omega
   have k1:(k:Int) < (V.snaps.length:Int):=by omega
   have HC:Hid (Calls _ _ _ _ _):=copySectors_any sk u wr h2r (hz.each _ hmem)
   have HII:Hid (GoCopyInv w w.heap.size V (.slice an V.now.length cn) (.slice (some ⟨b,o,none⟩) V.snaps.length c) k us wr):=I
   obtain⟨a3,c3,rfl,hl3,_⟩:=h2r
   clear h2 hca I hmem h1
   go_wp2_with (go_at_call 109; refine HC.out.mono ?_)
   rintro e wA ⟨u',rfl,hownA,hbA⟩
   have hs:=own_below HII.out.snaps hbA (own_lt HII.out.snaps)
   obtain⟨g,_,hv,_,_,hcell,hfroz⟩:=own_cell hs k hlt
   cases hv
   have hcell' : wA.cell? ⟨w.heap.size+2,k,none⟩=some (.slice none 0 0):=by
    rw[hcell,List.getElem?_append_right (by have:=HII.out.many; omega)]
    rw[List.getElem?_replicate,if_pos (by have:=HII.out.many; omega)]
   have HS:Hid (GoCopyInv _ _ _ _ _ _ _ _):=gocopy_step HII.out hlt HSK.out hbA hownA
   obtain⟨a4,c4,rfl⟩:=own_form hownA
   clear hs hcell hownA hbA HII HC hc0 hc1 h1r
   go_wp2_with fail
   go_roundw
   case rel=>exact⟨k+1,_,by omega,by go_num,HS.out⟩
   case measure=>simp[intOf]; omega
  ·obtain rfl:k=V.snaps.length:=by omega
   have HII:Hid (GoCopyInv w w.heap.size V (.slice an V.now.length cn) (.slice a V.snaps.length c) V.snaps.length us wr):=I
   have HC:Hid (Calls _ _ _ _ _):=copySectors_any V.now (.slice an V.now.length cn) wr (HS0.out.below I.below) hz.now
   clear hca I
   go_wp2_with (go_at_call 109; refine HC.out.mono ?_)
   rintro e wA ⟨u',rfl,hownA,hbA⟩
   have BR:=HII.out.res.below hbA HII.out.res.lt
   obtain⟨hr0,hr1⟩:=BR.c2
   obtain⟨hf0,hf1⟩:=BR.z2
   obtain⟨a4,c4,rfl⟩:=own_form hownA
   have HD:Hid (VolNew _ _ _ _∧Below _ _ _):=gocopy_done HII.out hbA hownA (.slice a4 V.now.length c4) (.slice (some ⟨w.heap.size+2,0,none⟩) V.snaps.length V.snaps.length)
   clear HII HC BR hbA hownA hc0 hc1
   go_wp2_with fail
   exact bodyPost_ret (v := .agg #[.slice a4 V.now.length c4, .slice (some ⟨w.heap.size+2,0,none⟩) V.snaps.length V.snaps.length]) (by simp[results,Tryz.results76,go_sem,hr0,hr1]) rfl ⟨_,rfl,HD.out.1,HD.out.2⟩

end Go.Proofs.YtmdgkjbiicaljahGreatDoor

/- Laws for calls inside regions that draw their order; blocks told apart by their types. -/
namespace Go.Proofs.YtmdgkjbiicaljahGreatDoor
open Go.RowKit

/-- A store into a block that none of a volume's is. -/
theorem VolNew.apart {w : World} {B b : Nat} {v : Value} {V : VolM} (h : VolNew w B v V) (hne : ∀ (e : TypeId) (x : Value) (m : Nat) (xs : List Value),e = 9 ∨ e = 42 → w.ownsRow B e 1 x m xs → x.ownBlock ≠ some b) (i : Nat) (x : Value) : VolNew (w.setCell ⟨b,i,none⟩ x) B v V := by
 obtain⟨vn,vs,us,rfl,hn,hs,k1,k2,k3⟩:=h
 exact⟨vn,vs,us,rfl,own_other hn (hne _ _ _ _ (Or.inl rfl) hn) x,own_other hs (hne _ _ _ _ (Or.inr rfl) hs) x,⟨k1.1,fun i u hu=>⟨own_other (k1.2 i u hu).1 (hne _ _ _ _ (Or.inl rfl) (k1.2 i u hu).1) x,(k1.2 i u hu).2⟩⟩,⟨k2.1,fun i u hu=>⟨own_other (k1.2 i u hu).1 (hne _ _ _ _ (Or.inl rfl) (k1.2 i u hu).1) x,(k2.2 i u hu).2⟩⟩,k3⟩

/-- A store into a block of another type turns nothing of a volume. -/
theorem VolNew.type {w : World} {B b : Nat} {v : Value} {V : VolM} {t : TypeId} {cs : List Value} (h : VolNew w B v V) (hb : Box w b t cs) (h1 : 9 ≠ t) (h2 : 42 ≠ t) (i : Nat) (x : Value) : VolNew (w.setCell ⟨b,i,none⟩ x) B v V :=
 h.apart (fun e y m xs he hy=>own_type hy hb (by rcases he with rfl | rfl; exact h1; exact h2)) i x

end Go.Proofs.YtmdgkjbiicaljahGreatDoor

/- 'copy' into a row of the call's own that it fills, elements of more than one cell. -/
namespace Go.Proofs.YtmdgkjbiicaljahGreatDoor
open Go.RowKit

theorem run_copy_full {P : Program} (w : World) (dT sT ty elem : TypeId) (size : Nat) (hu : P.underlying dT = some (.slice elem)) (hsz : (P.info? elem).map (·.size) = some size) (hpos : 0 < size)
  (g n dCap:Nat) (y:Value) (cur cs:List Value) (t:TypeId) (hg:w.heap[g]? = some (.cells cur.toArray t (0,0))) (hfit:cur.length=n * size) (hrow:RowAt w y n size cs) (h1 : ∀ v ∈ cs,v.oneCell' = true) :
  (Builtin.copy_ #[dT,sT] ty #[.slice (some ⟨g,0,none⟩) n dCap,y]).run P w = .ok (goInt n) (w.setRow g cs.toArray):=by
 obtain⟨a,c,rfl,hl,hc⟩:=hrow
 cases hq:P.info? elem with
 | none=>simp[hq] at hsz
 | some i =>
  have hi:i.size=size:=by simpa [hq] using hsz
  have hst:=run_storeCells_at P g 0 t cs 0 cur.toArray w hg (by simp; omega) h1
  have hcut:(cur.toArray.toList.take (0+0) ++ cs ++ cur.toArray.toList.drop (0+0+cs.length))=cs:=by
   simp[List.drop_of_length_le (show cur.length≤cs.length by omega)]
  rw[hcut] at hst
  cases a with
  | some ad =>
   have hld:=run_loadCells_list (P:=P) w ad cs (fun j u hj=>by
    obtain⟨ad',e1,e2⟩:=hc j u hj
    cases e1
    exact e2)
   rw[hl] at hld
   simp[Builtin.copy_,run_underlying hu,Builtin.lenOf,Builtin.firstCells,sizeOf,typeInfo,hq,hi,hld,hst]
  | none =>
   have hm:cs = []:=by
    cases cs with
    | nil=>rfl
    | cons u r=>obtain⟨ad',e1,_⟩:=hc 0 u rfl; cases e1
   subst hm
   simp[Builtin.copy_,run_underlying hu,Builtin.lenOf,Builtin.firstCells,sizeOf,typeInfo,hq,hi,hst]

theorem wpList_copy_full {P : Program} {w : World} {ops : Array Oper} {rest : List Oper} {o : Oper} {a : Act} {Q : Exit → Act → World → Prop} (hgd : o.guard = none) (d s : Operand) (dT sT : TypeId)
  (ho:o.op = .call { callee := .builtin .copy,args := #[d,s],argTypes := #[dT,sT] }) (elem:TypeId) (size:Nat) (hu:P.underlying dT=some (.slice elem)) (hsz:(P.info? elem).map (·.size)=some size) (hpos:0 < size)
  (g n dCap:Nat) (y:Value) (hd:a.eval d = .slice (some ⟨g,0,none⟩) n dCap) (hs:a.eval s=y) (cur cs:List Value) (t:TypeId) (hg:w.heap[g]? = some (.cells cur.toArray t (0,0))) (hfit:cur.length=n * size)
  (hrow:RowAt w y n size cs) (h1 : ∀ v ∈ cs,v.oneCell' = true) (B:Nat) (w0:World) (hb:Below B w0 w) (hBg:B≤g)
  (h : ∀ w',Hid (w'.heap[g]? = some (.cells cs.toArray t (0,0)))→Below B w0 w' → wpList P ops Q rest (a.put o.dst (goInt n)) w'):wpList P ops Q (o :: rest) a w:=by
 refine wpList_plain hgd fun K hK => ?_
 have hrun:=run_copy_full (P:=P) w dT sT o.type elem size hu hsz hpos g n dCap y cur cs t hg hfit hrow h1
 unfold Oper.wp
 simp[execOp,ho,resolve,invoke,builtin,hd,hs,hrun,Result.andThen]
 exact hK _ _ (h _ (setRow_heap w g _ _ t _ hg) (below_setRow hb hBg _))

end Go.Proofs.YtmdgkjbiicaljahGreatDoor

/- What the program says of the type api.Last. -/
namespace Go.Proofs.YtmdgkjbiicaljahGreatDoor
open Go.RowKit

theorem infoLast : Tryz.prog.info? 76 = some Tryz.t76 := by kernel_rfl
theorem zeroLastV : Tryz.t76.zero = some (.agg #[.int .i64 0, .int .i64 0, .int .i64 0, .string ⟨#[]⟩]) := by kernel_rfl
theorem sizeLast : Tryz.t76.size = 4 := by kernel_rfl
theorem bytesLast : Tryz.t76.bytes = 40 := by kernel_rfl

end Go.Proofs.YtmdgkjbiicaljahGreatDoor

/- The program's own copies of a state's lasts and of a state; what a client was told. -/
namespace Go.Proofs.YtmdgkjbiicaljahGreatDoor
open Go.RowKit
attribute [local go_sem] app_list ext_list get_list byteAt_zero

set_option maxHeartbeats 1000000 in
theorem copyLasts_any (x : List LastM) (v : Value) (w : World) (hx : LastsAt w v x) :
  Calls Tryz.prog 51 #[v] w fun e w' => ∃ v',e = .returned v' ∧ w'.ownsRow w.heap.size 76 4 v' x.length (lastsCells x)∧Below w.heap.size w w' := by
 have hx0:Hid (LastsAt w v x):=hx
 obtain⟨a,c,rfl,hlx,hcx⟩:=hx
 go_enter Tryz.func51,Tryz.ntmps51
 go_wp2_with (at_make; refine wpList_make_full _ rfl _ _ 70 rfl w.heap.size 76 Tryz.t76 _ 4 Tryz.underlying70 infoLast zeroLastV sizeLast .i64 .i64 x.length x.length x.length rfl rfl rfl rfl (by rw[bytesLast]; omega) (by unfold maxLen; omega) (Nat.le_refl _) ?_)
 intro w1 hown hg
 obtain⟨g,cap,cur,hv,hb,hgc,_,hm,hcur,hcc⟩:=hown.2.resolve_left (by rintro⟨h,_⟩; cases h)
 cases hv
 have hb1:Below w.heap.size w w1:=(Below.refl _ _).grown hg (Nat.le_refl _) (fun _ h=>by cases h)
 have Hr1:Hid (RowAt w1 (.slice a x.length c) x.length 4 (lastsCells x)):=(hx0.out.below hb1).row
 have HG:Hid (w1.heap[w.heap.size]? = some (.cells cur.toList.toArray 76 (0,0))):=by unfold Hid; simpa using hgc
 have HL:Hid (cur.toList.length=x.length * 4):=by unfold Hid; simpa using hcur
 have HM:Hid (x.length≤maxLen):=hm
 clear hx0 hgc hm hcur hcc hown hg hcx
 go_wp2_with (refine show wpList _ _ _ ({ dst:=_,op := .call { callee := .builtin .copy,args:=_,argTypes:=_ },type:=_,pos:=_,after:=_,guard:=_ } :: _) _ _ from ?_; refine wpList_copy_full rfl _ _ 70 70 rfl 76 4 Tryz.underlying70 (by kernel_rfl) (by decide) w.heap.size x.length _ _ rfl rfl cur.toList (lastsCells x) 76 HG.out HL.out Hr1.out (lastsCells_one _) w.heap.size w hb1 (Nat.le_refl _) ?_)
 intro w2 HW2 hb2
 have HO:Hid (World.ownsRow w2 w.heap.size 76 4 (.slice (some ⟨w.heap.size,0,none⟩) x.length x.length) x.length (lastsCells x)):=by
  refine⟨by rw[lastsCells_len],Or.inr ⟨_,_,_,rfl,Nat.le_refl _,HW2.out,Nat.le_refl _,HM.out, ?_, ?_⟩⟩
  ·simp[lastsCells_len]
  ·simp[List.take_of_length_le,lastsCells_len]
 clear HW2 HG Hr1
 go_wp2_with fail
 go_ret
 exact⟨_,rfl,HO.out,hb2⟩

theorem toldIn_any (vn vs vl : Value) (w : World) (hn : vn.oneCell' = true) (hs : vs.oneCell' = true) (hl : vl.oneCell' = true) :
  Calls Tryz.prog 48 #[.agg #[vn,vs,vl]] w fun e w' => ∃ v',e = .returned v' ∧ (v' = .func (.func 75) #[] #[.pointer (some ⟨w.heap.size,0,none⟩)]∧w' = w.alloc (.cells #[vn,vs,vl] 72)):=by
 have hmf : ∀ (fn:Fn) (first cap:Array Value) (w:World),(Instr.makeFunc fn first cap).run Tryz.prog w = .ok (.func fn first cap) w:=fun _ _ _ _=>rfl
 go_enter Tryz.func48,Tryz.ntmps48
 go_wp2_with fail
 go_ret
 exact⟨_,rfl,rfl,rfl⟩

set_option maxHeartbeats 1000000 in
theorem told_any (l : List LastM) (i : Nat) (vn vs vl : Value) (b : Nat) (w : World) (hbx : Box w b 72 [vn,vs,vl]) (h : LastsAt w vl l) (hi : i < l.length) :
  Calls Tryz.prog 75 #[.int .i64 ((i:Int)+1), .pointer (some ⟨b,0,none⟩)] w fun e w' => e = .returned (.agg #[.int .i64 (l.getD i zeroLast).num, .int .i64 (l.getD i zeroLast).rep.code, .int .i64 (l.getD i zeroLast).rep.n, .string ⟨(l.getD i zeroLast).rep.data.toArray⟩])∧Below w.heap.size w w' := by
 obtain⟨a,c,rfl,hlx,hcx⟩:=h
 obtain⟨b',o',rfl,p0,p1,p2,p3,_⟩:=hcx i hi
 have lb:=lt_of_cell p0
 have x2:=hbx.cell 2 _ rfl
 have lx:=hbx.lt
 have k0:(0:Int)≤(i:Int):=by omega
 have k1:(i:Int) < (l.length:Int):=by omega
 have ne1 : ¬ b=w.heap.size:=by omega
 have ne2 : ¬ b' = w.heap.size:=by omega
 clear hcx hbx
 generalize l.getD i zeroLast=y at *
 go_enter Tryz.func75,Tryz.ntmps75
 go_wp2_with fail
 exact bodyPost_ret (v := .agg #[.int .i64 y.num, .int .i64 y.rep.code, .int .i64 y.rep.n, .string ⟨y.rep.data.toArray⟩]) (by simp[results,Tryz.results75,go_sem]) rfl ⟨rfl,below_alloc _ _⟩

end Go.Proofs.YtmdgkjbiicaljahGreatDoor
