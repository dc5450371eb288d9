/- The program's own replica.knowingNothing. -/
import Derived.Test.YtmdgkjbiicaljahGreatDoorJointReplMem
import Derived.Test.YtmdgkjbiicaljahGreatDoorRegRow
import Derived.Deep.RegionHeld3
import Derived.BigRegion
import Derived.Deep.DeepCutAuto
import Derived.Laws.CopyOwn
import Derived.Laws.EntriesVeiled
set_option linter.unusedVariables false
set_option linter.unusedSimpArgs false
namespace Go.Proofs.YtmdgkjbiicaljahGreatDoor
open Go.RowKit

theorem mkInts (w : World) : (Instr.makeSlice 45 (.int .i64 3) (.int .i64 3)).run Tryz.prog w = .ok (.slice (some ⟨w.heap.size,0,none⟩) 3 3) (w.alloc (.cells #[.int .i64 0, .int .i64 0, .int .i64 0] 3)) := by kernel_rfl
theorem mkBools (w : World) : (Instr.makeSlice 46 (.int .i64 3) (.int .i64 3)).run Tryz.prog w = .ok (.slice (some ⟨w.heap.size,0,none⟩) 3 3) (w.alloc (.cells #[.bool false, .bool false, .bool false] 4)) := by kernel_rfl
theorem mkKepts (w : World) : (Instr.makeSlice 47 (.int .i64 3) (.int .i64 3)).run Tryz.prog w = .ok (.slice (some ⟨w.heap.size,0,none⟩) 3 3) (w.alloc (.cells #[.int .i64 0, .int .i64 0, .bool false, .slice none 0 0, .int .i64 0, .int .i64 0, .int .i64 0, .bool false, .slice none 0 0, .int .i64 0, .int .i64 0, .int .i64 0, .bool false, .slice none 0 0, .int .i64 0] 44)) := by kernel_rfl

def zI : List Value := [.int .i64 0, .int .i64 0, .int .i64 0]
def zB : List Value := [.bool false, .bool false, .bool false]
def zK : List Value := [.int .i64 0, .int .i64 0, .bool false, .slice none 0 0, .int .i64 0, .int .i64 0, .int .i64 0, .bool false, .slice none 0 0, .int .i64 0, .int .i64 0, .int .i64 0, .bool false, .slice none 0 0, .int .i64 0]
def row3 (b : Nat) : Value := .slice (some ⟨b,0,none⟩) 3 3
def RowB (B : Nat) (t : TypeId) (cs : List Value) (v : Value) (W : World) : Prop := ∃ b,v = row3 b ∧ B ≤ b ∧ Box W b t cs
/-- The four rows of a replica that knows nothing. -/
def Four (B : Nat) (W : World) (bh bw bg bn : Nat) : Prop := bw ≠ bn ∧ B ≤ bh ∧ B ≤ bw ∧ B ≤ bg ∧ B ≤ bn ∧ Box W bh 3 zI ∧ Box W bw 4 zB ∧ Box W bg 44 zK ∧ Box W bn 4 zB
theorem Four.below {B : Nat} {W W' : World} {bh bw bg bn : Nat} (h : Four B W bh bw bg bn) (hb : Below W.heap.size W W') : Four B W' bh bw bg bn :=
 ⟨h.1,h.2.1,h.2.2.1,h.2.2.2.1,h.2.2.2.2.1,h.2.2.2.2.2.1.below hb h.2.2.2.2.2.1.lt,h.2.2.2.2.2.2.1.below hb h.2.2.2.2.2.2.1.lt,h.2.2.2.2.2.2.2.1.below hb h.2.2.2.2.2.2.2.1.lt,h.2.2.2.2.2.2.2.2.below hb h.2.2.2.2.2.2.2.2.lt⟩
theorem Four.other {B : Nat} {W : World} {bh bw bg bn : Nat} (h : Four B W bh bw bg bn) {a : Addr} (ha : a.block < B) (v : Value) : Four B (W.setCell a v) bh bw bg bn := by
 obtain⟨h0,h1,h2,h3,h4,h5,h6,h7,h8⟩:=h
 exact⟨h0,h1,h2,h3,h4,h5.other v (by omega),h6.other v (by omega),h7.other v (by omega),h8.other v (by omega)⟩
theorem RowB.below {B : Nat} {t : TypeId} {cs : List Value} {v : Value} {W W' : World} (h : RowB B t cs v W) (hb : Below W.heap.size W W') : RowB B t cs v W' := by
 obtain⟨b,h1,h2,h3⟩:=h
 exact⟨b,h1,h2,h3.below hb h3.lt⟩
theorem RowB.other {B : Nat} {t : TypeId} {cs : List Value} {v : Value} {W : World} (h : RowB B t cs v W) {a : Addr} (ha : a.block < B) (u : Value) : RowB B t cs v (W.setCell a u) := by
 obtain⟨b,h1,h2,h3⟩:=h
 exact⟨b,h1,h2,h3.other u (by omega)⟩
def knowPr (kv : Value) (me : Int) (cs4 : List Value) (B br : Nat) : Nat → Value → World → Prop
 | 0,v,_=>v = .int .i64 me
 | 1,v,_=>v=kv
 | 2,v,W=>RowB B 3 zI v W
 | 3,v,W=>RowB B 4 zB v W
 | 4,v,W=>RowB B 44 zK v W
 | 5,v,W=>RowB B 4 zB v W
 | 6,v,W => ∃ bh bw bg bn,Four B W bh bw bg bn∧v = .agg (cs4 ++ [row3 bh,row3 bw,row3 bg,row3 bn]).toArray
 | 7,_,W => ∃ bh bw bg bn,Four B W bh bw bg bn∧Box W br 49 (cs4 ++ [row3 bh,row3 bw,row3 bg,row3 bn])
 | _,_,_=>True
theorem knowPr_below {kv : Value} {me : Int} {cs4 : List Value} {B br : Nat} {W W' : World} (hb : Below W.heap.size W W') : ∀ (j : Nat) (u : Value),knowPr kv me cs4 B br j u W → knowPr kv me cs4 B br j u W'
 | 0,_,h=>h
 | 1,_,h=>h
 | 2,_,h=>RowB.below h hb
 | 3,_,h=>RowB.below h hb
 | 4,_,h=>RowB.below h hb
 | 5,_,h=>RowB.below h hb
 | 6,_,h=>by obtain⟨bh,bw,bg,bn,hf,hv⟩:=h; exact⟨bh,bw,bg,bn,hf.below hb,hv⟩
 | 7,_,h=>by obtain⟨bh,bw,bg,bn,hf,hv⟩:=h; exact⟨bh,bw,bg,bn,hf.below hb,hv.below hb hv.lt⟩
 | _+8,_,_=>trivial
theorem knowPr_set {kv : Value} {me : Int} {cs4 : List Value} {B br : Nat} {W : World} {a : Addr} (ha : a.block < B) {i : Nat} (hi : i = 7) (x : Value) : ∀ (j : Nat) (u : Value),j ≠ i → knowPr kv me cs4 B br j u W → knowPr kv me cs4 B br j u (W.setCell a x)
 | 0,_,_,h=>h
 | 1,_,_,h=>h
 | 2,_,_,h=>RowB.other h ha x
 | 3,_,_,h=>RowB.other h ha x
 | 4,_,_,h=>RowB.other h ha x
 | 5,_,_,h=>RowB.other h ha x
 | 6,_,_,h=>by obtain⟨bh,bw,bg,bn,hf,hv⟩:=h; exact⟨bh,bw,bg,bn,hf.other ha x,hv⟩
 | 7,_,hj,_=>absurd hi.symm hj
 | _+8,_,_,_=>trivial
theorem Four.base {B B' : Nat} {W : World} {bh bw bg bn : Nat} (h : Four B W bh bw bg bn) (hb : B' ≤ B) : Four B' W bh bw bg bn := by
 obtain⟨h0,h1,h2,h3,h4,h5⟩:=h
 exact⟨h0,by omega,by omega,by omega,by omega,h5⟩
theorem knowPr_lt {kv : Value} {me : Int} {cs4 : List Value} {B br : Nat} {W : World} (hk : kv.ownBlock = none) : ∀ (j : Nat) (u : Value),j < 6 → knowPr kv me cs4 B br j u W → ∀ k,u.ownBlock = some k → k < W.heap.size
 | 0,_,_,h,k,hk' => by cases h; cases hk'
 | 1,_,_,h,k,hk' => by cases h; rw[hk] at hk'; cases hk'
 | 2,_,_,h,k,hk' => by obtain⟨b,rfl,_,hB⟩:=h; cases hk'; exact hB.lt
 | 3,_,_,h,k,hk' => by obtain⟨b,rfl,_,hB⟩:=h; cases hk'; exact hB.lt
 | 4,_,_,h,k,hk' => by obtain⟨b,rfl,_,hB⟩:=h; cases hk'; exact hB.lt
 | 5,_,_,h,k,hk' => by obtain⟨b,rfl,_,hB⟩:=h; cases hk'; exact hB.lt

set_option maxRecDepth 4000 in
set_option maxHeartbeats 4000000 in
theorem knowing_any (me : Int) (K : KeptM) (av : Option Addr) (n cv : Nat) (w : World) :
  Calls Tryz.prog 85 #[.int .i64 me, .agg #[.int .i64 K.view, .int .i64 K.normal, .bool K.calm, .slice av n cv, .int .i64 K.commit]] w fun e w' => ∃ bh bw bg bn,e = .returned (.agg #[.int .i64 me, .int .i64 K.view, .int .i64 K.normal, .bool K.calm, .slice av n cv, .int .i64 K.commit,row3 bh,row3 bw,row3 bg,row3 bn])∧Four w.heap.size w' bh bw bg bn∧Below w.heap.size w w' := by
 obtain⟨vi,nm,cm,l,ct⟩:=K
 simp only
 obtain⟨b0,b1,hb⟩:=boxes2 w 44 49 [.int .i64 vi, .int .i64 nm, .bool cm, .slice av n cv, .int .i64 ct] [.int .i64 0, .int .i64 0, .int .i64 0, .bool false, .slice none 0 0, .int .i64 0, .slice none 0 0, .slice none 0 0, .slice none 0 0, .slice none 0 0]
 obtain⟨w0,hw0⟩ : ∃ w0,w0=(w.alloc (.cells #[.int .i64 vi, .int .i64 nm, .bool cm, .slice av n cv, .int .i64 ct] 44)).alloc (.cells #[.int .i64 0, .int .i64 0, .int .i64 0, .bool false, .slice none 0 0, .int .i64 0, .slice none 0 0, .slice none 0 0, .slice none 0 0, .slice none 0 0] 49):=⟨_,rfl⟩
 have hsz:w0.heap.size=w.heap.size+1+1:=by rw[hw0]; simp
 go_enter Tryz.func85,Tryz.ntmps85
 go_upto_region 1 with fail
 rw[← hw0] at b0 b1 hb ⊢
 clear hw0
 refine wp_region_rows (by kernel_rfl) (by kernel_rfl) (by kernel_rfl) (by kernel_rfl) (by kernel_rfl)
  (fun W=>Below w.heap.size w W∧w.heap.size+2≤W.heap.size∧Box W w.heap.size 44 [.int .i64 vi, .int .i64 nm, .bool cm, .slice av n cv, .int .i64 ct] ∧ ∃ c0 c1 c2 c3 c4 c5 c6 c7 c8 c9,Box W (w.heap.size+1) 49 [c0,c1,c2,c3,c4,c5,c6,c7,c8,c9])
  (knowPr (.agg #[.int .i64 vi, .int .i64 nm, .bool cm, .slice av n cv, .int .i64 ct]) me [.int .i64 me, .int .i64 vi, .int .i64 nm, .bool cm, .slice av n cv, .int .i64 ct] (w.heap.size+2) (w.heap.size+1))
  (fun i j u v=>i < 6→j < 6→Asunder u v) ⟨hb.drew,by show _≤w0.heap.size; omega,b0,_,_,_,_,_,_,_,_,_,_,b1⟩ ?_ ?_
 ·intro i hi a W vs hG hout hdep hdA
  obtain⟨hB,hS,hb0,c0,c1,c2,c3,c4,c5,c6,c7,c8,c9,hb1⟩:=hG
  match i,hi with
  | 0,_ =>
   have e0:a.tmps.getD 0 undef = .int .i64 me:=hout 0 (by kernel_rfl)
   refine op_value (v := .int .i64 me) (w' := W) ?_ ⟨_,rfl,⟨hB,hS,hb0,_,_,_,_,_,_,_,_,_,_,hb1⟩,rfl,fun j u _ h=>⟨h,fun _ _ k h1 h2=>by cases h2⟩⟩
   show (execOp a.eval { dst:=_,op := .move (.tmp 0),type:=_,pos:=_,after:=_,guard:=_ }).run Tryz.prog W=_
   simp[execOp,Act.eval,e0,go_sem]
  | 1,_ =>
   have e0:a.tmps.getD 3 undef = .pointer (some ⟨w.heap.size,0,none⟩):=hout 3 (by kernel_rfl)
   obtain⟨x0,x1,x2,x3,x4⟩:=hb0.c5
   refine op_value (v := .agg #[.int .i64 vi, .int .i64 nm, .bool cm, .slice av n cv, .int .i64 ct]) (w' := W) ?_ ⟨_,rfl,⟨hB,hS,hb0,_,_,_,_,_,_,_,_,_,_,hb1⟩,rfl,fun j u _ h=>⟨h,fun _ _ k h1 h2=>by cases h2⟩⟩
   show (execOp a.eval { dst:=_,op := .load 44 (.tmp 3),type:=_,pos:=_,after:=_,guard:=_ }).run Tryz.prog W=_
   clear hout hdep hdA
   simp[execOp,Act.eval,e0,go_sem,x0,x1,x2,x3,x4]
  | 2,_ =>
   refine op_value (v:=row3 W.heap.size) (w' := W.alloc (.cells zI.toArray 3)) ?_ ⟨_,rfl,⟨hB.alloc hB.size _,by simp; omega,hb0.alloc _,_,_,_,_,_,_,_,_,_,_,hb1.alloc _⟩,⟨_,rfl,hS,Box.new W _ _⟩,fun j u _ h=>⟨knowPr_below (below_alloc W _) j u h,fun hj _ k h1 h2 => ?_⟩⟩
   ·show (execOp a.eval { dst:=_,op := .makeSlice _ (.const (.int .i64 3)) (.const (.int .i64 3)),type:=_,pos:=_,after:=_,guard:=_ }).run Tryz.prog W=_
    simp only[execOp,Act.eval,Sem.run_bind]
    rw[mkInts W]
    rfl
   ·have:=knowPr_lt rfl j u hj h k h1
    have h3:some W.heap.size=some k:=h2
    injection h3 with h3
    omega
  | 3,_ =>
   refine op_value (v:=row3 W.heap.size) (w' := W.alloc (.cells zB.toArray 4)) ?_ ⟨_,rfl,⟨hB.alloc hB.size _,by simp; omega,hb0.alloc _,_,_,_,_,_,_,_,_,_,_,hb1.alloc _⟩,⟨_,rfl,hS,Box.new W _ _⟩,fun j u _ h=>⟨knowPr_below (below_alloc W _) j u h,fun hj _ k h1 h2 => ?_⟩⟩
   ·show (execOp a.eval { dst:=_,op := .makeSlice _ (.const (.int .i64 3)) (.const (.int .i64 3)),type:=_,pos:=_,after:=_,guard:=_ }).run Tryz.prog W=_
    simp only[execOp,Act.eval,Sem.run_bind]
    rw[mkBools W]
    rfl
   ·have:=knowPr_lt rfl j u hj h k h1
    have h3:some W.heap.size=some k:=h2
    injection h3 with h3
    omega
  | 4,_ =>
   refine op_value (v:=row3 W.heap.size) (w' := W.alloc (.cells zK.toArray 44)) ?_ ⟨_,rfl,⟨hB.alloc hB.size _,by simp; omega,hb0.alloc _,_,_,_,_,_,_,_,_,_,_,hb1.alloc _⟩,⟨_,rfl,hS,Box.new W _ _⟩,fun j u _ h=>⟨knowPr_below (below_alloc W _) j u h,fun hj _ k h1 h2 => ?_⟩⟩
   ·show (execOp a.eval { dst:=_,op := .makeSlice _ (.const (.int .i64 3)) (.const (.int .i64 3)),type:=_,pos:=_,after:=_,guard:=_ }).run Tryz.prog W=_
    simp only[execOp,Act.eval,Sem.run_bind]
    rw[mkKepts W]
    rfl
   ·have:=knowPr_lt rfl j u hj h k h1
    have h3:some W.heap.size=some k:=h2
    injection h3 with h3
    omega
  | 5,_ =>
   refine op_value (v:=row3 W.heap.size) (w' := W.alloc (.cells zB.toArray 4)) ?_ ⟨_,rfl,⟨hB.alloc hB.size _,by simp; omega,hb0.alloc _,_,_,_,_,_,_,_,_,_,_,hb1.alloc _⟩,⟨_,rfl,hS,Box.new W _ _⟩,fun j u _ h=>⟨knowPr_below (below_alloc W _) j u h,fun hj _ k h1 h2 => ?_⟩⟩
   ·show (execOp a.eval { dst:=_,op := .makeSlice _ (.const (.int .i64 3)) (.const (.int .i64 3)),type:=_,pos:=_,after:=_,guard:=_ }).run Tryz.prog W=_
    simp only[execOp,Act.eval,Sem.run_bind]
    rw[mkBools W]
    rfl
   ·have:=knowPr_lt rfl j u hj h k h1
    have h3:some W.heap.size=some k:=h2
    injection h3 with h3
    omega
  | 6,_ =>
   obtain⟨p0,e0⟩:=hdep 0 (by kernel_rfl)
   obtain⟨p1,e1⟩:=hdep 1 (by kernel_rfl)
   obtain⟨⟨bh,p2,q2,r2⟩,e2⟩:=hdep 2 (by kernel_rfl)
   obtain⟨⟨bw,p3,q3,r3⟩,e3⟩:=hdep 3 (by kernel_rfl)
   obtain⟨⟨bg,p4,q4,r4⟩,e4⟩:=hdep 4 (by kernel_rfl)
   obtain⟨⟨bn,p5,q5,r5⟩,e5⟩:=hdep 5 (by kernel_rfl)
   have p0:vs 0 = .int .i64 me:=p0
   have p1:vs 1 = .agg #[.int .i64 vi, .int .i64 nm, .bool cm, .slice av n cv, .int .i64 ct]:=p1
   have f0:=e0 5 (by kernel_rfl)
   have f1:=e1 6 (by kernel_rfl)
   have f2:=e2 7 (by kernel_rfl)
   have f3:=e3 8 (by kernel_rfl)
   have f4:=e4 9 (by kernel_rfl)
   have f5:=e5 10 (by kernel_rfl)
   have hne:bw≠bn:=fun e=>by
    subst e
    rcases hdA 3 5 (by decide) (by kernel_rfl) (by kernel_rfl) with h | h
    ·exact h (by decide) (by decide) bw (by rw[p3]; rfl) (by rw[p5]; rfl)
    ·exact h (by decide) (by decide) bw (by rw[p5]; rfl) (by rw[p3]; rfl)
   rw[p0] at f0
   rw[p1] at f1
   rw[p2] at f2
   rw[p3] at f3
   rw[p4] at f4
   rw[p5] at f5
   refine op_value (v := .agg #[.int .i64 me, .int .i64 vi, .int .i64 nm, .bool cm, .slice av n cv, .int .i64 ct,row3 bh,row3 bw,row3 bg,row3 bn]) (w' := W) ?_ ⟨_,rfl,⟨hB,hS,hb0,_,_,_,_,_,_,_,_,_,_,hb1⟩,⟨bh,bw,bg,bn,⟨hne,q2,q3,q4,q5,r2,r3,r4,r5⟩,rfl⟩,fun j u _ h=>⟨h,fun _ h6=>absurd h6 (by decide)⟩⟩
   show (execOp a.eval { dst:=_,op := .build 49 #[(0, .tmp 5),(1, .tmp 6),(2, .tmp 7),(3, .tmp 8),(4, .tmp 9),(5, .tmp 10)],type:=_,pos:=_,after:=_,guard:=_ }).run Tryz.prog W=_
   clear hout hdep hdA
   simp only[Array.getD_eq_getD_getElem?] at f0 f1 f2 f3 f4 f5
   simp[execOp,Act.eval,f0,f1,f2,f3,f4,f5,go_sem,row3]
  | 7,_ =>
   obtain⟨⟨bh,bw,bg,bn,hF,p6⟩,e6⟩:=hdep 6 (by kernel_rfl)
   have g6:=e6 11 (by kernel_rfl)
   rw[p6] at g6
   have e0:a.tmps.getD 4 undef = .pointer (some ⟨w.heap.size+1,0,none⟩):=hout 4 (by kernel_rfl)
   obtain⟨y0,y1,y2,y3,y4,y5,y6,y7,y8,y9⟩:=hb1.c10
   obtain⟨f0,f1,f2,f3,f4,f5,f6,f7,f8,f9⟩:=hb1.z10
   refine op_skip (w' := (((((((((W.setCell ⟨w.heap.size+1,0,none⟩ (.int .i64 me)).setCell ⟨w.heap.size+1,1,none⟩ (.int .i64 vi)).setCell ⟨w.heap.size+1,2,none⟩ (.int .i64 nm)).setCell ⟨w.heap.size+1,3,none⟩ (.bool cm)).setCell ⟨w.heap.size+1,4,none⟩ (.slice av n cv)).setCell ⟨w.heap.size+1,5,none⟩ (.int .i64 ct)).setCell ⟨w.heap.size+1,6,none⟩ (row3 bh)).setCell ⟨w.heap.size+1,7,none⟩ (row3 bw)).setCell ⟨w.heap.size+1,8,none⟩ (row3 bg)).setCell ⟨w.heap.size+1,9,none⟩ (row3 bn)) ?_ ?_
   ·show (execOp a.eval { dst:=_,op := .store 49 (.tmp 4) (.tmp 11),type:=_,pos:=_,after:=_,guard:=_ }).run Tryz.prog W=_
    clear hout hdep hdA
    simp only[Array.getD_eq_getD_getElem?] at e0 g6
    simp[execOp,Act.eval,e0,g6,go_sem,row3, *]
   ·have R:=((((((((((hb1.set 0 (.int .i64 me)).set 1 (.int .i64 vi)).set 2 (.int .i64 nm)).set 3 (.bool cm)).set 4 (.slice av n cv)).set 5 (.int .i64 ct)).set 6 (row3 bh)).set 7 (row3 bw)).set 8 (row3 bg)).set 9 (row3 bn))
    refine⟨_,rfl,⟨?_, ?_, ?_,_,_,_,_,_,_,_,_,_,_,R⟩,⟨bh,bw,bg,bn, ?_,R⟩,fun j u hj h=>⟨?_,fun _ h6=>absurd h6 (by decide)⟩⟩
    ·exact (((((((((hB.setCell (by simp) _).setCell (by simp) _).setCell (by simp) _).setCell (by simp) _).setCell (by simp) _).setCell (by simp) _).setCell (by simp) _).setCell (by simp) _).setCell (by simp) _).setCell (by simp) _
    ·simpa using hS
    ·exact (((((((((hb0.other _ (by simp)).other _ (by simp)).other _ (by simp)).other _ (by simp)).other _ (by simp)).other _ (by simp)).other _ (by simp)).other _ (by simp)).other _ (by simp)).other _ (by simp)
    ·exact (((((((((hF.other (by simp) _).other (by simp) _).other (by simp) _).other (by simp) _).other (by simp) _).other (by simp) _).other (by simp) _).other (by simp) _).other (by simp) _).other (by simp) _
    ·refine knowPr_set (by simp) (by decide) _ j u hj (knowPr_set (by simp) (by decide) _ j u hj (knowPr_set (by simp) (by decide) _ j u hj (knowPr_set (by simp) (by decide) _ j u hj (knowPr_set (by simp) (by decide) _ j u hj (knowPr_set (by simp) (by decide) _ j u hj (knowPr_set (by simp) (by decide) _ j u hj (knowPr_set (by simp) (by decide) _ j u hj (knowPr_set (by simp) (by decide) _ j u hj (knowPr_set (by simp) (by decide) _ j u hj h)))))))))
 ·intro vs W hG hP hA
  obtain⟨hB,hS,hb0,_⟩:=hG
  obtain⟨bh,bw,bg,bn,hF,hR⟩:=hP 7 (by decide)
  obtain⟨y0,y1,y2,y3,y4,y5,y6,y7,y8,y9⟩:=hR.c10
  have HF:Hid (Four w.heap.size W bh bw bg bn):=hF.base (by omega)
  have HB:Hid (Below w.heap.size w W):=hB
  clear hP hA hF hR hB hS hb0 hb b0 b1 hsz
  simp only[fillGo,Act.put]
  go_wp2_with fail
  exact bodyPost_ret (v := .agg #[.int .i64 me, .int .i64 vi, .int .i64 nm, .bool cm, .slice av n cv, .int .i64 ct,row3 bh,row3 bw,row3 bg,row3 bn]) (by clear HB HF; simp[results,Tryz.results85,go_sem,row3, *]) rfl ⟨_,_,_,_,rfl,HF.out,HB.out⟩

end Go.Proofs.YtmdgkjbiicaljahGreatDoor

/- What a call through a pointer leaves as it was: all blocks below B but one. -/
namespace Go.Proofs.YtmdgkjbiicaljahGreatDoor
open Go.RowKit

/-- Below block number B the world w' is as w was, block b aside. -/
structure Beside (B b : Nat) (w w' : World) : Prop where
 os:w'.os=w.os
 tape:w'.tape=w.tape
 output:w'.output=w.output
 size:w.heap.size≤w'.heap.size
 block : ∀ k,k < B→k≠b→w'.heap[k]? = w.heap[k]?
theorem Beside.refl (B b : Nat) (w : World) : Beside B b w w := ⟨rfl,rfl,rfl,Nat.le_refl _,fun _ _ _ => rfl⟩
theorem Beside.trans {B b : Nat} {u v w : World} (h : Beside B b u v) (k : Beside B b v w) : Beside B b u w :=
 ⟨k.os.trans h.os,k.tape.trans h.tape,k.output.trans h.output,Nat.le_trans h.size k.size,fun i hi hb=>(k.block i hi hb).trans (h.block i hi hb)⟩
theorem Beside.mono {B B' b : Nat} {w w' : World} (h : Beside B b w w') (hB : B' ≤ B) : Beside B' b w w' := ⟨h.os,h.tape,h.output,h.size,fun k hk => h.block k (Nat.lt_of_lt_of_le hk hB)⟩
theorem Beside.of {B b : Nat} {w w' : World} (h : Below B w w') : Beside B b w w' := ⟨h.os,h.tape,h.output,h.size,fun k hk _ => h.block k hk⟩
theorem Beside.far {B b : Nat} {u v w : World} (h : Beside B b u v) (hB : B ≤ u.heap.size) (k : Below v.heap.size v w) : Beside B b u w :=
 h.trans (Beside.of (k.mono (Nat.le_trans hB h.size)))
theorem Beside.alloc {B b : Nat} {u w : World} (h : Beside B b u w) (hB : B ≤ u.heap.size) (o : Obj) : Beside B b u (w.alloc o) := h.far hB (below_alloc w o)
theorem Beside.setCell {B b : Nat} {u w : World} (h : Beside B b u w) {a : Addr} (ha : a.block = b ∨ B ≤ a.block) (x : Value) : Beside B b u (w.setCell a x) :=
 h.trans ⟨rfl,rfl,rfl,by simp[World.setCell],fun k hk hb=>Below.heap_setCell _ _ _ _ (by omega)⟩
/-- The block itself lies above. -/
theorem Beside.below {B B' b : Nat} {w w' : World} (h : Beside B b w w') (h1 : B' ≤ B) (h2 : B' ≤ b) : Below B' w w' :=
 ⟨h.os,h.tape,h.output,h.size,fun k hk=>h.block k (by omega) (by omega)⟩
theorem Box.beside {B b k : Nat} {w w' : World} {t : TypeId} {cs : List Value} (h : Box w k t cs) (hb : Beside B b w w') (h1 : k < B) (h2 : k ≠ b) : Box w' k t cs := by
 have:=hb.block k h1 h2
 unfold Box at h ⊢
 rw[this]
 exact h

/-! ### A replica that knows nothing, in memory of the call's own. -/
theorem four_own {B : Nat} {W : World} {bh bw bg bn : Nat} (h : Four B W bh bw bg bn) (me : Int) (K : KeptM) (vl : Value) (hl : W.ownsRow B 9 1 vl K.log.length (K.log.map enc)) (ha : List Int) (wb na : List Bool) (ga : List KeptM) :
  ReplOwn W B (forgot ⟨me,K,ha,wb,ga,na⟩) vl (row3 bh) (row3 bw) (row3 bg) (row3 bn) [(zeroKept, .slice none 0 0),(zeroKept, .slice none 0 0),(zeroKept, .slice none 0 0)]:=by
 obtain⟨h0,h1,h2,h3,h4,h5,h6,h7,h8⟩:=h
 refine⟨rfl,hl,own_box h5 h1 3 1 rfl (by decide),own_box h6 h2 3 1 rfl (by decide),⟨own_box h7 h3 3 5 rfl (by decide),fun p hp => ?_⟩,own_box h8 h4 3 1 rfl (by decide),fun k k1 k2 => ?_,fun p hp k k1 k2 => ?_⟩
 ·have:p=(zeroKept, .slice none 0 0):=by simpa using hp
  subst this
  exact World.ownsRow_nil _ _ _ _
 ·have e1:some bw=some k:=k1
  have e2:some bn=some k:=k2
  rw[← e1] at e2
  injection e2 with e2
  exact h0 e2.symm
 ·have:p=(zeroKept, .slice none 0 0):=by simpa using hp
  subst this
  cases k2
theorem replNil (w : World) (B : Nat) : ReplNew w B (.agg #[.int .i64 0, .int .i64 0, .int .i64 0, .bool false, .slice none 0 0, .int .i64 0, .slice none 0 0, .slice none 0 0, .slice none 0 0, .slice none 0 0]) zeroRepl :=
 ⟨_,_,_,_,_,[],rfl,rfl,World.ownsRow_nil _ _ _ _,World.ownsRow_nil _ _ _ _,World.ownsRow_nil _ _ _ _,⟨World.ownsRow_nil _ _ _ _,fun p hp=>by simp at hp⟩,World.ownsRow_nil _ _ _ _,fun k h=>(by cases h),fun p hp=>by simp at hp⟩
theorem ReplNew.form {w : World} {B : Nat} {v : Value} {R : ReplM} (h : ReplNew w B v R) : ∃ al cl ah ch aw cw ag cg an cn,v = .agg #[.int .i64 R.me, .int .i64 R.kept.view, .int .i64 R.kept.normal, .bool R.kept.calm, .slice al R.kept.log.length cl, .int .i64 R.kept.commit, .slice ah R.hav.length ch, .slice aw R.wants.length cw, .slice ag R.gives.length cg, .slice an R.given.length cn] := by
 obtain⟨vl,vh,vw,vg,vn,ps,rfl,h1,h2,h3,h4,h5,h6,_⟩:=h
 obtain⟨al,cl,rfl⟩:=own_form h2
 obtain⟨ah,ch,rfl⟩:=own_form h3
 obtain⟨aw,cw,rfl⟩:=own_form h4
 obtain⟨ag,cg,rfl⟩:=own_formN h5.1
 obtain⟨an,cn,rfl⟩:=own_form h6
 have e:R.gives.length=ps.length:=by rw[h1,List.length_map]
 exact⟨al,cl,ah,ch,aw,cw,ag,cg,an,cn,by rw[e]; rfl⟩

/-! ### A struct stored whole into a block. -/
def setAll (w : World) (b : Nat) : Nat → List Value → World
 | _,[]=>w
 | i,x :: xs=>setAll (w.setCell ⟨b,i,none⟩ x) b (i+1) xs
theorem setAll_put {t : TypeId} {b : Nat} : ∀ (xs : List Value) (w : World) (cs : List Value) (i : Nat),Box w b t cs → Box (setAll w b i xs) b t (putAt cs i xs)
 | [],_,_,_,h=>h
 | x :: xs,w,cs,i,h=>setAll_put xs _ _ (i+1) (h.set i x)
theorem setAll_box {w : World} {b : Nat} {t : TypeId} {cs : List Value} (h : Box w b t cs) (xs : List Value) (hl : xs.length = cs.length) : Box (setAll w b 0 xs) b t xs := by
 have h1:=setAll_put xs w cs 0 h
 have h2:=putAt_all xs cs [] [] hl
 simp at h2
 rw[h2] at h1
 exact h1
theorem setAll_beside {B b : Nat} : ∀ (xs : List Value) (u w : World) (i : Nat),Beside B b u w → Beside B b u (setAll w b i xs)
 | [],_,_,_,h=>h
 | x :: xs,u,w,i,h=>setAll_beside xs u _ (i+1) (h.setCell (Or.inl rfl) x)
theorem setAll_size {b : Nat} : ∀ (xs : List Value) (w : World) (i : Nat),(setAll w b i xs).heap.size = w.heap.size
 | [],_,_=>rfl
 | x :: xs,w,i=>by
  have:=setAll_size (b:=b) xs (w.setCell ⟨b,i,none⟩ x) (i+1)
  simp only[setAll]
  rw[this]
  simp
theorem setAll_own {b : Nat} {base : Nat} {e : TypeId} {size : Nat} {v : Value} {n : Nat} {ys : List Value} : ∀ (xs : List Value) (w : World) (i : Nat),w.ownsRow base e size v n ys → v.ownBlock ≠ some b → (setAll w b i xs).ownsRow base e size v n ys
 | [],_,_,h,_=>h
 | x :: xs,w,i,h,hb=>setAll_own xs _ (i+1) (own_other h hb x) hb
theorem ReplOwn.setAll {w : World} {B b : Nat} {R : ReplM} {vl vh vw vg vn : Value} {ps : List (KeptM × Value)} {t : TypeId} {cs : List Value} (h : ReplOwn w B R vl vh vw vg vn ps) (hb : Box w b t cs)
  (h1:9≠t) (h2:3≠t) (h3:4≠t) (h4:44≠t) (i:Nat) (xs:List Value):ReplOwn (setAll w b i xs) B R vl vh vw vg vn ps :=
 h.map fun e _ _ _ _ he r=>setAll_own xs w i r (own_type r hb (by rcases he with rfl | rfl | rfl | rfl <;> assumption))
theorem MsgsOwn.setAll {w : World} {B b : Nat} {v : Value} {ps : List (MsgM × Value)} {t : TypeId} {cs : List Value} (h : MsgsOwn w B v ps) (hb : Box w b t cs)
  (h1:9≠t) (h2:141≠t) (i:Nat) (xs:List Value):MsgsOwn (setAll w b i xs) B v ps :=
 h.map fun e _ _ _ _ he r=>setAll_own xs w i r (own_type r hb (by rcases he with rfl | rfl <;> assumption))

/-! ### Blocks that a struct behind a pointer does not speak of stay as they are. -/
def Off (t : TypeId) (w : World) (b k : Nat) : Prop := k ≠ b ∧ k < w.heap.size ∧ ∀ cs,Box w b t cs → ∀ c ∈ cs,c.ownBlock ≠ some k
def Leaves (t : TypeId) (b : Nat) (w w' : World) : Prop := ∀ k,Off t w b k → Off t w' b k ∧ w'.heap[k]? = w.heap[k]?
theorem Leaves.refl (t : TypeId) (b : Nat) (w : World) : Leaves t b w w := fun k h => ⟨h,rfl⟩
theorem Leaves.trans {t : TypeId} {b : Nat} {u v w : World} (h : Leaves t b u v) (h' : Leaves t b v w) : Leaves t b u w := fun k hk => by
 obtain⟨a,e⟩:=h k hk
 obtain⟨c,f⟩:=h' k a
 exact⟨c,f.trans e⟩
theorem Box.uniq {w : World} {b : Nat} {t : TypeId} {cs cs' : List Value} (h : Box w b t cs) (h' : Box w b t cs') : cs = cs' := by
 unfold Box at h h'
 rw[h] at h'
 simpa using h'
theorem Leaves.of {t : TypeId} {b : Nat} {w w' : World} {cs cs' : List Value} (hx : Box w b t cs) (hx' : Box w' b t cs') (hs : w.heap.size ≤ w'.heap.size) (hc : ∀ c ∈ cs',∀ k,c.ownBlock = some k → w.heap.size ≤ k ∨ ∃ c0 ∈ cs,c0.ownBlock = some k)
  (hb : ∀ k,k < w.heap.size→k≠b→(∀ c ∈ cs,c.ownBlock≠some k)→w'.heap[k]? = w.heap[k]?):Leaves t b w w' := by
 rintro k ⟨h1,h2,h3⟩
 have h4:=h3 cs hx
 refine⟨⟨h1,by omega,fun cs2 hx2 c hm e => ?_⟩,hb k h2 h1 h4⟩
 rw[hx2.uniq hx'] at hm
 rcases hc c hm k e with q | ⟨c0,q1,q2⟩
 ·omega
 ·exact h4 c0 q1 q2
theorem Box.leaves {t t' : TypeId} {b k : Nat} {w w' : World} {cs : List Value} (h : Box w k t' cs) (hl : Leaves t b w w') (ho : Off t w b k) : Box w' k t' cs := by
 unfold Box at h ⊢
 rw[(hl k ho).2]
 exact h
/-- Nothing below was written. -/
theorem Leaves.below {t : TypeId} {b : Nat} {w w' : World} {cs : List Value} (hx : Box w b t cs) (hb : Below w.heap.size w w') : Leaves t b w w' :=
 Leaves.of hx (hx.below hb hx.lt) hb.size (fun c hc k e=>Or.inr ⟨c,hc,e⟩) fun k hk _ _=>hb.block k hk

end Go.Proofs.YtmdgkjbiicaljahGreatDoor

/- The program's own replica.copied, of numbers and of bools. -/
namespace Go.Proofs.YtmdgkjbiicaljahGreatDoor
open Go.RowKit

theorem rmade_one (z : Value) (n : Nat) : (madeCells #[z] n).toList = List.replicate n z := by
 unfold madeCells
 apply List.ext_getElem
 ·simp
 ·intro i h1 h2
  simp[Nat.mod_one]
theorem RowAt.below {w w' : World} {v : Value} {n size : Nat} {xs : List Value} (h : RowAt w v n size xs) (hb : Below w.heap.size w w') : RowAt w' v n size xs := by
 obtain⟨a,cap,hv,hl,hc⟩:=h
 refine⟨a,cap,hv,hl,fun j u hj => ?_⟩
 obtain⟨ad,ha,hcell⟩:=hc j u hj
 refine⟨ad,ha, ?_⟩
 have:(ad.add j).block < w.heap.size:=World.block_lt_of_cell? w _ hcell
 rw[hb.cell this]
 exact hcell
theorem RowAt.ad {w : World} {a : Option Addr} {m c n size : Nat} {xs : List Value} (h : RowAt w (.slice a m c) n size xs) : 0 < xs.length → ∃ ad,a = some ad ∧ ∀ j u,xs[j]? = some u → w.cell? (ad.add j) = some u := by
 intro h0
 obtain⟨a',c',hv,hl,hc⟩:=h
 cases hv
 obtain⟨ad,had,_⟩:=hc 0 _ (List.getElem?_eq_getElem h0)
 refine⟨ad,had,fun j u hj => ?_⟩
 obtain⟨ad',had',h2⟩:=hc j u hj
 rw[had] at had'
 cases had'
 exact h2

theorem infoIntsC : Tryz.prog.info? 3 = some Tryz.t3 := by kernel_rfl
theorem zeroIntsC : Tryz.t3.zero = some (.int .i64 0) := by kernel_rfl
theorem sizeIntsC : Tryz.t3.size = 1 := by kernel_rfl
theorem bytesIntsC : Tryz.t3.bytes = 8 := by kernel_rfl

set_option maxHeartbeats 2000000 in
theorem copiedInts_any (x : List Int) (v : Value) (w : World) (h : RowAt w v x.length 1 (x.map encI)) (hz : x.length * 8 ≤ 140737488355328) :
  Calls Tryz.prog 118 #[v] w fun e w' => ∃ v',e = .returned v' ∧ w'.ownsRow w.heap.size 3 1 v' x.length (x.map encI)∧Below w.heap.size w w' := by
 have HRW:Hid (RowAt w v x.length 1 (x.map encI)):=h
 obtain⟨a,c,rfl,hlx,hcx⟩:=h
 clear hcx
 go_enter Tryz.func118,Tryz.ntmps118
 go_wp2_with (at_make; refine wpList_make_full _ rfl _ _ 45 rfl w.heap.size 3 Tryz.t3 _ 1 Tryz.underlying45 infoIntsC zeroIntsC sizeIntsC .i64 .i64 x.length x.length x.length rfl rfl rfl rfl (by rw[bytesIntsC]; omega) (by unfold maxLen; omega) (Nat.le_refl _) ?_)
 intro w1 hown hg
 rw[rmade_one] at hown
 obtain⟨g,cap,cur,hv,hbg,hgc,_,hm,hcur,hcc⟩:=hown.2.resolve_left (by rintro⟨h,_⟩; cases h)
 cases hv
 have hb1:Below w.heap.size w w1:=(Below.refl _ _).grown hg (Nat.le_refl _) (fun _ h=>by cases h)
 have Hr1:Hid (RowAt w1 (.slice a x.length c) x.length 1 (x.map encI)):=RowAt.below HRW.out hb1
 have hcs:cur.size=x.length:=by simpa using hcur
 have HG:Hid (w1.heap[w.heap.size]? = some (.cells cur.toList.toArray 3 (0,0))):=by unfold Hid; simpa using hgc
 have HL:Hid (cur.size=x.length):=hcs
 have HZ:Hid (0+(x.map encI).length≤cur.toList.length):=by unfold Hid; simp; omega
 have HC:Hid (0 < (x.map encI).length → ∃ ad,a=some ad ∧ ∀ j u,(x.map encI)[j]? = some u→w1.cell? (ad.add j)=some u):=Hr1.out.ad
 have HM:Hid (x.length≤maxLen):=hm
 clear hcs hgc hm hcur hcc hown hg HRW
 go_wp2_with (refine show wpList _ _ _ ({ dst:=_,op := .call { callee := .builtin .copy,args:=_,argTypes:=_ },type:=_,pos:=_,after:=_,guard:=_ } :: _) _ _ from ?_; refine wpList_copy_splice rfl _ _ 45 45 rfl 3 Tryz.underlying45 (by kernel_rfl) _ _ _ _ _ _ rfl rfl w.heap.size 0 cur.toList 3 HG.out (x.map encI) (by rw[List.length_map]; exact (Nat.min_self _).symm) (fun h0=>⟨rfl,HC.out h0⟩) HZ.out (encI_one _) w.heap.size w hb1 (Nat.le_refl _) ?_)
 intro w2 HW2 hb2
 have HO:Hid (World.ownsRow w2 w.heap.size 3 1 (.slice (some ⟨w.heap.size,0,none⟩) x.length x.length) x.length (x.map encI)):=by
  refine⟨by simp,Or.inr ⟨_,_,_,rfl,Nat.le_refl _,HW2.out,Nat.le_refl _,HM.out, ?_, ?_⟩⟩
  ·have:=HL.out
   simp[splice]; omega
  ·have:=HL.out
   simp[splice]
 have HB2:Hid (Below w.heap.size w w2):=hb2
 clear HW2 HG Hr1 hb1 hb2 HC HZ
 go_wp2_with fail
 go_ret
 exact⟨_,rfl,HO.out,HB2.out⟩

theorem infoBoolsC : Tryz.prog.info? 4 = some Tryz.t4 := by kernel_rfl
theorem zeroBoolsC : Tryz.t4.zero = some (.bool false) := by kernel_rfl
theorem sizeBoolsC : Tryz.t4.size = 1 := by kernel_rfl
theorem bytesBoolsC : Tryz.t4.bytes = 1 := by kernel_rfl

set_option maxHeartbeats 2000000 in
theorem copiedBools_any (x : List Bool) (v : Value) (w : World) (h : RowAt w v x.length 1 (x.map encB)) (hz : x.length * 1 ≤ 140737488355328) :
  Calls Tryz.prog 119 #[v] w fun e w' => ∃ v',e = .returned v' ∧ w'.ownsRow w.heap.size 4 1 v' x.length (x.map encB)∧Below w.heap.size w w' := by
 have HRW:Hid (RowAt w v x.length 1 (x.map encB)):=h
 obtain⟨a,c,rfl,hlx,hcx⟩:=h
 clear hcx
 go_enter Tryz.func119,Tryz.ntmps119
 go_wp2_with (at_make; refine wpList_make_full _ rfl _ _ 46 rfl w.heap.size 4 Tryz.t4 _ 1 Tryz.underlying46 infoBoolsC zeroBoolsC sizeBoolsC .i64 .i64 x.length x.length x.length rfl rfl rfl rfl (by rw[bytesBoolsC]; omega) (by unfold maxLen; omega) (Nat.le_refl _) ?_)
 intro w1 hown hg
 rw[rmade_one] at hown
 obtain⟨g,cap,cur,hv,hbg,hgc,_,hm,hcur,hcc⟩:=hown.2.resolve_left (by rintro⟨h,_⟩; cases h)
 cases hv
 have hb1:Below w.heap.size w w1:=(Below.refl _ _).grown hg (Nat.le_refl _) (fun _ h=>by cases h)
 have Hr1:Hid (RowAt w1 (.slice a x.length c) x.length 1 (x.map encB)):=RowAt.below HRW.out hb1
 have hcs:cur.size=x.length:=by simpa using hcur
 have HG:Hid (w1.heap[w.heap.size]? = some (.cells cur.toList.toArray 4 (0,0))):=by unfold Hid; simpa using hgc
 have HL:Hid (cur.size=x.length):=hcs
 have HZ:Hid (0+(x.map encB).length≤cur.toList.length):=by unfold Hid; simp; omega
 have HC:Hid (0 < (x.map encB).length → ∃ ad,a=some ad ∧ ∀ j u,(x.map encB)[j]? = some u→w1.cell? (ad.add j)=some u):=Hr1.out.ad
 have HM:Hid (x.length≤maxLen):=hm
 clear hcs hgc hm hcur hcc hown hg HRW
 go_wp2_with (refine show wpList _ _ _ ({ dst:=_,op := .call { callee := .builtin .copy,args:=_,argTypes:=_ },type:=_,pos:=_,after:=_,guard:=_ } :: _) _ _ from ?_; refine wpList_copy_splice rfl _ _ 46 46 rfl 4 Tryz.underlying46 (by kernel_rfl) _ _ _ _ _ _ rfl rfl w.heap.size 0 cur.toList 4 HG.out (x.map encB) (by rw[List.length_map]; exact (Nat.min_self _).symm) (fun h0=>⟨rfl,HC.out h0⟩) HZ.out (encB_one _) w.heap.size w hb1 (Nat.le_refl _) ?_)
 intro w2 HW2 hb2
 have HO:Hid (World.ownsRow w2 w.heap.size 4 1 (.slice (some ⟨w.heap.size,0,none⟩) x.length x.length) x.length (x.map encB)):=by
  refine⟨by simp,Or.inr ⟨_,_,_,rfl,Nat.le_refl _,HW2.out,Nat.le_refl _,HM.out, ?_, ?_⟩⟩
  ·have:=HL.out
   simp[splice]; omega
  ·have:=HL.out
   simp[splice]
 have HB2:Hid (Below w.heap.size w w2):=hb2
 clear HW2 HG Hr1 hb1 hb2 HC HZ
 go_wp2_with fail
 go_ret
 exact⟨_,rfl,HO.out,HB2.out⟩

end Go.Proofs.YtmdgkjbiicaljahGreatDoor

/- The program's own replica.copied, of texts. -/
namespace Go.Proofs.YtmdgkjbiicaljahGreatDoor
open Go.RowKit

theorem infoStrsC : Tryz.prog.info? 9 = some Tryz.t9 := by kernel_rfl
theorem zeroStrsC : Tryz.t9.zero = some (.string ⟨#[]⟩) := by kernel_rfl
theorem sizeStrsC : Tryz.t9.size = 1 := by kernel_rfl
theorem bytesStrsC : Tryz.t9.bytes = 16 := by kernel_rfl

set_option maxHeartbeats 2000000 in
theorem copiedStrs_any (x : List (List UInt8)) (v : Value) (w : World) (h : RowAt w v x.length 1 (x.map enc)) (hz : x.length * 16 ≤ 140737488355328) :
  Calls Tryz.prog 125 #[v] w fun e w' => ∃ v',e = .returned v' ∧ w'.ownsRow w.heap.size 9 1 v' x.length (x.map enc)∧Below w.heap.size w w' := by
 have HRW:Hid (RowAt w v x.length 1 (x.map enc)):=h
 obtain⟨a,c,rfl,hlx,hcx⟩:=h
 clear hcx
 go_enter Tryz.func125,Tryz.ntmps125
 go_wp2_with (at_make; refine wpList_make_full _ rfl _ _ 42 rfl w.heap.size 9 Tryz.t9 _ 1 Tryz.underlying42 infoStrsC zeroStrsC sizeStrsC .i64 .i64 x.length x.length x.length rfl rfl rfl rfl (by rw[bytesStrsC]; omega) (by unfold maxLen; omega) (Nat.le_refl _) ?_)
 intro w1 hown hg
 rw[rmade_one] at hown
 obtain⟨g,cap,cur,hv,hbg,hgc,_,hm,hcur,hcc⟩:=hown.2.resolve_left (by rintro⟨h,_⟩; cases h)
 cases hv
 have hb1:Below w.heap.size w w1:=(Below.refl _ _).grown hg (Nat.le_refl _) (fun _ h=>by cases h)
 have Hr1:Hid (RowAt w1 (.slice a x.length c) x.length 1 (x.map enc)):=RowAt.below HRW.out hb1
 have hcs:cur.size=x.length:=by simpa using hcur
 have HG:Hid (w1.heap[w.heap.size]? = some (.cells cur.toList.toArray 9 (0,0))):=by unfold Hid; simpa using hgc
 have HL:Hid (cur.size=x.length):=hcs
 have HZ:Hid (0+(x.map enc).length≤cur.toList.length):=by unfold Hid; simp; omega
 have HC:Hid (0 < (x.map enc).length → ∃ ad,a=some ad ∧ ∀ j u,(x.map enc)[j]? = some u→w1.cell? (ad.add j)=some u):=Hr1.out.ad
 have HM:Hid (x.length≤maxLen):=hm
 clear hcs hgc hm hcur hcc hown hg HRW
 go_wp2_with (refine show wpList _ _ _ ({ dst:=_,op := .call { callee := .builtin .copy,args:=_,argTypes:=_ },type:=_,pos:=_,after:=_,guard:=_ } :: _) _ _ from ?_; refine wpList_copy_splice rfl _ _ 42 42 rfl 9 Tryz.underlying42 (by kernel_rfl) _ _ _ _ _ _ rfl rfl w.heap.size 0 cur.toList 9 HG.out (x.map enc) (by rw[List.length_map]; exact (Nat.min_self _).symm) (fun h0=>⟨rfl,HC.out h0⟩) HZ.out (enc_one _) w.heap.size w hb1 (Nat.le_refl _) ?_)
 intro w2 HW2 hb2
 have HO:Hid (World.ownsRow w2 w.heap.size 9 1 (.slice (some ⟨w.heap.size,0,none⟩) x.length x.length) x.length (x.map enc)):=by
  refine⟨by simp,Or.inr ⟨_,_,_,rfl,Nat.le_refl _,HW2.out,Nat.le_refl _,HM.out, ?_, ?_⟩⟩
  ·have:=HL.out
   simp[splice]; omega
  ·have:=HL.out
   simp[splice]
 have HB2:Hid (Below w.heap.size w w2):=hb2
 clear HW2 HG Hr1 hb1 hb2 HC HZ
 go_wp2_with fail
 go_ret
 exact⟨_,rfl,HO.out,HB2.out⟩

end Go.Proofs.YtmdgkjbiicaljahGreatDoor
