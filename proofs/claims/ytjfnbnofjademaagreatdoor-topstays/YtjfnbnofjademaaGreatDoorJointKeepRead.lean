/- What scripts come to: what the laws of the whole ask. -/
import Derived.Test.YtjfnbnofjademaaGreatDoorJointNetTold
import Derived.Laws.StructEq
import Derived.Test.YtjfnbnofjademaaGreatDoorJointRegPlan
import Derived.OpenShut
import Derived.Test.YtjfnbnofjademaaGreatDoorJointVolMem
import Derived.SizedLaws
import Derived.ShutString
import Derived.ChangeOld
import Derived.Deep.Slices
import Derived.Test.YtjfnbnofjademaaGreatDoorJointRawMem
import Derived.WalkKit
import Derived.ProofKit
import Derived.Lib.LaidTab
set_option linter.unusedVariables false
set_option linter.unusedSimpArgs false
namespace Go.Proofs.YtjfnbnofjademaaGreatDoor

theorem run_grow (n : Nat) (h1 : 1 ≤ n) (h4 : n ≤ 4) (l : List ActM) (hl : l.length ≤ 1000) (k : Nat) : ∃ g,NetInv g (runN n (l.take k)) ∧ Grow g (runN n (l.take k)) (runN n l) := by
 have lt:(l.take k).length≤l.length:=by rw[List.length_take]; omega
 obtain⟨g,hI⟩:=run_inv n h1 h4 (l.take k) (by omega)
 refine⟨g,hI, ?_⟩
 have e:runN n l=(l.drop k).foldl stepN (runN n (l.take k)):=by rw[← runN_append,List.take_append_drop]
 rw[e]
 exact fold_grow _ _ _ _ (run_ok n h1 h4 _ (by omega)) (by rw[List.length_take,List.length_drop]; omega) hI
theorem top_stays (n : Nat) (h1 : 1 ≤ n) (h4 : n ≤ 4) (l : List ActM) (hl : l.length ≤ 1000) (k : Nat) : committed (runN n (l.take k)) <+: committed (runN n l) := by
 obtain⟨g,hI,hg⟩:=run_grow n h1 h4 l hl k
 have lt:(l.take k).length≤l.length:=by rw[List.length_take]; omega
 exact committed_grow (run_ok n h1 h4 _ (by omega)) (run_ok n h1 h4 l hl) hI hg
theorem codes_len (n : Nat) (l : List ActM) : ∀ (N : NetM),(l.foldl stepN N).codes.length = N.codes.length + l.length := by
 induction l with
 | nil=>intro N; rfl
 | cons a l ih =>
  intro N
  rw[List.foldl_cons,ih,List.length_cons]
  have:(stepN N a).codes=N.codes ++ [(actP N a).1]:=by unfold stepN coded; simp only[actP_codes]
  rw[this,List.length_append,List.length_singleton]
  omega
theorem codes_pre (l : List ActM) : ∀ (N : NetM),N.codes <+: (l.foldl stepN N).codes := by
 induction l with
 | nil=>intro N; exact List.prefix_rfl
 | cons a l ih =>
  intro N
  have:(stepN N a).codes=N.codes ++ [(actP N a).1]:=by unfold stepN coded; simp only[actP_codes]
  refine List.IsPrefix.trans ?_ (ih (stepN N a))
  rw[this]
  exact List.prefix_append _ _
theorem run_codesT (n : Nat) (l : List ActM) : (runN n l).codes.length = l.length := by
 have:=codes_len n l (startN n)
 unfold runN
 rw[this]
 simp[startN]
theorem run_codes_pre (n : Nat) (l : List ActM) (k : Nat) (hk : k ≤ l.length) : (runN n (l.take k)).codes = (runN n l).codes.take k := by
 have e:runN n l=(l.drop k).foldl stepN (runN n (l.take k)):=by rw[← runN_append,List.take_append_drop]
 have p:=codes_pre (l.drop k) (runN n (l.take k))
 rw[← e] at p
 have hlen:(runN n (l.take k)).codes.length=k:=by rw[run_codesT,List.length_take]; omega
 obtain⟨t,ht⟩:=p
 have hle:k≤(runN n (l.take k)).codes.length:=by omega
 rw[← ht,List.take_append_of_le_length hle,List.take_of_length_le (Nat.le_of_eq hlen)]

/-! ### What clients are told. -/

/-! ### Who asks behind an answer. -/

/-! ### All fall. -/

end Go.Proofs.YtjfnbnofjademaaGreatDoor

/- slices.Equal of codes, the one the first of the other. -/
namespace Go.Proofs.YtjfnbnofjademaaGreatDoor
open Go.RowKit

set_option maxRecDepth 4000 in
set_option maxHeartbeats 2000000 in
theorem equalCodes_pre (B B' : Nat) (x y : List Int) (a a' : Option Addr) (c c' : Nat) (w : World) (hl : x.length ≤ 1000) (hp : x <+: y) (hx : w.ownsRow B 47 1 (.slice a x.length c) x.length (x.map encI)) (hy : w.ownsRow B' 47 1 (.slice a' y.length c') y.length (y.map encI)) :
  Calls Tryz.prog 15 #[.slice a x.length c, .slice a' x.length c'] w fun e w' => e = .returned (.bool true)∧Below w.heap.size w w' := by
 have HP:Hid (x.length≤y.length ∧ ∀ k,k < x.length→y.getD k 0=x.getD k 0):=⟨hp.length_le,fun k hk=>by
  obtain⟨t,rfl⟩:=hp
  simp[List.getD,List.getElem?_append_left hk]⟩
 have HX:Hid (w.ownsRow B 47 1 (.slice a x.length c) x.length (x.map encI)):=hx
 have HY:Hid (w.ownsRow B' 47 1 (.slice a' y.length c') y.length (y.map encI)):=hy
 clear hx hy hp
 go_enter Tryz.func15,Tryz.ntmps15
 go_wp2_with fail
 go_loopw [13] (fun i wr => ∃ k:Nat,k≤x.length∧i = .int .i64 k∧Below w.heap.size w wr) (fun i wr=>x.length - (intOf i).toNat)
 case atStart=>exact⟨0,by omega,rfl,Below.refl _ _⟩
 case round =>
  obtain⟨k,hk,rfl,hb⟩:=hrel
  have HB:Hid (Below w.heap.size w wr):=hb
  by_cases hlt:k < x.length
  ·obtain⟨g,c1,e1,_,_,_,_⟩:=own_cellN HX.out (by decide) (k * 1) (by omega)
   obtain⟨g',c1',e1',_,_,_,_⟩:=own_cellN HY.out (by decide) (k * 1) (by have:=HP.out.1; omega)
   simp only[Value.slice.injEq,true_and] at e1 e1'
   obtain⟨rfl,rfl⟩:=e1
   obtain⟨rfl,rfl⟩:=e1'
   have rd : ∀ j,j < 1→wr.cell? ⟨g,k * 1+j,none⟩ = [Value.int .i64 (x.getD k 0)][j]? ∧ wr.cell? ⟨g',k * 1+j,none⟩ = [Value.int .i64 (x.getD k 0)][j]? := fun j hj=>by
    obtain⟨g2,c2,e2,_,_,h2,_⟩:=own_cellN (own_below HX.out HB.out (own_lt HX.out)) (by decide) (k * 1+j) (by omega)
    obtain⟨g3,c3,e3,_,_,h3,_⟩:=own_cellN (own_below HY.out HB.out (own_lt HY.out)) (by decide) (k * 1+j) (by have:=HP.out.1; omega)
    simp only[Value.slice.injEq,Option.some.injEq,Addr.mk.injEq,and_true,true_and] at e2 e3
    obtain⟨rfl,_⟩:=e2
    obtain⟨rfl,_⟩:=e3
    have hj0:j=0:=by omega
    subst hj0
    have q:=HP.out.2 k hlt
    have hy' : k < y.length:=by have:=HP.out.1; omega
    rw[h2,h3]
    simp only[List.getD,List.getElem?_eq_getElem hlt,List.getElem?_eq_getElem hy',Option.getD_some] at q
    simp[encI,List.getD,hlt,hy',q]
   have k0:(0:Int)≤(k:Int):=by omega
   have k1:(k:Int) < (x.length:Int):=by omega
   clear hb
   generalize x.getD k 0=y at *
   have x0:=(rd 0 (by omega)).1
   have y0:=(rd 0 (by omega)).2
   simp only[List.getElem?_cons_zero,Nat.add_zero,Nat.mul_one] at x0 y0
   clear rd
   go_wp2_with fail
   go_quiet (fail)
   go_wp2_with fail
   go_roundw
   case rel=>exact⟨k+1,by omega,by go_num,Below.far HB.out (below_drew_n _ _)⟩
   case measure=>simp[intOf]; omega
  ·clear hb
   go_wp2_with fail
   go_ret
   exact⟨rfl,HB.out⟩

end Go.Proofs.YtjfnbnofjademaaGreatDoor

/- The walk of TopStays. -/
namespace Go.Proofs.YtjfnbnofjademaaGreatDoor
open Go.RowKit

theorem pickedBig_any (n m : Int) (w : World) (h0 : -9223372036854775808 ≤ n) (h1 : n ≤ 9223372036854775807) (h2 : 0 < m) (h3 : m ≤ 1073741824) :
  Calls Tryz.prog 13 #[.int .i64 n, .int .i64 m] w fun e w' => e = .returned (.int .i64 (pickN n m))∧w' = w:=by
 go_enter Tryz.func13,Tryz.ntmps13
 go_wp2_with fail
 refine (picked_any n m w h0 h1 h2 h3).mono ?_
 rintro e w' ⟨rfl,rfl⟩
 go_wp2_with fail
 go_ret
 exact⟨rfl,rfl⟩
theorem ActsAt.first {w : World} {a : Option Addr} {n c : Nat} {l : List ActM} (h : ActsAt w (.slice a n c) l) (k : Nat) (hk : k ≤ n) (c' : Nat) : ActsAt w (.slice a k c') (l.take k) := by
 obtain⟨a',cap,hv,hl,hd,hc⟩:=h
 simp only[Value.slice.injEq] at hv
 obtain⟨rfl,rfl,rfl⟩:=hv
 have hlt:(l.take k).length=k:=by rw[List.length_take]; omega
 refine⟨a,c',by rw[hlt],by omega,fun x hx=>hd x (List.mem_of_mem_take hx),fun i hi => ?_⟩
 obtain⟨b,o,ha,hcell⟩:=hc i (by omega)
 refine⟨b,o,ha,fun j u hj=>hcell j u ?_⟩
 rw[← hj]
 congr 2
 simp[List.getD,List.getElem?_take,show i < k by omega]
/-- net.Run of a script that may be: what it answers. -/
theorem netRun_ok (S : List ActM) (v : Value) (w : World) (h : ActsAt w v S) (hS : S.length ≤ 300) :
  Calls Tryz.prog 14 #[.int .i64 3,v] w fun e w' => ∃ z1 d1 z2 d2 z3 n3 d3 z4 d4 z5 n5 d5 z6 d6,e = .returned (.tuple #[.agg #[.slice z1 3 d1, .slice z2 3 d2, .slice z3 n3 d3, .slice z4 3 d4, .slice z5 n5 d5, .slice z6 S.length d6], .int .i64 0]) ∧
   NetRows w' w.heap.size (runN 3 S) (.slice z1 3 d1) (.slice z2 3 d2) (.slice z3 n3 d3) (.slice z4 3 d4) (.slice z5 n5 d5) (.slice z6 S.length d6)∧Below w.heap.size w w' := by
 refine (runGo_any 3 S _ w h).mono ?_
 rintro e w3 ⟨v3,rfl,hout,hb3⟩
 have hE:runE 3 S=0:=by unfold runE; rw[if_neg (by omega),if_neg (by omega)]
 have hO:runO 3 S=runN 3 S:=by unfold runO; rw[if_pos hE]; rfl
 rw[hE]
 rw[hO] at hout
 have hok:=run_ok 3 (by omega) (by omega) S (by omega)
 have hcd:(runN 3 S).codes.length=S.length:=by
  have:=run_codes 3 S (startN 3)
  unfold runN
  rw[this]
  simp[startN]
 obtain⟨vr,vs,vf,vc,vt,vk,rfl,hrow⟩:=hout
 obtain⟨z1,d1,rfl⟩:=hrow.r.form
 obtain⟨z2,d2,rfl⟩:=hrow.s.form
 obtain⟨z3,d3,rfl⟩:=hrow.f.form
 obtain⟨z4,d4,rfl⟩:=own_formN hrow.c
 obtain⟨z5,d5,rfl⟩:=own_formN hrow.t
 obtain⟨z6,d6,rfl⟩:=own_form hrow.k
 rw[hok.rl,hok.sl,hok.cl,hcd] at hrow ⊢
 exact⟨z1,d1,z2,d2,z3,_,d3,z4,d4,z5,_,d5,z6,d6,rfl,hrow,hb3⟩

set_option maxRecDepth 4000 in
set_option maxHeartbeats 8000000 in
theorem topStays_walk (w : World) (l : List RawM) {v : Value} (h : Raws w v l) (n : Int) (wn : (Lit.int .i64 n).wf = true) (ht : Tab w) :
  Calls Tryz.prog 4 #[v, .int .i64 n] w fun e w' => e = .returned (.bool true)∧Below w.heap.size w w' := by
 have hn : -9223372036854775808≤n∧n≤9223372036854775807:=bounds_i64 wn
 have HAC:Hid (Calls Tryz.prog 12 #[v, .int .i64 280, .int .i64 3] w _):=acts_any l 280 3 v w h ht (by omega) (by omega)
 have hin:=acts_in l 280 3
 obtain⟨A,hA⟩ : ∃ A,actsOf l 280 3=A:=⟨_,rfl⟩
 have hp:=pickN_bd n ((A.length:Int)+1) (by omega)
 obtain⟨k,hk⟩ : ∃ k:Nat,pickN n ((A.length:Int)+1)=k:=⟨(pickN n ((A.length:Int)+1)).toNat,by omega⟩
 rw[show ((3:Nat):Int)=3 from rfl] at HAC
 rw[hA] at HAC hin
 have HIN:Hid (A.length≤280 ∧ ∀ x ∈ A,x.op.data.length≤100):=hin
 have HKA:Hid (k≤A.length):=by have:=hp.2; rw[hk] at this; show k≤A.length; omega
 have HPK:Hid (∀ W,Calls Tryz.prog 13 #[.int .i64 n, .int .i64 ((A.length:Int)+1)] W fun e w' => e = .returned (.int .i64 k)∧w' = W):=fun W=>by
  rw[← hk]
  exact pickedBig_any n _ W hn.1 hn.2 (by omega) (by omega)
 obtain⟨aa,ca,rfl,hq1,hq2⟩:=h
 clear hq1 hq2 wn hp hk hA hin ht hn
 go_enter Tryz.func4,Tryz.ntmps4
 go_wp2_with fail
 refine HAC.out.mono ?_
 rintro e w1 ⟨va,rfl,ho1,hb1⟩
 obtain⟨a1,c1,rfl⟩:=own_formN ho1
 have HAT:Hid (ActsAt w1 (.slice a1 A.length c1) A):=ActsAt.of_own ho1 (by have:=HIN.out.1; omega) (fun x hx=>by have:=HIN.out.2 x hx; omega)
 have HB1:Hid (Below w.heap.size w w1):=hb1
 have HC1:Hid (A.length≤c1):=own_cap ho1
 clear ho1 hb1 HAC
 have l0:(A.length:Int)≤280:=by have:=HIN.out.1; omega
 have l1:(0:Int)≤(A.length:Int):=by omega
 go_wp2_with fail
 try rw[wrap64_as _ ⟨by omega,by omega⟩]
 refine (HPK.out w1).mono ?_
 rintro e w1' ⟨rfl,e1⟩
 subst e1
 clear l0 l1 HPK
 have k0:(0:Int)≤(k:Int):=by omega
 have k1:(k:Int)≤(c1:Int):=by have:=HKA.out; have:=HC1.out; omega
 have k2:(k:Int)≤(A.length:Int):=by have:=HKA.out; omega
 go_wp2_with fail
 obtain⟨P,hP⟩ : ∃ P,A.take k=P:=⟨_,rfl⟩
 have hPl:P.length=k:=by rw[← hP,List.length_take]; have:=HKA.out; omega
 have HPL:Hid (P.length=k):=hPl
 have HPA:Hid (A.take k=P):=hP
 have HAP:Hid (ActsAt w1' (.slice a1 k c1) P):=by rw[← hP]; exact HAT.out.first k HKA.out c1
 clear hP hPl
 refine (netRun_ok P _ w1' HAP.out (by have:=HPL.out; have:=HKA.out; have:=HIN.out.1; omega)).mono ?_
 rw[HPL.out]
 rintro e w2 ⟨z1,d1,z2,d2,z3,n3,d3,z4,d4,z5,n5,d5,z6,d6,rfl,hr1,hb2⟩
 have b1:=Box.new w2 30 [.slice z1 3 d1, .slice z2 3 d2, .slice z3 n3 d3, .slice z4 3 d4, .slice z5 n5 d5, .slice z6 k d6]
 obtain⟨w3,hw3⟩ : ∃ w3,w3=w2.alloc (.cells #[.slice z1 3 d1, .slice z2 3 d2, .slice z3 n3 d3, .slice z4 3 d4, .slice z5 n5 d5, .slice z6 k d6] 30):=⟨_,rfl⟩
 have hb3:Below w2.heap.size w2 w3:=by rw[hw3]; exact below_alloc _ _
 rw[← hw3] at b1
 have HR3:Hid (NetRows w3 w.heap.size (runN 3 P) (.slice z1 3 d1) (.slice z2 3 d2) (.slice z3 n3 d3) (.slice z4 3 d4) (.slice z5 n5 d5) (.slice z6 k d6)):=(hr1.below hb3).base HB1.out.size
 have HB3:Hid (Below w1'.heap.size w1' w3):=Below.far hb2 hb3
 obtain⟨ob,hob⟩ : ∃ ob,w2.heap.size=ob:=⟨_,rfl⟩
 rw[hob] at b1
 have B3:Hid (Box w3 ob 30 [.slice z1 3 d1, .slice z2 3 d2, .slice z3 n3 d3, .slice z4 3 d4, .slice z5 n5 d5, .slice z6 k d6]):=b1
 clear hr1 hb2 hb3 b1
 go_upto_region 4 with fail
 rw[← hw3]
 try rw[hob]
 clear hw3 hob
 go_wp2_with fail
 refine (netRun_ok A _ w3 (HAT.out.below HB3.out) (by have:=HIN.out.1; omega)).mono ?_
 rintro e w4 ⟨y1,e1,y2,e2,y3,k3,e3,y4,e4,y5,k5,e5,y6,e6,rfl,hr3,hb4⟩
 have b3:=Box.new w4 30 [.slice y1 3 e1, .slice y2 3 e2, .slice y3 k3 e3, .slice y4 3 e4, .slice y5 k5 e5, .slice y6 A.length e6]
 obtain⟨w5,hw5⟩ : ∃ w5,w5=w4.alloc (.cells #[.slice y1 3 e1, .slice y2 3 e2, .slice y3 k3 e3, .slice y4 3 e4, .slice y5 k5 e5, .slice y6 A.length e6] 30):=⟨_,rfl⟩
 have hb5:Below w4.heap.size w4 w5:=by rw[hw5]; exact below_alloc _ _
 rw[← hw5] at b3
 have HB35:Hid (Below w3.heap.size w3 w5):=Below.far hb4 hb5
 have HRP:Hid (NetRows w5 w3.heap.size (runN 3 A) (.slice y1 3 e1) (.slice y2 3 e2) (.slice y3 k3 e3) (.slice y4 3 e4) (.slice y5 k5 e5) (.slice y6 A.length e6)):=hr3.below hb5
 have HRO:Hid (NetRows w5 w.heap.size (runN 3 P) (.slice z1 3 d1) (.slice z2 3 d2) (.slice z3 n3 d3) (.slice z4 3 d4) (.slice z5 n5 d5) (.slice z6 k d6)):=HR3.out.below HB35.out
 obtain⟨pb,hpb⟩ : ∃ pb,w4.heap.size=pb:=⟨_,rfl⟩
 rw[hpb] at b3
 have BO:Hid (Box w5 ob 30 [.slice z1 3 d1, .slice z2 3 d2, .slice z3 n3 d3, .slice z4 3 d4, .slice z5 n5 d5, .slice z6 k d6]):=B3.out.below HB35.out B3.out.lt
 have BP:Hid (Box w5 pb 30 [.slice y1 3 e1, .slice y2 3 e2, .slice y3 k3 e3, .slice y4 3 e4, .slice y5 k5 e5, .slice y6 A.length e6]):=b3
 have HW5:Hid (Below w.heap.size w w5):=Below.far HB1.out (Below.far HB3.out HB35.out)
 have hoP:=run_ok 3 (by omega) (by omega) P (by have:=HPL.out; have:=HKA.out; have:=HIN.out.1; omega)
 have hoA:=run_ok 3 (by omega) (by omega) A (by have:=HIN.out.1; omega)
 have hst:committed (runN 3 P) <+: committed (runN 3 A):=by rw[← HPA.out]; exact top_stays 3 (by omega) (by omega) A (by have:=HIN.out.1; omega) k
 have hcp:(runN 3 P).codes=(runN 3 A).codes.take k:=by rw[← HPA.out]; exact run_codes_pre 3 A k HKA.out
 have hlA:(runN 3 A).codes.length=A.length:=by
  obtain⟨a',c',e'⟩:=own_form HRP.out.k
  simp only[Value.slice.injEq] at e'
  exact e'.2.1.symm
 obtain⟨O,hO⟩ : ∃ O,runN 3 P=O:=⟨_,rfl⟩
 obtain⟨N,hN⟩ : ∃ N,runN 3 A=N:=⟨_,rfl⟩
 rw[hO] at HRO hoP hst hcp
 rw[hN] at HRP hoA hst hcp hlA
 have HIO:Hid (∀ i,i < 3→ReplMay (O.repl i)):=fun i hi=>hoP.may i hi
 have HLO:Hid (O.repls.length=3):=hoP.rl
 have HIN2:Hid (∀ i,i < 3→ReplMay (N.repl i)):=fun i hi=>hoA.may i hi
 have HLN:Hid (N.repls.length=3):=hoA.rl
 have HST:Hid (committed O <+: committed N):=hst
 have HCP:Hid (O.codes=N.codes.take k∧N.codes.length=A.length):=⟨hcp,hlA⟩
 clear hr3 hb4 hb5 b3 HR3 B3 hO hN hoP hoA hst hcp hlA HAP
 go_upto_region 5 with fail
 rw[← hw5]
 try rw[hpb]
 clear hw5 hpb
 have h5:=BP.out
 obtain⟨x0,x1,x2,x3,x4,x5⟩:=h5.c6
 clear h5
 have q0:((A.length:Int) == (A.length:Int))=true:=beq_iff_eq.mpr rfl
 have q1:((A.length:Int) != (A.length:Int))=false:=by simp only[bne,q0,Bool.not_true]
 go_upto_region 7 with fail
 clear q0 q1 x0 x1 x2 x3 x4 x5
 have h5:=BO.out
 obtain⟨x0,x1,x2,x3,x4,x5⟩:=h5.c6
 clear h5
 go_wp2_with fail
 refine (committed_any _ O _ _ _ _ _ _ w5 HRO.out HLO.out HIO.out).mono ?_
 rintro e w6 ⟨vc,rfl,hs6,hc6,hb6⟩
 obtain⟨ao,no,co,rfl,hco⟩:=hc6
 obtain rfl:no=(committed O).length:=by obtain⟨a',c',e',_⟩:=hs6; simp only[Value.slice.injEq] at e'; exact e'.2.1
 have HSO:Hid (Strs w6 (.slice ao (committed O).length co) (committed O)):=hs6
 have HB6:Hid (Below w5.heap.size w5 w6):=hb6
 have BP6:Hid (Box w6 pb 30 [.slice y1 3 e1, .slice y2 3 e2, .slice y3 k3 e3, .slice y4 3 e4, .slice y5 k5 e5, .slice y6 A.length e6]):=BP.out.below hb6 BP.out.lt
 clear hs6 hco hb6 x0 x1 x2 x3 x4 x5
 go_upto_region 8 with fail
 have h5:=BP6.out
 obtain⟨x0,x1,x2,x3,x4,x5⟩:=h5.c6
 clear h5
 go_wp2_with fail
 refine (committed_any _ N _ _ _ _ _ _ w6 (HRP.out.below HB6.out) HLN.out HIN2.out).mono ?_
 rintro e w7 ⟨vc,rfl,hs7,hc7,hb7⟩
 obtain⟨ap,np,cp,rfl,hcp⟩:=hc7
 obtain rfl:np=(committed N).length:=by obtain⟨a',c',e',_⟩:=hs7; simp only[Value.slice.injEq] at e'; exact e'.2.1
 have HSP:Hid (Strs w7 (.slice ap (committed N).length cp) (committed N)):=hs7
 have HB7:Hid (Below w5.heap.size w5 w7):=Below.far HB6.out hb7
 have HSO7:Hid (Strs w7 (.slice ao (committed O).length co) (committed O)):=HSO.out.below hb7
 have BP7:Hid (Box w7 pb 30 [.slice y1 3 e1, .slice y2 3 e2, .slice y3 k3 e3, .slice y4 3 e4, .slice y5 k5 e5, .slice y6 A.length e6]):=BP6.out.below hb7 BP6.out.lt
 have BO7:Hid (Box w7 ob 30 [.slice z1 3 d1, .slice z2 3 d2, .slice z3 n3 d3, .slice z4 3 d4, .slice z5 n5 d5, .slice z6 k d6]):=BO.out.below HB7.out BO.out.lt
 have p0:((committed O).length:Int)≤((committed N).length:Int):=by have:=HST.out.length_le; omega
 have p1:((committed O).length:Int)≤(cp:Int):=by omega
 have p2:(0:Int)≤((committed O).length:Int):=by omega
 have HKE:Hid (k≤e6):=by
  have q:=HRP.out.k
  unfold RowsK at q
  rw[HCP.out.2] at q
  have q1:=own_cap q
  have:=HKA.out
  show k≤e6
  omega
 have p3:(k:Int)≤(e6:Int):=by have:=HKE.out; omega
 have HTK:Hid ((committed N).take (committed O).length=committed O):=(List.prefix_iff_eq_take.1 HST.out).symm
 have HQ:Hid (∀ W,Below w7.heap.size w7 W→Strs W (.slice ap (committed O).length cp) (committed O)):=fun W hW=>by
  have q:=(HSP.out.below hW).first (committed O).length HST.out.length_le
  rw[HTK.out] at q
  exact q
 clear hs7 hcp hb7 x0 x1 x2 x3 x4 x5
 go_upto_region 9 with fail
 refine wp_region_plan [0,0,0,0,0,0,0,0,0,0,0,1,2,2,2,2,2,2,2,2,3,4,4] (.free 0 (.line 1 (.free 2 (.line 3 (.done 4))))) (by kernel_rfl) (by kernel_rfl) (fun h=>h) (Below w7.heap.size w7) (Below.refl _ _) (fun V n hV=>below_drewN n hV) fun n0 => ?_
 refine wpPlan_free (by kernel_rfl) ?_
 apply Exists.intro
 refine⟨?_, ?_⟩
 ·intro V hV
  simp only[sel,↓reduceIte,Nat.reduceEqDiff]
  repeat (go_big_quiet_step (fail))
  refine wpQuiet_nil ?_
  rfl
 intro n1
 obtain⟨w8,hw8⟩ : ∃ w8,w8=((w7.drewN n0).drewN n1):=⟨_,rfl⟩
 have HB8:Hid (Below w7.heap.size w7 w8):=by rw[hw8]; exact (below_drewN _ (below_drewN _ (Below.refl _ _)))
 have hb8:Below w7.heap.size w7 w8:=by rw[hw8]; exact (below_drewN _ (below_drewN _ (Below.refl _ _)))
 rw[← hw8]
 clear hw8
 refine wpPlan_line ?_
 simp only[sel,↓reduceIte,Nat.reduceEqDiff]
 refine wpEarly_cons ?_
 go_wp2_with fail
 refine (equalStrs_any (committed O) (committed O) _ _ w8 (HSO7.out.below HB8.out) (HQ.out w8 HB8.out)).mono ?_
 rintro e w9 ⟨rfl,hw9⟩
 have HB9:Hid (Below w7.heap.size w7 w9):=Below.far HB8.out hw9
 clear hw9
 rw[show decide (committed O=committed O)=true from decide_eq_true rfl]
 go_wp2_with fail
 refine wpEarly_next HB9.out fun m1 => ?_
 refine wpEarly_nil ?_
 refine wpPlan_free (by kernel_rfl) ?_
 apply Exists.intro
 refine⟨?_, ?_⟩
 ·intro V hV
  have bq0:=BO7.out.below hV BO7.out.lt
  obtain⟨x0,x1,x2,x3,x4,x5⟩:=bq0.c6
  have bq1:=BP7.out.below hV BP7.out.lt
  obtain⟨y0,y1,y2,y3,y4,y5⟩:=bq1.c6
  simp only[sel,↓reduceIte,Nat.reduceEqDiff]
  repeat (go_big_quiet_step (fail))
  refine wpQuiet_nil ?_
  rfl
 intro n2
 obtain⟨w10,hw10⟩ : ∃ w10,w10=((w9.drewN m1).drewN n2):=⟨_,rfl⟩
 have HB10:Hid (Below w7.heap.size w7 w10):=by rw[hw10]; exact (below_drewN _ (below_drewN _ (HB9.out)))
 have hb10:Below w9.heap.size w9 w10:=by rw[hw10]; exact (below_drewN _ (below_drewN _ (Below.refl _ _)))
 rw[← hw10]
 clear hw10
 have hKO:O.codes.length=k:=by
  have q:=congrArg List.length HCP.out.1
  rw[List.length_take] at q
  have:=HKA.out
  have:=HCP.out.2
  omega
 have HKO:Hid (O.codes.length=k):=hKO
 have HKR:Hid (w10.ownsRow w.heap.size 47 1 (.slice z6 O.codes.length d6) O.codes.length (O.codes.map encI)):=by
  have q:=((HRO.out.below HB7.out).below HB10.out).k
  unfold RowsK at q
  rw[HKO.out] at q ⊢
  exact q
 have HKQ:Hid (w10.ownsRow w3.heap.size 47 1 (.slice y6 N.codes.length e6) N.codes.length (N.codes.map encI)):=by
  have q:=((HRP.out.below HB7.out).below HB10.out).k
  unfold RowsK at q
  rw[HCP.out.2] at q ⊢
  exact q
 have HKC:Hid (Calls Tryz.prog 15 #[.slice z6 k d6, .slice y6 k e6] w10 fun e w' => e = .returned (.bool true)∧Below w10.heap.size w10 w'):=by
  have q:=equalCodes_pre _ _ O.codes N.codes z6 y6 d6 e6 w10 (by rw[HKO.out]; have:=HKA.out; have:=HIN.out.1; omega) (by rw[HCP.out.1]; exact List.take_prefix _ _) HKR.out HKQ.out
  rw[HKO.out] at q
  exact q
 clear hKO
 refine wpPlan_line ?_
 simp only[sel,↓reduceIte,Nat.reduceEqDiff]
 refine wpEarly_cons ?_
 go_wp2_with fail
 refine (HKC.out).mono ?_
 rintro e w11 ⟨rfl,hw11⟩
 have HB11:Hid (Below w7.heap.size w7 w11):=Below.far HB10.out hw11
 clear hw11
 go_wp2_with fail
 refine wpEarly_next HB11.out fun m2 => ?_
 refine wpEarly_nil ?_
 refine wpPlan_done ?_
 simp only[sel,↓reduceIte,Nat.reduceEqDiff]
 obtain⟨w12,hw12⟩ : ∃ w12,w12=(w11.drewN m2):=⟨_,rfl⟩
 have HB12:Hid (Below w7.heap.size w7 w12):=by rw[hw12]; exact (below_drewN _ (HB11.out))
 have hb12:Below w11.heap.size w11 w12:=by rw[hw12]; exact (below_drewN _ (Below.refl _ _))
 rw[← hw12]
 clear hw12
 go_wp2_with fail
 go_ret
 exact⟨rfl,Below.far HW5.out (Below.far HB7.out HB12.out)⟩

end Go.Proofs.YtjfnbnofjademaaGreatDoor

/- From what a row reads of an argument to how it lies in memory: numbers, bools, strings, structs, slices of any of them. -/
namespace Go.Proofs.YtjfnbnofjademaaGreatDoor
open Go.ChangeShapes Go.WideShapes Go.ChangeAt Go.RowKit Go.Deep

section
variable {H:Type} {enc:TypeId × Value→H} {P:Program} {W:World}

/-- Within the form's own reach. -/
def Within (P : Program) (t : TypeId) (d : DataW H) : Prop := ∀ n ∈ d.weights P t,n ≤ 140737488351232

theorem within_of {ts : List TypeId} {ds : List (DataW H)} (h : (DataW.weightsEach P ts ds).all (· ≤ reachBytes) = true) {j : Nat} {t : TypeId} {d : DataW H} (ht : ts[j]? = some t) (hd : ds[j]? = some d) : Within P t d := by
 intro n hn
 have:=List.all_eq_true.1 h _ (DataW.weights_mem_each ht hd n hn)
 have h2:=of_decide_eq_true this
 unfold reachBytes at h2
 exact h2

theorem weights_mem_all {e : TypeId} : ∀ {ds : List (DataW H)} {d : DataW H},d ∈ ds → ∀ n ∈ d.weights P e,n ∈ DataW.weightsAll P e ds
 | d0 :: ds,d,hd,n,hn=>by
  simp only[DataW.weightsAll,List.mem_append]
  rcases List.mem_cons.1 hd with rfl | h
  ·exact Or.inl hn
  ·exact Or.inr (weights_mem_all h n hn)

theorem read_int {t : TypeId} {fuel : Nat} {cs : List Value} {x : DataW H × List MemPlace} (hu : P.underlying t = some (.int .i64)) (h : DataW.trod enc P W 0 (fun _ => true) true fuel t cs = some x) :
  ∃ n:Int,cs = [.int .i64 n] ∧ -9223372036854775808≤n∧n≤9223372036854775807:=by
 obtain⟨n,h1,_,h3⟩:=DataW.trod_int hu h
 exact⟨n,h1,(bounds_i64 h3).1,(bounds_i64 h3).2⟩

/-- A struct: field i reads its own part of the cells, within the reach. -/
theorem read_struct {t : TypeId} {fs : Array Field} {fuel : Nat} {cs : List Value} {x : DataW H × List MemPlace} (hu : P.underlying t = some (.struct fs)) (h : DataW.trod enc P W 0 (fun _ => true) true fuel t cs = some x) (hw : Within P t x.1) :
  cs.length=P.cellsOf t ∧ ∀ (i:Nat) (f:Field),fs[i]? = some f → ∃ n y,DataW.trod enc P W 0 (fun _=>true) true n f.type ((cs.drop f.offset).take (P.cellsOf f.type))=some y∧Within P f.type y.1:=by
 obtain⟨xs,n,_,hx,hl,hlen,hf⟩:=DataW.trod_struct hu h
 refine⟨hl,fun i f hi => ?_⟩
 have hi' : i < fs.size:=(Array.getElem?_eq_some_iff.1 hi).1
 have hxi:xs[i]? = some xs[i]:=List.getElem?_eq_getElem (by omega)
 refine⟨n,xs[i],(hf i f hi).trans hxi,fun m hm=>hw m ?_⟩
 subst hx
 simp only[DataW.weights,hu]
 refine DataW.weights_mem_each (j:=i) (t:=f.type) (d:=xs[i].1) ?_ ?_ m hm
 ·simp[hi]
 ·simp[hxi]

theorem read_slice {α : Type} [Inhabited α] {t e : TypeId} {fuel : Nat} {cs : List Value} {x : DataW H × List MemPlace} (RE : List Value → α → Prop) (hu : P.underlying t = some (.slice e)) (hpos : 0 < P.cellsOf e)
  (hel : ∀ fuel cs x,DataW.trod enc P W 0 (fun _=>true) true fuel e cs=some x→Within P e x.1 → ∃ y,RE cs y)
  (h:DataW.trod enc P W 0 (fun _=>true) true fuel t cs=some x) (hw:Within P t x.1) :
  ∃ (a:Option Addr) (cap:Nat) (l:List α),cs = [.slice a l.length cap]∧l.length * P.bytesOf e≤140737488351232 ∧
   ∀ i,i < l.length → ∃ b o C,a=some ⟨b,o,none⟩∧C.length=P.cellsOf e∧RE C (l.getD i default) ∧ ∀ j u,C[j]? = some u→W.cell? ⟨b,o+i * P.cellsOf e+j,none⟩=some u:=by
 rcases open_slice hu h with ⟨rfl,rfl⟩ | ⟨a,len,cap,m,n,D,Pl,rfl,_,hl,hm,hmm,rfl,hx⟩
 ·exact⟨none,0,[],rfl,by simp,fun i hi=>by simp at hi⟩
 ·have hlm:len≤m:=by rw[hmm]; split <;> omega
  have each : ∀ i,i < len → ∃ y : α,∃ C,W.cells? 0 (a.add (i * P.cellsOf e)) (P.cellsOf e)=some C∧RE C y:=fun i hi=>by
   obtain⟨C,h1,h2⟩:=hx i (by omega)
   obtain⟨y,hy⟩:=hel _ _ _ h2 (fun w' hw' => hw w' (by
    simp only[DataW.weights,hu,List.mem_cons,List.mem_append]
    refine Or.inr (Or.inl (weights_mem_all ?_ w' hw'))
    exact List.mem_map.2 ⟨i,List.mem_range.2 hi,rfl⟩))
   exact⟨y,C,h1,hy⟩
  obtain⟨f,hf⟩:=choose_lt each
  refine⟨some a,cap,(List.range len).map f,by simp, ?_,fun i hi => ?_⟩
  ·have:=hw _ (by simp only[DataW.weights,hu,List.mem_cons]; exact Or.inl rfl)
   simp only[List.length_map,List.length_range] at this ⊢
   exact Nat.le_trans (Nat.mul_le_mul_right _ (by omega)) this
  ·simp only[List.length_map,List.length_range] at hi
   obtain⟨C,h1,h2⟩:=hf i hi
   obtain⟨_,hlen,hc⟩:=World.cells?_some h1
   obtain⟨C0,h10,_⟩:=hf 0 (by omega)
   obtain⟨_,hlen0,hcc0⟩:=World.cells?_some h10
   have hc0:=hcc0 0 hpos
   have:(0:Nat) < C0.length:=by omega
   rw[List.getElem?_eq_getElem this] at hc0
   obtain⟨b,o,sp⟩:=a
   have hs:sp=none:=by simpa [Addr.add] using World.cell?_spot hc0
   subst hs
   refine⟨b,o,C,rfl,hlen,by simpa [List.getD,hi] using h2,fun j u hj => ?_⟩
   have hj' : j < P.cellsOf e:=by have:=(List.getElem?_eq_some_iff.1 hj).1; omega
   have:=hc j hj'
   rw[add_plain,add_plain] at this
   rw[this,hj]
end

end Go.Proofs.YtjfnbnofjademaaGreatDoor

/- How lists of raw things are read off an argument; the tables of the library's own packages. -/
namespace Go.Proofs.YtjfnbnofjademaaGreatDoor
open Go.ChangeShapes Go.WideShapes Go.ChangeAt Go.RowKit Go.Deep

theorem cellsIntD : Tryz.prog.cellsOf 3 = 1 := by kernel_rfl
theorem cellsRaw : Tryz.prog.cellsOf 79 = 4 := by kernel_rfl
theorem bytesRaw : Tryz.prog.bytesOf 79 = 32 := by kernel_rfl

set_option maxRecDepth 4000 in
theorem read_raw {H : Type} {enc : TypeId × Value → H} {W : World} {fuel : Nat} {cs : List Value} {x : DataW H × List MemPlace}
  (h:DataW.trod enc Tryz.prog W 0 (fun _=>true) true fuel 79 cs=some x) (hw:Within Tryz.prog 79 x.1) : ∃ r:RawM,cs=rawCells r∧RawIn r:=by
 obtain⟨hl,hf⟩:=read_struct Tryz.underlying79 h hw
 rw[cellsRaw] at hl
 match cs,hl with
 | [c0,c1,c2,c3],_ =>
  obtain⟨n0,y0,h0,_⟩:=hf 0 _ rfl
  obtain⟨n1,y1,h1,_⟩:=hf 1 _ rfl
  obtain⟨n2,y2,h2,_⟩:=hf 2 _ rfl
  obtain⟨n3,y3,h3,_⟩:=hf 3 _ rfl
  simp[cellsIntD] at h0 h1 h2 h3
  obtain⟨k,e0,i0⟩:=read_int Tryz.underlying3 h0
  obtain⟨a,e1,i1⟩:=read_int Tryz.underlying3 h1
  obtain⟨b,e2,i2⟩:=read_int Tryz.underlying3 h2
  obtain⟨c,e3,i3⟩:=read_int Tryz.underlying3 h3
  simp at e0 e1 e2 e3
  subst e0 e1 e2 e3
  exact⟨⟨k,a,b,c⟩,rfl,⟨i0.1,i0.2,i1.1,i1.2,i2.1,i2.2,i3.1,i3.2⟩⟩

set_option maxRecDepth 4000 in
theorem read_raws {H : Type} {enc : TypeId × Value → H} {W : World} {fuel : Nat} {v : Value} {x : DataW H × List MemPlace}
  (h:DataW.trod enc Tryz.prog W 0 (fun _=>true) true fuel 22 [v]=some x) (hw:Within Tryz.prog 22 x.1) : ∃ l,Raws W v l:=by
 letI:Inhabited RawM:=⟨⟨0,0,0,0⟩⟩
 obtain⟨a,cap,l,hv,hb,hc⟩:=read_slice (fun C (y:RawM)=>C=rawCells y∧RawIn y) Tryz.underlying22 (by rw[cellsRaw]; decide) (fun fuel cs x h1 h2=>read_raw h1 h2) h hw
 rw[bytesRaw] at hb
 refine⟨l,a,cap,by simpa using hv,by omega,fun i hi => ?_⟩
 obtain⟨b,o,C,ha,_,⟨hC,hr⟩,hcell⟩:=hc i hi
 rw[cellsRaw] at hcell
 subst hC
 exact⟨b,o,ha,hr,hcell 0 _ rfl,hcell 1 _ rfl,hcell 2 _ rfl,hcell 3 _ rfl⟩

theorem gPow : Tryz.prog.globalNamed "internal/strconv.uint64pow10" = some 0 := by kernel_rfl
theorem gPowType : (Tryz.prog.globals[0]?).map (·.type) = some 204 := by kernel_rfl
theorem cellsPow : Tryz.prog.cellsOf 204 = 20 := by kernel_rfl
theorem cellsU64 : Tryz.prog.cellsOf 179 = 1 := by kernel_rfl

def laying (cs : Array Value) : Obj → Obj
 | .cells _ t frozen => .cells cs t frozen
 | o=>o

end Go.Proofs.YtjfnbnofjademaaGreatDoor
