/- What is refused of a script does nothing. -/
import Derived.Test.YtmdgkjbiicaljahGreatDoorNetMath
import Derived.Test.YtmdgkjbiicaljahGreatDoorNetActs
import Derived.Laws.StructEq
import Derived.Test.YtmdgkjbiicaljahGreatDoorJointRowlaw
import Derived.Test.YtmdgkjbiicaljahGreatDoorJointNetDoR
import Derived.Test.YtmdgkjbiicaljahGreatDoorJointVolMem
import Derived.BigQuiet
import Derived.Deep.QuietTactic
import Derived.Test.YtmdgkjbiicaljahGreatDoorJointReplMem
import Derived.BigRegion
import Derived.Deep.DeepCutAuto
set_option linter.unusedVariables false
set_option linter.unusedSimpArgs false
namespace Go.Proofs.YtmdgkjbiicaljahGreatDoor

def barAct (k c r p : Int) : ActM := ⟨k,c,r,p,0,⟨0,0,0,[]⟩⟩
def refused (x : Int) : List ActM := [barAct (11 + x) 0 0 0,barAct 2 3 0 0,barAct 4 0 3 0,barAct 6 0 0 (-1),barAct 1 (-1) 0 0]
theorem step_no {N : NetM} {a : ActM} {c : Int} (h : actP N a = (c,N)) : stepN N a = ⟨N.repls,N.slots,N.flying,N.custs,N.told,N.codes ++ [c]⟩ := by
 unfold stepN coded
 rw[h]
theorem bar0 (N : NetM) (x : Int) (hx : 0 ≤ x) : actP N (barAct (11 + x) 0 0 0) = (3,N) := by
 unfold actP barAct
 rw[if_neg (by simp only; omega),if_neg (by simp only; omega),if_neg (by simp only; omega)]
theorem bar1 (N : NetM) (h : N.custs.length = 3) : actP N (barAct 2 3 0 0) = (6,N) := by
 unfold actP barAct
 rw[if_pos (by simp)]
 unfold clientP
 rw[if_neg (by simp only; omega)]
theorem bar2 (N : NetM) : actP N (barAct 4 0 3 0) = (6,N) := by
 unfold actP barAct
 rw[if_neg (by simp),if_pos (by simp)]
 unfold replicaP
 rw[if_neg (by simp)]
theorem bar3 (N : NetM) : actP N (barAct 6 0 0 (-1)) = (6,N) := by
 unfold actP barAct
 rw[if_neg (by simp),if_neg (by simp),if_pos (by simp)]
 unfold messageP
 rw[if_neg (by simp)]
theorem bar4 (N : NetM) : actP N (barAct 1 (-1) 0 0) = (6,N) := by
 unfold actP barAct
 rw[if_pos (by simp)]
 unfold clientP
 rw[if_neg (by simp)]
theorem refused_run (N : NetM) (h : N.custs.length = 3) (x : Int) (hx : 0 ≤ x) : (refused x).foldl stepN N = ⟨N.repls,N.slots,N.flying,N.custs,N.told,N.codes ++ [3,6,6,6,6]⟩ := by
 unfold refused
 simp only[List.foldl_cons,List.foldl_nil]
 rw[step_no (bar0 N x hx)]
 rw[step_no (bar1 _ (by exact h))]
 rw[step_no (bar2 _),step_no (bar3 _),step_no (bar4 _)]
 simp
theorem refused_all (l : List ActM) (hl : l.length ≤ 900) (x : Int) (hx : 0 ≤ x) : runN 3 (l ++ refused x) = ⟨(runN 3 l).repls,(runN 3 l).slots,(runN 3 l).flying,(runN 3 l).custs,(runN 3 l).told,(runN 3 l).codes ++ [3,6,6,6,6]⟩ := by
 have ho:=run_ok 3 (by omega) (by omega) l (by omega)
 unfold runN at ho ⊢
 rw[List.foldl_append]
 exact refused_run _ ho.cl x hx

end Go.Proofs.YtmdgkjbiicaljahGreatDoor

/- A script copied; scripts that are refused whole; what a script that may be comes to. -/
namespace Go.Proofs.YtmdgkjbiicaljahGreatDoor
open Go.RowKit

theorem infoActs : Tryz.prog.info? 40 = some Tryz.t40 := by kernel_rfl
theorem zeroActsV : Tryz.t40.zero = some (.agg #[.int .i64 0, .int .i64 0, .int .i64 0, .int .i64 0, .int .i64 0, .int .i64 0, .int .i64 0, .int .i64 0, .string ⟨#[]⟩]) := by kernel_rfl
theorem sizeActs : Tryz.t40.size = 9 := by kernel_rfl
theorem bytesActs : Tryz.t40.bytes = 80 := by kernel_rfl
theorem actsRow_one (ps : List ActM) : ∀ u ∈ ps.flatMap actCells,u.oneCell' = true := by
 intro u hu
 obtain⟨p,hp,hu⟩:=List.mem_flatMap.1 hu
 simp only[actCells,List.mem_cons,List.not_mem_nil,or_false] at hu
 rcases hu with rfl | rfl | rfl | rfl | rfl | rfl | rfl | rfl | rfl <;> rfl
theorem rowOf_own {w : World} {base size : Nat} {e : TypeId} {v : Value} {n : Nat} {xs : List Value} (h : w.ownsRow base e size v n xs) (hl : xs.length = n * size) (hs : 0 < size) : RowAt w v n size xs := by
 obtain⟨a,c,rfl⟩:=own_formN h
 refine⟨a,c,rfl,hl,fun j u hj => ?_⟩
 have hlt:j < xs.length:=(List.getElem?_eq_some_iff.1 hj).1
 obtain⟨g,cap,e0,_,_,hc,_⟩:=own_cellN h hs j (by omega)
 simp only[Value.slice.injEq,true_and] at e0
 obtain⟨rfl,_⟩:=e0
 refine⟨_,rfl, ?_⟩
 rw[Go.WideShapes.add_plain,Nat.zero_add,hc]
 exact hj
theorem flat_actLen (l : List ActM) : (l.flatMap actCells).length = l.length * 9 := flat_len actCells 9 actCells_len l

set_option maxHeartbeats 2000000 in
theorem cloneActs_any (B : Nat) (l : List ActM) (v : Value) (w : World) (h : w.ownsRow B 40 9 v l.length (l.flatMap actCells)) (hl : l.length ≤ 1000) :
  Calls Tryz.prog 10 #[v] w fun e w' => ∃ v',e = .returned v' ∧ w'.ownsRow w.heap.size 40 9 v' l.length (l.flatMap actCells)∧Below w.heap.size w w' := by
 have HRW:Hid (RowAt w v l.length 9 (l.flatMap actCells)):=rowOf_own h (flat_actLen l) (by decide)
 have q23 : ∀ (w:World) (a:Option Addr) (n c n' c' : Nat),(binOp .eql 23 (.slice a n c) (.slice none n' c')).run Tryz.prog w = .ok (.bool a.isNone) w:=fun w a n c n' c' => Lib.run_eql_slice_nil w _ _ a n c n' c' Tryz.underlying23
 rcases h.2 with ⟨hv,hx⟩ | ⟨g,cap,cur,rfl,_⟩
 ·have HN:Hid (l.length=0):=by
   have q:=h
   obtain⟨a,c,e⟩:=own_formN q
   rw[hv] at e
   simp only[Value.slice.injEq] at e
   exact e.2.1.symm
  subst hv
  clear h hx
  go_enter Tryz.func10,Tryz.ntmps10
  go_wp2_with fail
  go_ret
  refine⟨_,rfl, ?_,Below.refl _ _⟩
  have:l = []:=List.eq_nil_of_length_eq_zero HN.out
  subst this
  exact World.ownsRow_nil _ _ _ _
 ·clear h
  go_enter Tryz.func10,Tryz.ntmps10
  go_wp2_with (at_builtin; refine wpList_append_row _ rfl _ _ 23 rfl w.heap.size 40 Tryz.t40 _ 9 80 Tryz.underlying23 infoActs zeroActsV sizeActs bytesActs rfl (by decide) _ 0 [] rfl (World.ownsRow_made w #[] 0 (Nat.le_refl _) (Nat.zero_le _) rfl) _ l.length (l.flatMap actCells) rfl (RowAt.below HRW.out (below_alloc w _)) (actsRow_one l) (by unfold maxLen; omega) (by omega) (by simp) ?_)
  intro v' w1 hown hgr hat
  have HO:Hid (w1.ownsRow w.heap.size 40 9 v' l.length (l.flatMap actCells)):=by
   have q:=hown
   try rw[Nat.zero_add] at q
   try rw[List.nil_append] at q
   exact q
  have HB:Hid (Below w.heap.size w w1):=((Below.refl _ w).alloc (Nat.le_refl _) _).grown hgr (by simp) (by intro k hk; simp[Value.ownBlock] at hk; omega)
  obtain⟨a9,c9,e9⟩:=own_formN HO.out
  subst e9
  clear hown hgr hat
  go_wp2_with fail
  go_ret
  exact⟨_,rfl,HO.out,HB.out⟩

/-- net.Run of a script that may be. -/
theorem netRun3 (S : List ActM) (v : Value) (w : World) (h : ActsAt w v S) (hS : S.length ≤ 300) :
  Calls Tryz.prog 9 #[.int .i64 3,v] w fun e w' => ∃ z1 d1 z2 d2 z3 d3 z4 d4 z5 n5 d5 z6 d6,e = .returned (.tuple #[.agg #[.slice z1 3 d1, .slice z2 3 d2, .slice z3 (runN 3 S).flying.length d3, .slice z4 3 d4, .slice z5 n5 d5, .slice z6 S.length d6], .int .i64 0]) ∧
   NetRows w' w.heap.size (runN 3 S) (.slice z1 3 d1) (.slice z2 3 d2) (.slice z3 (runN 3 S).flying.length d3) (.slice z4 3 d4) (.slice z5 n5 d5) (.slice z6 S.length d6)∧Below w.heap.size w w' := by
 refine (runGo_any 3 S _ w h).mono ?_
 rintro e w3 ⟨v3,rfl,hout,hb3⟩
 have hE:runE 3 S=0:=by unfold runE; rw[if_neg (by omega),if_neg (by omega)]
 have hO:runO 3 S=runN 3 S:=by unfold runO; rw[if_pos hE]; rfl
 rw[hE]
 rw[hO] at hout
 have hok:=run_ok 3 (by omega) (by omega) S (by omega)
 have hcd:(runN 3 S).codes.length=S.length:=by
  have key : ∀ (l:List ActM) (N:NetM),(l.foldl stepN N).codes.length=N.codes.length+l.length:=by
   intro l
   induction l with
   | nil=>intro N; rfl
   | cons a l ih =>
    intro N
    rw[List.foldl_cons,ih (stepN N a)]
    have:(stepN N a).codes.length=N.codes.length+1:=by
     unfold stepN coded
     simp[actP_codes]
    rw[this,List.length_cons]
    omega
  have:=key S (startN 3)
  unfold runN
  rw[this]
  simp[startN]
 obtain⟨vr,vs,vf,vc,vt,vk,rfl,hrow⟩:=hout
 obtain⟨z1,d1,rfl⟩:=hrow.r.form
 obtain⟨z2,d2,rfl⟩:=hrow.s.form
 obtain⟨z3,d3,rfl⟩:=hrow.f.form
 obtain⟨z4,d4,rfl⟩:=own_formN hrow.c
 obtain⟨z5,d5,rfl⟩:=own_formN hrow.t
 obtain⟨z6,d6,rfl⟩:=own_form hrow.k
 rw[hok.rl,hok.sl,hok.cl,hcd] at hrow ⊢
 exact⟨z1,d1,z2,d2,z3,d3,z4,d4,z5,_,d5,z6,d6,rfl,hrow,hb3⟩
/-- .. and of one that may not be. -/
theorem netRunNo (cl : Int) (S : List ActM) (c : Int) (v : Value) (w : World) (h : ActsAt w v S) (hc : runE cl S = c) (h0 : c ≠ 0) :
  Calls Tryz.prog 9 #[.int .i64 cl,v] w fun e w' => ∃ z1 d1 z2 d2 z3 d3 z4 d4 z5 d5 z6 d6,e = .returned (.tuple #[.agg #[.slice z1 0 d1, .slice z2 0 d2, .slice z3 0 d3, .slice z4 0 d4, .slice z5 0 d5, .slice z6 0 d6], .int .i64 c])∧Below w.heap.size w w' := by
 refine (runGo_any cl S _ w h).mono ?_
 rintro e w3 ⟨v3,rfl,hout,hb3⟩
 have hO:runO cl S=noneN:=by unfold runO; rw[if_neg (by rw[hc]; exact h0)]
 rw[hc]
 rw[hO] at hout
 obtain⟨vr,vs,vf,vc,vt,vk,rfl,hrow⟩:=hout
 obtain⟨z1,d1,rfl⟩:=hrow.r.form
 obtain⟨z2,d2,rfl⟩:=hrow.s.form
 obtain⟨z3,d3,rfl⟩:=hrow.f.form
 obtain⟨z4,d4,rfl⟩:=own_formN hrow.c
 obtain⟨z5,d5,rfl⟩:=own_formN hrow.t
 obtain⟨z6,d6,rfl⟩:=own_form hrow.k
 exact⟨z1,d1,z2,d2,z3,d3,z4,d4,z5,d5,z6,d6,rfl,hb3⟩

theorem acts_data (l : List RawM) (m : Nat) (cl : Int) : ∀ x ∈ actsOf l m cl,x.op.data.length ≤ 100 := by
 intro x hx
 unfold actsOf at hx
 obtain⟨r,_,rfl⟩:=List.mem_map.1 hx
 have hop : ∀ q:RawM,(opOf q).data.length≤100:=fun q=>by
  have:=(opMay_of _ (opOf_ok q)).2.2.2
  omega
 unfold actOf
 split
 ·exact hop _
 ·repeat (split; · simp)
  simp
theorem made_acts (n : Nat) : (madeCells #[.int .i64 0, .int .i64 0, .int .i64 0, .int .i64 0, .int .i64 0, .int .i64 0, .int .i64 0, .int .i64 0, .string ⟨#[]⟩] (n * 9)).toList = (List.replicate n zeroAct).flatMap actCells := by
 unfold madeCells
 apply List.ext_getElem
 ·rw[flat_len actCells 9 actCells_len]; simp
 ·intro i h1 h2
  have hi:i < n * 9:=by simpa using h1
  have e:i / 9 * 9+i % 9=i:=by omega
  have hq:i / 9 < n:=by omega
  have:=flat_get actCells 9 actCells_len (List.replicate n zeroAct) (i / 9) (i % 9) zeroAct (by simp[hq]) (by omega)
  rw[e,List.getElem?_eq_getElem h2] at this
  have h5:i % 9 < 9:=by omega
  have e2:=Option.some.inj (this.trans (List.getElem?_eq_getElem (l:=actCells zeroAct) (by rw[actCells_len]; exact h5)))
  rw[e2]
  simp[actCells,zeroAct]
  rw[List.getElem?_eq_getElem (by simpa using h5)]
  rfl

end Go.Proofs.YtmdgkjbiicaljahGreatDoor

/- A leader takes, another one hears of it, and the leader hears that: what it comes to. -/
namespace Go.Proofs.YtmdgkjbiicaljahGreatDoor

theorem may_fault {r : ReplM} (h : ReplMay r) : replFault r = 0 := by
 unfold replFault
 rw[if_pos ⟨h.me0,h.me1⟩]
 have e:(fours r && knowsIn r)=true:=by
  unfold fours knowsIn
  simp only[Bool.and_eq_true,beq_iff_eq,List.all_eq_true,decide_eq_true_eq]
  exact⟨⟨⟨h.hl,h.wl⟩,h.gl,h.nl⟩,fun x hx=>h.hav x hx,h.gives⟩
 rw[if_pos e]
 exact h.kept

end Go.Proofs.YtmdgkjbiicaljahGreatDoor

/- A replica of an outcome, as a loop over them reads it; codes that lie further behind. -/
namespace Go.Proofs.YtmdgkjbiicaljahGreatDoor
open Go.RowKit

theorem nrow_read {w : World} {B : Nat} {N : NetM} {z : Option Addr} {d : Nat} {vs vf vc vt vk : Value} (h : NetRows w B N (.slice z 3 d) vs vf vc vt vk) (h3 : N.repls.length = 3) (hmay : ∀ i,i < 3 → ReplMay (N.repl i)) (k : Nat) (hk : k < 3) :
  ∃ g al cl ah ch aw cw ag cg an cn,z=some ⟨g,0,none⟩∧(N.repl k).kept.log.length≤cl∧(∀ W,Below w.heap.size w W→Strs W (.slice al (N.repl k).kept.log.length cl) (N.repl k).kept.log) ∧
   (∀ W,Below w.heap.size w W→ReplAt W (.agg #[.int .i64 (N.repl k).me, .int .i64 (N.repl k).kept.view, .int .i64 (N.repl k).kept.normal, .bool (N.repl k).kept.calm, .slice al (N.repl k).kept.log.length cl, .int .i64 (N.repl k).kept.commit, .slice ah (N.repl k).hav.length ch, .slice aw (N.repl k).wants.length cw, .slice ag (N.repl k).gives.length cg, .slice an (N.repl k).given.length cn]) (N.repl k)) ∧
   (∀ j u,[.int .i64 (N.repl k).me, .int .i64 (N.repl k).kept.view, .int .i64 (N.repl k).kept.normal, .bool (N.repl k).kept.calm, .slice al (N.repl k).kept.log.length cl, .int .i64 (N.repl k).kept.commit, .slice ah (N.repl k).hav.length ch, .slice aw (N.repl k).wants.length cw, .slice ag (N.repl k).gives.length cg, .slice an (N.repl k).given.length cn][j]? = some u→w.cell? ⟨g,k * 10+j,none⟩=some u):=by
 obtain⟨g,cap,wl,wh,ww,wg,wn,ps,e,hg,hro,hcs⟩:=h.r.read k (by omega) (N.repl k) rfl
 rw[h3] at e
 simp only[Value.slice.injEq,true_and] at e
 obtain⟨rfl,ec⟩:=e
 clear ec
 obtain⟨al,cl,ah,ch,aw,cw,ag,cg,an,cn,rfl,rfl,rfl,rfl,rfl⟩:=hro.forms
 have hm:=hmay k hk
 have hf:=may_fits _ hm
 refine⟨g,al,cl,ah,ch,aw,cw,ag,cg,an,cn,rfl,own_cap hro.2.1,fun W hW=>(Strs.of_own hro.2.1 (by have:=hf.log.1; omega) hf.log.2).below hW,fun W hW=>(hro.at hf).below hW,fun j u hj => ?_⟩
 have hlt:j < 10:=(List.getElem?_eq_some_iff.1 hj).1
 have q:=(hcs j hlt).1
 rw[q]
 exact hj

/-- Codes at an address that is known. -/
def CodesAt (w : World) (v : Value) (x : List Int) : Prop := ∃ b o c,v = .slice (some ⟨b,o,none⟩) x.length c ∧ ∀ k,k < x.length → w.cell? ⟨b,o + k,none⟩ = some (.int .i64 (x.getD k 0))
theorem CodesAt.below {w w' : World} {v : Value} {x : List Int} (h : CodesAt w v x) (hb : Below w.heap.size w w') : CodesAt w' v x := by
 obtain⟨b,o,c,hv,hc⟩:=h
 exact⟨b,o,c,hv,fun k hk=>by rw[hb.cell (p:=⟨b,o+k,none⟩) (lt_of_cell (hc k hk))]; exact hc k hk⟩

set_option maxRecDepth 4000 in
set_option maxHeartbeats 2000000 in
theorem codesSame_any (x : List Int) (v v' : Value) (w : World) (hl : x.length ≤ 1000) (hx : CodesAt w v x) (hy : CodesAt w v' x) :
  Calls Tryz.prog 15 #[v,v'] w fun e w' => e = .returned (.bool true)∧Below w.heap.size w w' := by
 have HX:Hid (CodesAt w v x):=hx
 have HY:Hid (CodesAt w v' x):=hy
 obtain⟨b,o,c,rfl,_⟩:=hx
 obtain⟨b',o',c',rfl,_⟩:=hy
 go_enter Tryz.func15,Tryz.ntmps15
 go_wp2_with fail
 go_loopw [13] (fun i wr => ∃ k:Nat,k≤x.length∧i = .int .i64 k∧Below w.heap.size w wr) (fun i wr=>x.length - (intOf i).toNat)
 case atStart=>exact⟨0,by omega,rfl,Below.refl _ _⟩
 case round =>
  obtain⟨k,hk,rfl,hb⟩:=hrel
  have HB:Hid (Below w.heap.size w wr):=hb
  by_cases hlt:k < x.length
  ·obtain⟨b1,o1,c1,e1,hc1⟩:=HX.out.below HB.out
   obtain⟨b2,o2,c2,e2,hc2⟩:=HY.out.below HB.out
   simp only[Value.slice.injEq,Option.some.injEq,Addr.mk.injEq,and_true,true_and] at e1 e2
   obtain⟨⟨rfl,rfl⟩,rfl⟩:=e1
   obtain⟨⟨rfl,rfl⟩,rfl⟩:=e2
   have x0:=hc1 k hlt
   have y0:=hc2 k hlt
   have k0:(0:Int)≤(k:Int):=by omega
   have k1:(k:Int) < (x.length:Int):=by omega
   clear hb hc1 hc2
   generalize x.getD k 0=y at *
   go_wp2_with fail
   go_quiet (fail)
   go_wp2_with fail
   go_roundw
   case rel=>exact⟨k+1,by omega,by go_num,Below.far HB.out (below_drew_n _ _)⟩
   case measure=>simp[intOf]; omega
  ·clear hb
   go_wp2_with fail
   go_ret
   exact⟨rfl,HB.out⟩

end Go.Proofs.YtmdgkjbiicaljahGreatDoor

/- slices.Equal of lists of texts that are the same. -/
namespace Go.Proofs.YtmdgkjbiicaljahGreatDoor
open Go.RowKit
attribute [local go_sem] app_list ext_list get_list byteAt_zero

set_option maxRecDepth 4000 in
set_option maxHeartbeats 1000000 in
theorem equalStrs_same (x : List (List UInt8)) (v v' : Value) (w : World) (hx : Strs w v x) (hy : Strs w v' x) :
  Calls Tryz.prog 18 #[v,v'] w fun e w' => e = .returned (.bool true)∧Below w.heap.size w w' := by
 obtain⟨a,c,rfl,hlx,hcx⟩:=hx
 obtain⟨a',c',rfl,_,hcy⟩:=hy
 go_enter Tryz.func18,Tryz.ntmps18
 go_wp2_with fail
 go_loopw [13] (fun i wr => ∃ k:Nat,k≤x.length∧i = .int .i64 k∧Below w.heap.size w wr) (fun i wr=>x.length - (intOf i).toNat)
 case atStart=>exact⟨0,by omega,rfl,Below.refl _ _⟩
 case round =>
  obtain⟨k,hk,rfl,hbr⟩:=hrel
  have HBR:Hid (Below w.heap.size w wr):=hbr
  by_cases hlt:k < x.length
  ·obtain⟨b,o,rfl,h1,_⟩:=hcx k hlt
   obtain⟨b',o',rfl,h1',_⟩:=hcy k hlt
   have t0:=(HBR.out.cell (p:=⟨b,_,none⟩) (lt_of_cell h1)).trans h1
   have t1:=(HBR.out.cell (p:=⟨b',_,none⟩) (lt_of_cell h1')).trans h1'
   have k0:(0:Int)≤(k:Int):=by omega
   have k1:(k:Int) < (x.length:Int):=by omega
   clear hcx hcy h1 h1' hbr
   generalize x.getD k []=s at *
   go_wp2_with fail
   go_quiet (fail)
   go_wp2_with fail
   go_roundw
   case rel=>exact⟨k+1,by omega,by go_num,Below.far HBR.out (below_drew_n _ _)⟩
   case measure=>simp[intOf]; omega
  ·clear hcx hcy hbr
   go_wp2_with fail
   go_ret
   exact⟨rfl,HBR.out⟩

end Go.Proofs.YtmdgkjbiicaljahGreatDoor

/- The laws' own function same, of what is the same. -/
namespace Go.Proofs.YtmdgkjbiicaljahGreatDoor
open Go.RowKit
attribute [local go_sem] app_list ext_list get_list byteAt_zero

set_option maxRecDepth 4000 in
set_option maxHeartbeats 2000000 in
theorem same_same (K : KeptM) (v v' : Value) (w : World) (h : KeptAt w v K) (h' : KeptAt w v' K) :
  Calls Tryz.prog 14 #[v,v'] w fun e w' => e = .returned (.bool true)∧Below w.heap.size w w' := by
 obtain⟨vl,rfl,hs⟩:=h
 obtain⟨vl',rfl,hs'⟩:=h'
 obtain⟨vw,nm,cm,l,ct⟩:=K
 simp only at hs hs' ⊢
 have HE:Hid (∀ W,Below w.heap.size w W→Calls _ _ _ W _):=fun W hW=>equalStrs_same l _ _ W (hs.below hW) (hs'.below hW)
 obtain⟨a,c,rfl,hlx,hcx⟩:=hs
 obtain⟨a',c',rfl,_,hcy⟩:=hs'
 obtain⟨b0,b1,hb⟩:=boxes2 w 44 44 [.int .i64 vw, .int .i64 nm, .bool cm, .slice a l.length c, .int .i64 ct] [.int .i64 vw, .int .i64 nm, .bool cm, .slice a' l.length c', .int .i64 ct]
 obtain⟨w0,hw0⟩ : ∃ w0,w0=(w.alloc (.cells #[.int .i64 vw, .int .i64 nm, .bool cm, .slice a l.length c, .int .i64 ct] 44)).alloc (.cells #[.int .i64 vw, .int .i64 nm, .bool cm, .slice a' l.length c', .int .i64 ct] 44):=⟨_,rfl⟩
 clear hcx hcy
 go_enter Tryz.func14,Tryz.ntmps14
 go_upto_region 1 with fail
 rw[← hw0] at b0 b1 hb ⊢
 clear hw0
 obtain⟨x0,x1,x2,x3,x4⟩:=b0.c5
 obtain⟨y0,y1,y2,y3,y4⟩:=b1.c5
 have lb:=b1.lt
 have HBW:Hid (Below w.heap.size w w0):=hb
 have q1:(vw == vw)=true:=by simp
 have q2:(nm == nm)=true:=by simp
 have q3:(cm == cm)=true:=by simp
 have q4:(ct == ct)=true:=by simp
 clear b0 b1 hb
 go_wp2_with fail
 refine (HE.out _ HBW.out).mono ?_
 rintro e w1 ⟨rfl,hb1⟩
 have HB1:Hid (Below w.heap.size w w1):=Below.far HBW.out hb1
 clear hb1 HE x0 x1 x2 x3 x4 y0 y1 y2 y3 y4
 go_wp2_with fail
 go_ret
 exact⟨rfl,HB1.out⟩

end Go.Proofs.YtmdgkjbiicaljahGreatDoor
