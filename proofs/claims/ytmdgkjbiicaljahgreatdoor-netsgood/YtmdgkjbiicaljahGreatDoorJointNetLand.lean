/- slices.Delete of one message. -/
import Derived.Test.YtmdgkjbiicaljahGreatDoorNetSettle
set_option linter.unusedVariables false
set_option linter.unusedSimpArgs false
namespace Go.Proofs.YtmdgkjbiicaljahGreatDoor
open Go.RowKit

theorem own_prefix {w : World} {B size n cap : Nat} {e : TypeId} {a : Option Addr} {xs : List Value} (h : w.ownsRow B e size (.slice a n cap) n xs) (ha : a ≠ none) (k : Nat) (hk : k ≤ n) : w.ownsRow B e size (.slice a k cap) k (xs.take (k * size)) := by
 have hks:k * size≤n * size:=Nat.mul_le_mul_right _ hk
 refine⟨by rw[List.length_take,h.1]; exact Nat.min_eq_left hks, ?_⟩
 rcases h.2 with ⟨h1,_⟩ | ⟨g,cap',cur,hv,hb,hg,hn,hm,hc,hx⟩
 ·simp only[Value.slice.injEq] at h1
  exact absurd h1.1 ha
 ·simp only[Value.slice.injEq] at hv
  obtain⟨rfl,_,rfl⟩:=hv
  exact Or.inr ⟨g,cap,cur,rfl,hb,hg,by omega,hm,hc,by rw[← hx,List.take_take,Nat.min_eq_left hks]⟩
/-- What is spare is there, too. -/
theorem own_spare {w : World} {B size g n cap : Nat} {e : TypeId} {xs : List Value} (h : w.ownsRow B e size (.slice (some ⟨g,0,none⟩) n cap) n xs) (j : Nat) (hj : j < cap * size) : (w.cell? ⟨g,j,none⟩).isSome = true ∧ w.frozen? ⟨g,j,none⟩ = false := by
 rcases h.2 with ⟨h1,_⟩ | ⟨g',cap',cur,hv,hb,hg,hn,hm,hc,hx⟩
 ·cases h1
 ·cases hv
  simp[World.cell?,World.frozen?,hg,hc,hj]
theorem setCells_all (b : Nat) : ∀ (vs : List Value) (o : Nat) (w : World),w.setCells b o vs = setAll w b o vs
 | [],_,_=>rfl
 | v :: r,o,w=>setCells_all b r (o+1) _
theorem flat_drop {α : Type} (f : α → List Value) (s : Nat) (hf : ∀ x,(f x).length = s) : ∀ (l : List α) (k : Nat),(l.drop k).flatMap f = (l.flatMap f).drop (k * s)
 | l,0=>by simp
 | [],k+1=>by simp
 | x :: l,k+1=>by
  rw[List.drop_succ_cons,flat_drop f s hf l k,List.flatMap_cons,Nat.succ_mul,Nat.add_comm,← hf x,List.drop_append,List.drop_of_length_le (Nat.le_add_right _ _),Nat.add_sub_cancel_left]
  rfl
def zeroMsgCells : List Value := [.int .i64 0, .int .i64 0, .int .i64 0, .int .i64 0, .int .i64 0, .int .i64 0, .int .i64 0, .slice none 0 0]
theorem clear_one (w : World) (ty : TypeId) (g o c : Nat) (hs : ∀ j,j < 8 → (w.cell? ⟨g,o + j,none⟩).isSome = true ∧ w.frozen? ⟨g,o + j,none⟩ = false) :
  (Builtin.clear_ #[27] ty #[.slice (some ⟨g,o,none⟩) 1 c]).run Tryz.prog w = .ok (.tuple #[]) (w.setCells g o zeroMsgCells):=by
 have hz:=Tryz.zeroValue141
 have hzc:(Builtin.zeroCells (Value.agg #[.int .i64 0, .int .i64 0, .int .i64 0, .int .i64 0, .int .i64 0, .int .i64 0, .int .i64 0, .slice none 0 0]).cells 1).toList=zeroMsgCells:=by kernel_rfl
 have hst:=run_storeCells_cells (P:=Tryz.prog) g o zeroMsgCells 0 w (fun j hj=>by simpa using (hs j hj).1) (fun j hj=>by simpa using (hs j hj).2) (by decide)
 simp only[Nat.add_zero] at hst
 have hu:Tryz.prog.underlying 27=some (.slice 141):=Tryz.underlying27
 generalize zeroMsgCells=Z at *
 simp[Builtin.clear_,run_underlying hu,hz,hzc,hst]

theorem putAt_beyond : ∀ (cs xs : List Value) (k : Nat),xs.length ≤ k → putAt xs k cs = xs
 | [],_,_,_=>rfl
 | c :: cs,xs,k,h=>by
  unfold putAt
  rw[List.set_eq_of_length_le h]
  exact putAt_beyond cs xs (k+1) (by omega)
theorem setAll_same (b : Nat) : ∀ (xs : List Value) (w : World) (i : Nat),(setAll w b i xs).os = w.os ∧ (setAll w b i xs).tape = w.tape ∧ (setAll w b i xs).output = w.output
 | [],_,_=>⟨rfl,rfl,rfl⟩
 | x :: xs,w,i=>setAll_same b xs _ (i+1)

set_option maxRecDepth 4000 in
set_option maxHeartbeats 4000000 in
theorem deleteMsg_any (B i m g cap : Nat) (xs : List Value) (w : World) (h : w.ownsRow B 141 8 (.slice (some ⟨g,0,none⟩) (m + 1) cap) (m + 1) xs) (h1 : ∀ u ∈ xs,u.oneCell' = true) (hi : i ≤ m) (hm : m ≤ 1000) :
  Calls Tryz.prog 97 #[.slice (some ⟨g,0,none⟩) (m+1) cap, .int .i64 i, .int .i64 ((i:Int)+1)] w fun e w' => e = .returned (.slice (some ⟨g,0,none⟩) m cap)∧w'.ownsRow B 141 8 (.slice (some ⟨g,0,none⟩) m cap) m (xs.take (i * 8) ++ xs.drop ((i+1) * 8))∧w.grownBy w' (some g):=by
 have hcap:=own_cap h
 have hlen:xs.length=(m+1) * 8:=h.1
 have H:Hid (w.ownsRow B 141 8 (.slice (some ⟨g,0,none⟩) (m+1) cap) (m+1) xs):=h
 have H1:Hid (∀ u ∈ xs,u.oneCell' = true):=h1
 have HL:Hid (xs.length=(m+1) * 8):=hlen
 have k0:(0:Int)≤(i:Int):=by omega
 have k1:(i:Int)≤(i:Int)+1:=by omega
 have k2:(i:Int)+1≤((m+1:Nat):Int):=by omega
 have k3:((m+1:Nat):Int)≤(cap:Int):=by omega
 have k4:((i:Int) == (i:Int)+1)=false:=beq_eq_false_iff_ne.mpr (by omega)
 clear h h1 hlen
 go_enter Tryz.func97,Tryz.ntmps97
 go_upto_region 5 with fail
 by_cases hci:cap=i+1
 ·obtain rfl:i=m:=by omega
  subst hci
  refine wp_region_plan [0,0,0,0,0,0,1,1] (.free 0 (.done 1)) (by kernel_rfl) (by kernel_rfl) (fun h=>h) (Below w.heap.size w) (Below.refl _ _) (fun V n hV=>below_drewN n hV) fun n0 => ?_
  refine wpPlan_free (by kernel_rfl) ?_
  apply Exists.intro
  refine⟨?_, ?_⟩
  ·intro V hV
   simp only[sel,↓reduceIte,Nat.reduceEqDiff]
   repeat (go_big_quiet_step (fail))
   refine wpQuiet_nil ?_
   rfl
  intro n1
  refine wpPlan_done ?_
  simp only[sel,↓reduceIte,Nat.reduceEqDiff]
  obtain⟨w4,hw4⟩ : ∃ w4,w4=(w.drewN n0).drewN n1:=⟨_,rfl⟩
  have H4:Hid (w4.ownsRow B 141 8 (.slice (some ⟨g,0,none⟩) (i+1) (i+1)) (i+1) xs):=by rw[hw4]; exact own_drewN _ (own_drewN _ H.out)
  have HB4:Hid (w4.heap=w.heap∧w4.os=w.os∧w4.tape=w.tape∧w4.output=w.output):=by rw[hw4]; exact⟨rfl,rfl,rfl,rfl⟩
  rw[← hw4]
  clear hw4
  have hnl:(xs.drop ((i+1) * 8)).length=0 * 8:=by rw[List.length_drop,HL.out]; omega
  go_wp2_with (at_builtin; refine wpList_append_fits _ rfl _ _ 27 rfl B 141 Tryz.t141 8 Tryz.underlying27 infoMsg sizeMsg g i (i+1) (xs.take (i * 8)) rfl (own_prefix H4.out (by simp) i (by omega)) ⟨g,0,none⟩ 0 0 (xs.drop ((i+1) * 8)) rfl hnl (fun j u hu=>absurd (List.getElem?_eq_some_iff.1 hu).1 (by rw[hnl]; omega)) (fun u hu=>H1.out u (List.mem_of_mem_drop hu)) (by omega) ?_)
  intro w5 hown hgr
  have e:i+0=i:=by omega
  try simp only[e] at hown ⊢
  have HO5:Hid (w5.ownsRow B 141 8 (.slice (some ⟨g,0,none⟩) i (i+1)) i (xs.take (i * 8) ++ xs.drop ((i+1) * 8))):=hown
  have HG5:Hid (w4.grownBy w5 (some g)):=hgr
  have hcl : ∀ ty,(Builtin.clear_ #[27] ty #[.slice (some ⟨g,i * 8,none⟩) 1 1]).run Tryz.prog w5 = .ok (.tuple #[]) (w5.setCells g (i * 8) zeroMsgCells):=fun ty=>clear_one w5 ty g (i * 8) 1 fun j hj=>own_spare hown _ (by omega)
  have hcm : ¬ i+1=i:=by omega
  have k5:(0:Int)≤(i:Int):=by omega
  have k6:(i:Int)≤(i:Int)+1:=by omega
  have k7:(i:Int)+1≤((i+1:Nat):Int):=by omega
  clear hown hgr e
  go_wp2_with fail
  go_ret
  refine⟨rfl, ?_, ?_⟩
  ·rw[setCells_all]
   have q:=own_putAll zeroMsgCells w5 _ (i * 8) HO5.out
   rw[putAt_beyond _ _ _ (by rw[HO5.out.1]; omega)] at q
   exact q
  ·rw[setCells_all]
   refine⟨?_, ?_, ?_, ?_,fun k hk hne => ?_⟩
   ·rw[(setAll_same g zeroMsgCells w5 (i * 8)).1,HG5.out.os,HB4.out.2.1]
   ·rw[(setAll_same g zeroMsgCells w5 (i * 8)).2.1,HG5.out.tape,HB4.out.2.2.1]
   ·rw[(setAll_same g zeroMsgCells w5 (i * 8)).2.2,HG5.out.output,HB4.out.2.2.2]
   ·rw[setAll_size]
    have:=HG5.out.size
    rw[HB4.out.1] at this
    exact this
   ·rw[setAll_heap_other (fun e=>hne (by rw[e])),HG5.out.block k (by rw[HB4.out.1]; exact hk) hne,HB4.out.1]
 ·refine wp_region_plan [0,0,0,0,0,0,1,1] (.free 0 (.done 1)) (by kernel_rfl) (by kernel_rfl) (fun h=>h) (Below w.heap.size w) (Below.refl _ _) (fun V n hV=>below_drewN n hV) fun n0 => ?_
  refine wpPlan_free (by kernel_rfl) ?_
  apply Exists.intro
  refine⟨?_, ?_⟩
  ·intro V hV
   simp only[sel,↓reduceIte,Nat.reduceEqDiff]
   repeat (go_big_quiet_step (fail))
   refine wpQuiet_nil ?_
   rfl
  intro n1
  refine wpPlan_done ?_
  simp only[sel,↓reduceIte,Nat.reduceEqDiff]
  obtain⟨w4,hw4⟩ : ∃ w4,w4=(w.drewN n0).drewN n1:=⟨_,rfl⟩
  have H4:Hid (w4.ownsRow B 141 8 (.slice (some ⟨g,0,none⟩) (m+1) cap) (m+1) xs):=by rw[hw4]; exact own_drewN _ (own_drewN _ H.out)
  have HB4:Hid (w4.heap=w.heap∧w4.os=w.os∧w4.tape=w.tape∧w4.output=w.output):=by rw[hw4]; exact⟨rfl,rfl,rfl,rfl⟩
  rw[← hw4]
  clear hw4
  have hnl:(xs.drop ((i+1) * 8)).length=(m - i) * 8:=by rw[List.length_drop,HL.out]; omega
  go_wp2_with (at_builtin; refine wpList_append_fits _ rfl _ _ 27 rfl B 141 Tryz.t141 8 Tryz.underlying27 infoMsg sizeMsg g i cap (xs.take (i * 8)) rfl (own_prefix H4.out (by simp) i (by omega)) ⟨g,(i+1) * 8,none⟩ (m - i) (cap - (i+1)) (xs.drop ((i+1) * 8)) rfl hnl (fun j u hu=>by
   obtain⟨g',cap',hv,_,_,hc,_⟩:=own_cellN H4.out (by decide) ((i+1) * 8+j) (by have:=(List.getElem?_eq_some_iff.1 hu).1; omega)
   cases hv
   rw[Go.WideShapes.add_plain,hc,← hu,List.getElem?_drop]) (fun u hu=>H1.out u (List.mem_of_mem_drop hu)) (by omega) ?_)
  intro w5 hown hgr
  have e:i+(m - i)=m:=by omega
  try simp only[e] at hown ⊢
  have HO5:Hid (w5.ownsRow B 141 8 (.slice (some ⟨g,0,none⟩) m cap) m (xs.take (i * 8) ++ xs.drop ((i+1) * 8))):=hown
  have HG5:Hid (w4.grownBy w5 (some g)):=hgr
  have hcl : ∀ ty,(Builtin.clear_ #[27] ty #[.slice (some ⟨g,m * 8,none⟩) 1 (cap - m)]).run Tryz.prog w5 = .ok (.tuple #[]) (w5.setCells g (m * 8) zeroMsgCells):=fun ty=>clear_one w5 ty g (m * 8) (cap - m) fun j hj=>own_spare hown _ (by omega)
  have hcm : ¬ cap=m:=by omega
  have k5:(0:Int)≤(m:Int):=by omega
  have k6:(m:Int)≤(m:Int)+1:=by omega
  have k7:(m:Int)+1≤(cap:Int):=by omega
  clear hown hgr e
  go_wp2_with fail
  go_ret
  refine⟨rfl, ?_, ?_⟩
  ·rw[setCells_all]
   have q:=own_putAll zeroMsgCells w5 _ (m * 8) HO5.out
   rw[putAt_beyond _ _ _ (by rw[HO5.out.1]; omega)] at q
   exact q
  ·rw[setCells_all]
   refine⟨?_, ?_, ?_, ?_,fun k hk hne => ?_⟩
   ·rw[(setAll_same g zeroMsgCells w5 (m * 8)).1,HG5.out.os,HB4.out.2.1]
   ·rw[(setAll_same g zeroMsgCells w5 (m * 8)).2.1,HG5.out.tape,HB4.out.2.2.1]
   ·rw[(setAll_same g zeroMsgCells w5 (m * 8)).2.2,HG5.out.output,HB4.out.2.2.2]
   ·rw[setAll_size]
    have:=HG5.out.size
    rw[HB4.out.1] at this
    exact this
   ·rw[setAll_heap_other (fun e=>hne (by rw[e])),HG5.out.block k (by rw[HB4.out.1]; exact hk) hne,HB4.out.1]

end Go.Proofs.YtmdgkjbiicaljahGreatDoor

/- The program's own: a message is on its way no more. -/
namespace Go.Proofs.YtmdgkjbiicaljahGreatDoor
open Go.RowKit

theorem erase_flat (ps : List (MsgM × Value)) (k : Nat) : (ps.flatMap msgRow).take (k * 8) ++ (ps.flatMap msgRow).drop ((k + 1) * 8) = (ps.eraseIdx k).flatMap msgRow := by
 rw[List.eraseIdx_eq_take_drop_succ,List.flatMap_append,flat_take msgRow 8 msgRow_len,flat_drop msgRow 8 msgRow_len]

set_option maxRecDepth 4000 in
set_option maxHeartbeats 4000000 in
theorem land_any (B b k : Nat) (N : NetM) (w : World) (h : NetAt w B b N) (hB : B ≤ w.heap.size) (hBb : B ≤ b) (hk : k < N.flying.length) (hfl : N.flying.length ≤ 80) :
  Calls Tryz.prog 67 #[.pointer (some ⟨b,0,none⟩), .int .i64 k] w fun e w' => ∃ vl,e = .returned (.agg (msgCells (N.msg k) vl).toArray)∧NetAt w' B b (flyN N (N.flying.eraseIdx k))∧Goes w w' B b∧w'.ownsRow B 9 1 vl (N.msg k).log.length ((N.msg k).log.map enc):=by
 have HN:Hid (NetAt w B b N):=h
 obtain⟨vr,vsl,vf,vc,vt,vk,hx,hrows⟩:=h
 obtain⟨g,cap,vl,hvf,hg,hlog,hcs⟩:=hrows.f.read k hk (N.msg k) rfl
 obtain⟨ps,hps,hpo⟩:=hrows.f
 have hpl:ps.length=N.flying.length:=by rw[hps,List.length_map]
 obtain⟨m,hm⟩ : ∃ m,N.flying.length=m+1:=⟨N.flying.length - 1,by omega⟩
 rw[hm] at hvf
 subst hvf
 have HPO:Hid (MsgsOwn w B (.slice (some ⟨g,0,none⟩) (m+1) cap) ps):=hpo
 have HPS:Hid (N.flying=ps.map Prod.fst):=hps
 have HPL:Hid (ps.length=m+1):=by rw[← hm]; exact hpl
 have HKM:Hid (k≤m∧m≤1000):=⟨by omega,by omega⟩
 have HX:Hid (Box w b _ _):=hx
 have HR:Hid (NetRows w B N _ _ _ _ _ _):=hrows
 have HBB:Hid (B≤w.heap.size∧B≤b):=⟨hB,hBb⟩
 have b0:=Box.new w 141 [.int .i64 0, .int .i64 0, .int .i64 0, .int .i64 0, .int .i64 0, .int .i64 0, .int .i64 0, .slice none 0 0]
 obtain⟨al,cl,rfl⟩:=own_form hlog
 have HLG:Hid (w.ownsRow B 9 1 _ _ _):=hlog
 obtain⟨M,hM⟩ : ∃ M,N.msg k=M:=⟨_,rfl⟩
 rw[hM] at hcs HLG ⊢
 have HM:Hid (N.msg k=M):=hM
 have hb1:Below w.heap.size w _:=below_alloc w (.cells #[.int .i64 0, .int .i64 0, .int .i64 0, .int .i64 0, .int .i64 0, .int .i64 0, .int .i64 0, .slice none 0 0] 141)
 have x2:=(hx.below hb1 hx.lt).cell 2 _ rfl
 have ct : ∀ j,j < 8→(w.alloc (.cells #[.int .i64 0, .int .i64 0, .int .i64 0, .int .i64 0, .int .i64 0, .int .i64 0, .int .i64 0, .slice none 0 0] 141)).cell? ⟨g,k * 8+j,none⟩=(msgCells M (.slice al M.log.length cl))[j]? := fun j hj=>by
  have q:=(hcs j hj).1
  have hlt:j < (msgCells M (.slice al M.log.length cl)).length:=hj
  rw[List.getElem?_eq_getElem hlt] at q ⊢
  exact (hb1.cell (p:=⟨g,k * 8+j,none⟩) (lt_of_cell q)).trans q
 have t0:=ct 0 (by omega)
 have t1:=ct 1 (by omega)
 have t2:=ct 2 (by omega)
 have t3:=ct 3 (by omega)
 have t4:=ct 4 (by omega)
 have t5:=ct 5 (by omega)
 have t6:=ct 6 (by omega)
 have t7:=ct 7 (by omega)
 simp only[msgCells,List.getElem?_cons_zero,List.getElem?_cons_succ,Nat.add_zero] at t0 t1 t2 t3 t4 t5 t6 t7
 have k0:(0:Int)≤(k:Int):=by omega
 have k1:(k:Int) < ((m+1:Nat):Int):=by omega
 clear hx hrows hpo hps hpl hg hlog hcs ct hM hk hfl hm hb1
 go_enter Tryz.func67,Tryz.ntmps67
 go_upto_region 2 with fail
 clear t0 t1 t2 t3 t4 t5 t6 t7 x2
 obtain⟨c0,c1,hc⟩:=boxes2 w 141 141 [.int .i64 0, .int .i64 0, .int .i64 0, .int .i64 0, .int .i64 0, .int .i64 0, .int .i64 0, .slice none 0 0] [.int .i64 M.kind, .int .i64 M.frm, .int .i64 M.dst, .int .i64 M.view, .int .i64 M.normal, .int .i64 M.commit, .int .i64 M.n, .slice al M.log.length cl]
 obtain⟨w2,hw2⟩ : ∃ w2,w2=(w.alloc (.cells #[.int .i64 0, .int .i64 0, .int .i64 0, .int .i64 0, .int .i64 0, .int .i64 0, .int .i64 0, .slice none 0 0] 141)).alloc (.cells #[.int .i64 M.kind, .int .i64 M.frm, .int .i64 M.dst, .int .i64 M.view, .int .i64 M.normal, .int .i64 M.commit, .int .i64 M.n, .slice al M.log.length cl] 141):=⟨_,rfl⟩
 have H0:Hid (Box w2 w.heap.size 141 [.int .i64 0, .int .i64 0, .int .i64 0, .int .i64 0, .int .i64 0, .int .i64 0, .int .i64 0, .slice none 0 0]):=by rw[hw2]; exact c0
 have H1:Hid (Box w2 (w.heap.size+1) 141 [.int .i64 M.kind, .int .i64 M.frm, .int .i64 M.dst, .int .i64 M.view, .int .i64 M.normal, .int .i64 M.commit, .int .i64 M.n, .slice al M.log.length cl]):=by rw[hw2]; exact c1
 have HB2:Hid (Below w.heap.size w w2):=by rw[hw2]; exact hc
 rw[← hw2]
 clear hw2 c0 c1 hc
 have HX2:Hid (Box w2 b 87 [vr,vsl, .slice (some ⟨g,0,none⟩) (m+1) cap,vc,vt,vk]):=HX.out.below HB2.out HX.out.lt
 have HR2:Hid (NetRows w2 B N vr vsl (.slice (some ⟨g,0,none⟩) (m+1) cap) vc vt vk):=HR.out.below HB2.out
 have HP2:Hid (MsgsOwn w2 B (.slice (some ⟨g,0,none⟩) (m+1) cap) ps):=HPO.out.below HB2.out
 have bx:=HX2.out
 have x2:=bx.cell 2 _ rfl
 clear bx
 go_wp2_with fail
 rw[wrap64_as ((k:Int)+1) ⟨by have:=HKM.out; omega,by have:=HKM.out; omega⟩]
 have hdel:=deleteMsg_any B k m g cap (ps.flatMap msgRow) w2 (by have:=HP2.out.1; rw[HPL.out] at this; exact this) (msgs_one ps HP2.out.2) HKM.out.1 HKM.out.2
 rw[erase_flat] at hdel
 refine hdel.mono ?_
 rintro e w3 ⟨rfl,hown,hgr⟩
 have hgb:g < w.heap.size:=own_lt HPO.out.1 g rfl
 have HX3:Hid (Box w3 b 87 [vr,vsl, .slice (some ⟨g,0,none⟩) (m+1) cap,vc,vt,vk]):=HX2.out.grown hgr (own_type HP2.out.1 HX2.out (by decide))
 have HD:Hid (w3.ownsRow B 141 8 (.slice (some ⟨g,0,none⟩) m cap) m ((ps.eraseIdx k).flatMap msgRow)):=hown
 have HGR:Hid (w2.grownBy w3 (some g)):=hgr
 have H03:Hid (Box w3 w.heap.size 141 [.int .i64 0, .int .i64 0, .int .i64 0, .int .i64 0, .int .i64 0, .int .i64 0, .int .i64 0, .slice none 0 0]):=H0.out.grown hgr (by simp; omega)
 have H13:Hid (Box w3 (w.heap.size+1) 141 [.int .i64 M.kind, .int .i64 M.frm, .int .i64 M.dst, .int .i64 M.view, .int .i64 M.normal, .int .i64 M.commit, .int .i64 M.n, .slice al M.log.length cl]):=H1.out.grown hgr (by simp; omega)
 have HBN:Hid (b < w.heap.size):=HX.out.lt
 clear hown hgr hdel x2
 have bx:=HX3.out
 have x2:=bx.cell 2 _ rfl
 have f2:=bx.frozen 2
 clear bx
 go_upto_region 3 with fail
 have HE:Hid (NetAt (w3.setCell ⟨b,2,none⟩ (.slice (some ⟨g,0,none⟩) m cap)) B b (flyN N (N.flying.eraseIdx k))∧Goes w2 (w3.setCell ⟨b,2,none⟩ (.slice (some ⟨g,0,none⟩) m cap)) B b):=by
  obtain⟨q1,q2,q3⟩:=grown_goes (v' := .slice (some ⟨g,0,none⟩) m cap) (i:=2) HX2.out rfl HP2.out.1 HGR.out (Or.inl rfl) (Nat.le_trans HBB.out.1 HB2.out.size) HBB.out.2 (by decide) (by decide) (by decide)
  refine⟨⟨vr,vsl,_,vc,vt,vk,q1,HR2.out.r.stay q2 (by decide),HR2.out.s.stay q2 (by decide), ?_,HR2.out.c.stay q2 (by decide),HR2.out.t.stay q2 (by decide),HR2.out.k.stay q2 (by decide)⟩,q3⟩
  have hle:(ps.eraseIdx k).length=m:=by rw[List.length_eraseIdx,if_pos (by rw[HPL.out]; have:=HKM.out.1; omega),HPL.out]; omega
  refine⟨ps.eraseIdx k, ?_, ?_,fun p hp=>q2 _ _ _ _ _ _ (by decide) (HP2.out.2 p (List.mem_of_mem_eraseIdx hp))⟩
  ·show N.flying.eraseIdx k=_
   rw[HPS.out,List.eraseIdx_eq_take_drop_succ,List.eraseIdx_eq_take_drop_succ,List.map_append,List.map_take,List.map_drop]
  ·rw[hle]
   exact own_other HD.out (own_type HD.out HX3.out (by decide)) _
 obtain⟨w4,hw4⟩ : ∃ w4,w4=w3.setCell ⟨b,2,none⟩ (.slice (some ⟨g,0,none⟩) m cap):=⟨_,rfl⟩
 rw[← hw4] at HE ⊢
 have H04:Hid (Box w4 w.heap.size 141 [.int .i64 0, .int .i64 0, .int .i64 0, .int .i64 0, .int .i64 0, .int .i64 0, .int .i64 0, .slice none 0 0]):=by rw[hw4]; exact H03.out.other _ (by simp; have:=HBN.out; omega)
 have H14:Hid (Box w4 (w.heap.size+1) 141 [.int .i64 M.kind, .int .i64 M.frm, .int .i64 M.dst, .int .i64 M.view, .int .i64 M.normal, .int .i64 M.commit, .int .i64 M.n, .slice al M.log.length cl]):=by rw[hw4]; exact H13.out.other _ (by simp; have:=HBN.out; omega)
 clear hw4 x2 f2 H03 H13
 have h0:=H04.out
 have h1:=H14.out
 obtain⟨y0,y1,y2,y3,y4,y5,y6,y7⟩:=h0.c8
 obtain⟨f0,f1,f2,f3,f4,f5,f6,f7⟩:=h0.z8
 obtain⟨z0,z1,z2,z3,z4,z5,z6,z7⟩:=h1.c8
 clear h0 h1
 have HF:Hid (NetAt (setAll w4 w.heap.size 0 [.int .i64 M.kind, .int .i64 M.frm, .int .i64 M.dst, .int .i64 M.view, .int .i64 M.normal, .int .i64 M.commit, .int .i64 M.n, .slice al M.log.length cl]) B b (flyN N (N.flying.eraseIdx k))∧Goes w (setAll w4 w.heap.size 0 [.int .i64 M.kind, .int .i64 M.frm, .int .i64 M.dst, .int .i64 M.view, .int .i64 M.normal, .int .i64 M.commit, .int .i64 M.n, .slice al M.log.length cl]) B b∧Box (setAll w4 w.heap.size 0 [.int .i64 M.kind, .int .i64 M.frm, .int .i64 M.dst, .int .i64 M.view, .int .i64 M.normal, .int .i64 M.commit, .int .i64 M.n, .slice al M.log.length cl]) w.heap.size 141 [.int .i64 M.kind, .int .i64 M.frm, .int .i64 M.dst, .int .i64 M.view, .int .i64 M.normal, .int .i64 M.commit, .int .i64 M.n, .slice al M.log.length cl]):=by
  have hof:Off 87 w4 b w.heap.size:=(HE.out.2.leaves _ (net_off HN.out (Nat.le_refl _) HB2.out H0.out.lt)).1
  obtain⟨q1,q2,_⟩:=((Goes.of HX.out HBB.out.1 HB2.out).trans HE.out.2).loc HE.out.1 H04.out (Nat.le_refl _) HBB.out.1 hof (by decide) 0 [.int .i64 M.kind, .int .i64 M.frm, .int .i64 M.dst, .int .i64 M.view, .int .i64 M.normal, .int .i64 M.commit, .int .i64 M.n, .slice al M.log.length cl]
  exact⟨q1,q2,setAll_box H04.out _ rfl⟩
 have HLG4:Hid (w4.ownsRow B 9 1 (.slice al M.log.length cl) M.log.length (M.log.map enc)):=HE.out.2.keeps _ _ _ _ _ _ (Or.inl rfl) (own_below HLG.out HB2.out (own_lt HLG.out))
 have HLG5:Hid ((setAll w4 w.heap.size 0 [.int .i64 M.kind, .int .i64 M.frm, .int .i64 M.dst, .int .i64 M.view, .int .i64 M.normal, .int .i64 M.commit, .int .i64 M.n, .slice al M.log.length cl]).ownsRow B 9 1 (.slice al M.log.length cl) M.log.length (M.log.map enc)):=setAll_own _ _ _ HLG4.out (own_type HLG4.out H04.out (by decide))
 obtain⟨w5,hw5⟩ : ∃ w5,w5=setAll w4 w.heap.size 0 [.int .i64 M.kind, .int .i64 M.frm, .int .i64 M.dst, .int .i64 M.view, .int .i64 M.normal, .int .i64 M.commit, .int .i64 M.n, .slice al M.log.length cl]:=⟨_,rfl⟩
 rw[← hw5] at HF HLG5
 simp only[setAll] at hw5
 go_wp2_with fail
 rw[← hw5]
 clear hw5 y0 y1 y2 y3 y4 y5 y6 y7 z0 z1 z2 z3 z4 z5 z6 z7 f0 f1 f2 f3 f4 f5 f6 f7 H04 H14
 have h0:=HF.out.2.2
 obtain⟨y0,y1,y2,y3,y4,y5,y6,y7⟩:=h0.c8
 clear h0
 refine bodyPost_ret (v := .agg #[.int .i64 M.kind, .int .i64 M.frm, .int .i64 M.dst, .int .i64 M.view, .int .i64 M.normal, .int .i64 M.commit, .int .i64 M.n, .slice al M.log.length cl]) (by clear HF HLG5; simp[results,Tryz.results67,go_sem, *]) rfl ⟨.slice al M.log.length cl,rfl,HF.out.1,HF.out.2.1,HLG5.out⟩

end Go.Proofs.YtmdgkjbiicaljahGreatDoor
