/- The laws' own: a script of raw things is run. -/
import Derived.Test.YtjfnbnofjademaaGreatDoorNetActs
import Derived.Test.YtjfnbnofjademaaGreatDoorNetMath
set_option linter.unusedVariables false
set_option linter.unusedSimpArgs false
namespace Go.Proofs.YtjfnbnofjademaaGreatDoor
open Go.RowKit

theorem run_codes (n : Nat) : ∀ (l : List ActM) (N : NetM),(l.foldl stepN N).codes.length = N.codes.length + l.length
 | [],N=>rfl
 | a :: l,N=>by
  rw[List.foldl_cons,run_codes n l (stepN N a)]
  have:(stepN N a).codes.length=N.codes.length+1:=by
   unfold stepN coded
   simp[actP_codes]
  rw[this,List.length_cons]
  omega
theorem acts_in (l : List RawM) (m : Nat) (cl : Int) : (actsOf l m cl).length ≤ m ∧ ∀ x ∈ actsOf l m cl,x.op.data.length ≤ 100 := by
 refine⟨by unfold actsOf; rw[List.length_map,List.length_take]; omega,fun x hx => ?_⟩
 unfold actsOf at hx
 obtain⟨r,_,rfl⟩:=List.mem_map.1 hx
 have hop : ∀ q:RawM,(opOf q).data.length≤100:=fun q=>by
  have:=(opMay_of _ (opOf_ok q)).2.2.2
  omega
 unfold actOf
 split
 ·exact hop _
 ·repeat (split; · simp)
  simp

end Go.Proofs.YtjfnbnofjademaaGreatDoor

/- The laws' own: a script of raw things alone is run. -/
namespace Go.Proofs.YtjfnbnofjademaaGreatDoor
open Go.RowKit

end Go.Proofs.YtjfnbnofjademaaGreatDoor

/- What comes of scripts keeps what the protocol's mathematics asks: what is committed is the same wherever it is, and stays. -/
namespace Go.Proofs.YtjfnbnofjademaaGreatDoor

def keptsN (N : NetM) : Nat → KeptM := fun i => (N.repl i).kept
def givesN (N : NetM) : Nat → Nat → Option KeptM := fun i => gvOf (N.repl i)
def NetInv (g : Ghost) (N : NetM) : Prop := Inv g (keptsN N) (givesN N) N.flying
/-- A step of the whole: ghosts grow, and so does what is known to be committed. -/
def Grow (g : Ghost) (N N' : NetM) : Prop := ∃ g',Ext g g' ∧ NetInv g' N' ∧ ∀ j,(N.repl j).kept.commit ≤ (N'.repl j).kept.commit

theorem at_of {n t : Nat} {N : NetM} {g : Ghost} (h : NetOk n t N) (hI : NetInv g N) (i : Nat) (hi : i < 3) : At g (keptsN N) (givesN N) N.flying i (N.repl i) :=
 ⟨hI,hi,h.me i hi,rfl,rfl,(h.may i hi).gl,(h.may i hi).nl⟩
theorem grow_put {n t : Nat} {N N' : NetM} {g : Ghost} {i : Nat} {R : ReplM} {L : List MsgM} (h : NetOk n t N) (hx : Next g (keptsN N) (givesN N) N.flying i (N.repl i) R L) (hr : ∀ j,N'.repl j = if j = i then R else N.repl j) (hf : ∀ m ∈ N'.flying,m ∈ N.flying ++ L) : Grow g N N' := by
 obtain⟨g',e,a,c⟩:=hx
 refine⟨g',e, ?_,fun j => ?_⟩
 ·have e1:keptsN N' = upd (keptsN N) i R.kept:=by
   funext j
   unfold keptsN upd
   rw[hr]
   split <;> rfl
  have e2:givesN N' = upd (givesN N) i (gvOf R):=by
   funext j
   unfold givesN upd
   rw[hr]
   split <;> rfl
  unfold NetInv
  rw[e1,e2]
  exact a.inv.less fun m hm=>a.inv.msgs m (hf m hm)
 ·rw[hr]
  split
  ·rename_i e; rw[e]; exact c
  ·exact Int.le_refl _
theorem grow_same {N N' : NetM} {g : Ghost} (hI : NetInv g N) (hr : ∀ j,N'.repl j = N.repl j) (hf : ∀ m ∈ N'.flying,m ∈ N.flying) : Grow g N N' := by
 refine⟨g,Ext.refl g, ?_,fun j=>by rw[hr]; exact Int.le_refl _⟩
 have e1:keptsN N' = keptsN N:=by funext j; unfold keptsN; rw[hr]
 have e2:givesN N' = givesN N:=by funext j; unfold givesN; rw[hr]
 unfold NetInv
 rw[e1,e2]
 exact hI.less fun m hm=>hI.msgs m (hf m hm)
theorem forget_next {g : Ghost} {k : Nat → KeptM} {gv : Nat → Nat → Option KeptM} {M : List MsgM} {i0 : Nat} {r : ReplM} (h : At g k gv M i0 r) : Next g k gv M i0 r (forgot r) [] := by
 refine⟨g,Ext.refl g, ?_,Int.le_refl _⟩
 refine⟨?_,h.lt,h.me,upd_self ..,upd_self ..,rfl,rfl⟩
 rw[gvOf_forgot,List.append_nil]
 have e:upd k i0 (forgot r).kept=k:=upd_same _ _ _ h.kept
 rw[e]
 exact h.inv.forget i0 h.lt

theorem settle_grow {n t : Nat} {N : NetM} {g : Ghost} {i : Nat} {R : ReplM} {L : List MsgM} (h : NetOk n t N) (hi : i < 3) (hx : Next g (keptsN N) (givesN N) N.flying i (N.repl i) R L) (l : List MsgM) (hl : ∀ m ∈ l,m ∈ N.flying) : Grow g N (sentN (replN (storedN (flyN N l) i R) i R) L) := by
 have e : ∀ j,(storedN (flyN N l) i R).repl j=N.repl j∧(storedN (flyN N l) i R).repls.length=3∧(storedN (flyN N l) i R).flying=l:=fun j=>by
  unfold storedN
  split <;> exact⟨rfl,h.rl,rfl⟩
 refine grow_put h hx (fun j => ?_) fun m hm => ?_
 ·have:(sentN (replN (storedN (flyN N l) i R) i R) L).repl j=(replN (storedN (flyN N l) i R) i R).repl j:=rfl
  rw[this,repl_replN (by rw[(e 0).2.1]; exact hi)]
  split
  ·rfl
  ·exact (e j).1
 ·have:(sentN (replN (storedN (flyN N l) i R) i R) L).flying=(storedN (flyN N l) i R).flying ++ L.take (80 - (storedN (flyN N l) i R).flying.length):=rfl
  rw[this,(e 0).2.2] at hm
  rcases List.mem_append.1 hm with q | q
  ·exact List.mem_append_left _ (hl m q)
  ·exact List.mem_append_right _ (List.mem_of_mem_take q)
theorem newr_forgot {i : Nat} {hi : i < 3} {r : ReplM} (hm : r.me = i) (hk : keptFault r.kept = 0) : newrR i r.kept = forgot r := by
 rw[newrR_ok i hi _ hk]
 unfold forgot
 rw[hm]

theorem act_grow {n t : Nat} {N : NetM} {g : Ghost} (h : NetOk n t N) (ht : t ≤ 1000) (hI : NetInv g N) (a : ActM) : Grow g N (actP N a).2 := by
 have same:Grow g N N:=grow_same hI (fun _=>rfl) fun _ h=>h
 unfold actP
 split
 ·unfold clientP
  split
  ·split
   ·unfold askP
    simp only
    split
    ·exact same
    ·split
     ·exact same
     ·exact grow_same hI (fun _=>rfl) fun _ h=>h
   ·split
    ·exact same
    ·split
     ·rename_i hr
      have hr2:a.r.toNat < 3:=by omega
      split
      ·rename_i hl
       split
       ·unfold sendP settleP
        simp only
        split
        ·rename_i e
         have:=settle_grow h hr2 (R:=takeR (N.repl a.r.toNat) (entryB (N.cust a.c.toNat).wait)) (L:=takeL (N.repl a.r.toNat) (entryB (N.cust a.c.toNat).wait)) (g:=g) (by
          unfold takeR takeL
          rw[if_pos e,if_pos e]
          exact takeR_next (at_of h hI _ hr2) _ hl) N.flying fun _ h=>h
         exact this
        ·exact same
       ·unfold answerP
        simp only
        split
        ·exact same
        ·exact grow_same hI (fun _=>rfl) fun _ h=>h
      ·exact same
     ·exact same
  ·exact same
 split
 ·unfold replicaP
  split
  ·rename_i hr
   have hr2:a.r.toNat < 3:=by omega
   simp only
   split
   ·unfold settleP
    split
    ·rename_i e
     exact settle_grow h hr2 (R:=tickR (N.repl a.r.toNat)) (L:=tickL (N.repl a.r.toNat)) (g:=g) (by
      unfold tickR tickL
      rw[if_pos e,if_pos e]
      exact tick_next (at_of h hI _ hr2)) N.flying fun _ h=>h
    ·exact same
   split
   ·unfold settleP
    split
    ·rename_i e
     exact settle_grow h hr2 (R:=alarmR (N.repl a.r.toNat)) (L:=alarmL (N.repl a.r.toNat)) (g:=g) (by
      unfold alarmR alarmL
      rw[if_pos e,if_pos e]
      exact alarm_next (at_of h hI _ hr2)) N.flying fun _ h=>h
    ·exact same
   ·have e1:anewR N a.r.toNat=forgot (N.repl a.r.toNat):=by
     unfold anewR
     rw[(h.slot _ hr2).k]
     exact newr_forgot (hi:=hr2) (h.me _ hr2) (h.may _ hr2).kept
    refine grow_put h (forget_next (at_of h hI _ hr2)) (fun j => ?_) fun m hm=>List.mem_append_left _ hm
    unfold anewN
    rw[e1]
    exact repl_replN (by rw[h.rl]; exact hr2)
  ·exact same
 split
 ·unfold messageP
  split
  ·rename_i hk
   have hk2:a.k.toNat < N.flying.length:=by omega
   have hmm:=msg_mem hk2
   have hm:=h.fly _ hmm
   have hd:=msg_dst hm
   have hd2:(N.msg a.k.toNat).dst.toNat < 3:=by omega
   simp only
   split
   ·split
    ·exact same
    ·refine grow_same hI (fun _=>rfl) fun m hx => ?_
     rcases List.mem_append.1 hx with e | e
     ·exact e
     ·have:m=N.msg a.k.toNat:=by simpa using e
      rw[this]; exact hmm
   ·split
    ·exact same
    ·have sub : ∀ m ∈ N.flying.eraseIdx a.k.toNat,m ∈ N.flying:=fun m hx=>List.mem_of_mem_eraseIdx hx
     have less:Grow g N (flyN N (N.flying.eraseIdx a.k.toNat)):=grow_same hI (fun _=>rfl) sub
     have hear:hearE (N.repl (N.msg a.k.toNat).dst.toNat) (N.msg a.k.toNat)=0→Next g (keptsN N) (givesN N) N.flying (N.msg a.k.toNat).dst.toNat (N.repl (N.msg a.k.toNat).dst.toNat) (hearR' (N.repl (N.msg a.k.toNat).dst.toNat) (N.msg a.k.toNat)) (hearL' (N.repl (N.msg a.k.toNat).dst.toNat) (N.msg a.k.toNat)):=fun e=>by
      obtain⟨q1,q2,q3,q4,q5⟩:=hearE_of _ _ e
      exact hear_next (at_of h hI _ hd2) _ hmm hm q3 q4
     split
     ·unfold deliverP settleP
      simp only
      split
      ·rename_i e
       exact settle_grow h hd2 (R:=hearR (N.repl (N.msg a.k.toNat).dst.toNat) (N.msg a.k.toNat)) (L:=hearL (N.repl (N.msg a.k.toNat).dst.toNat) (N.msg a.k.toNat)) (g:=g) (by
        have e' : hearE (N.repl (N.msg a.k.toNat).dst.toNat) (N.msg a.k.toNat)=0:=e
        unfold hearR hearL
        rw[if_pos e',if_pos e']
        exact hear e') _ sub
      ·exact less
     split
     ·rename_i hf _ h10
      unfold fallP
      simp only
      split
      ·rename_i e
       have e' : hearE (N.repl (N.msg a.k.toNat).dst.toNat) (N.msg a.k.toNat)=0:=e
       have hu:0≤a.n:=by
        apply Classical.byContradiction
        intro hn
        exact hf ⟨h10,fun q=>hn q.1⟩
       have hR:=hearR_may _ _ e'
       have hs:=(store_ok (h.slot _ hd2) ht hR.kept a.n (by omega)).2.1
       have e2:hearR ((flyN N (N.flying.eraseIdx a.k.toNat)).repl (N.msg a.k.toNat).dst.toNat) (N.msg a.k.toNat)=hearR' (N.repl (N.msg a.k.toNat).dst.toNat) (N.msg a.k.toNat):=by
        show hearR (N.repl (N.msg a.k.toNat).dst.toNat) (N.msg a.k.toNat)=_
        unfold hearR
        rw[if_pos e']
       rw[e2]
       have hsl:(N.msg a.k.toNat).dst.toNat < (flyN N (N.flying.eraseIdx a.k.toNat)).slots.length:=by show _ < N.slots.length; rw[h.sl]; exact hd2
       rcases hs with hs | ⟨_,hs⟩
       ·have nx:=(hear e').seq fun g' k' gv' a' => (forget_next a' : Next g' k' gv' _ _ _ (forgot _) [])
        rw[List.append_nil] at nx
        refine grow_put h nx (fun j => ?_) fun m hx=>List.mem_append_left _ (sub m hx)
        unfold anewN anewR
        rw[slot_of hsl]
        have:(flyN N (N.flying.eraseIdx a.k.toNat)).slot (N.msg a.k.toNat).dst.toNat=N.slot (N.msg a.k.toNat).dst.toNat:=rfl
        rw[this,hs.k,newr_forgot (hi:=hd2) (by rw[hearR_me]; exact h.me _ hd2) hR.kept]
        exact repl_replN (N:=slotN (flyN N (N.flying.eraseIdx a.k.toNat)) _ _) (by show _ < N.repls.length; rw[h.rl]; exact hd2)
       ·refine grow_put h (forget_next (at_of h hI _ hd2)) (fun j => ?_) fun m hx=>List.mem_append_left _ (sub m hx)
        unfold anewN anewR
        rw[slot_of hsl]
        have:(flyN N (N.flying.eraseIdx a.k.toNat)).slot (N.msg a.k.toNat).dst.toNat=N.slot (N.msg a.k.toNat).dst.toNat:=rfl
        rw[this,hs.k,newr_forgot (hi:=hd2) (h.me _ hd2) (h.may _ hd2).kept]
        exact repl_replN (N:=slotN (flyN N (N.flying.eraseIdx a.k.toNat)) _ _) (by show _ < N.repls.length; rw[h.rl]; exact hd2)
      ·exact less
     ·exact less
  ·exact same
 ·exact same
theorem step_grow {n t : Nat} {N : NetM} {g : Ghost} (h : NetOk n t N) (ht : t ≤ 1000) (hI : NetInv g N) (a : ActM) : Grow g N (stepN N a) := act_grow h ht hI a

def ghost0 : Ghost := ⟨fun _ => [],fun _ => [],fun _ v => decide (v = 0),fun _ _ => 0⟩
theorem start_inv (n : Nat) (h1 : 1 ≤ n) (h4 : n ≤ 4) : NetInv ghost0 (startN n) := by
 have ok:=start_ok n h1 h4
 have hk : ∀ i,i < 3→(startN n).repl i=forgot ⟨i,freshK,[],[],[],[]⟩:=fun i hi=>by
  match i,hi with
  | 0,hi=>exact newrR_ok 0 hi freshK fresh_fault
  | 1,hi=>exact newrR_ok 1 hi freshK fresh_fault
  | 2,hi=>exact newrR_ok 2 hi freshK fresh_fault
 have hk2 : ∀ i,i < 3→keptsN (startN n) i=freshK:=fun i hi=>by unfold keptsN; rw[hk i hi]; rfl
 have gok:GhostOk ghost0:=by
  refine⟨fun i hi=>rfl,fun i v hi hv => ?_,fun v=>List.prefix_rfl,fun v hv=>rfl,fun v hv=>rfl⟩
  have:v=0:=by simpa [ghost0] using hv
  subst this
  exact⟨Int.le_refl _,Nat.le_refl _,Nat.le_refl _,rfl⟩
 refine⟨gok,fun i hi => ?_,fun w hw i j hi hj hij => ?_,fun w v hw hv i j hi hj hij => ?_,fun m hm=>by simp[startN] at hm,fun i hi hc j x hj hx => ?_,fun i hi hc x hx => ?_⟩
 ·rw[hk2 i hi]
  refine⟨Int.le_refl _,Int.le_refl _,fun _=>rfl,(fun e=>by cases e),rfl,rfl,Int.le_refl _,Int.le_refl _,cat_nil gok (Int.le_refl _),fun v hv => ?_⟩
  have:v=0:=by simpa [ghost0] using hv
  rw[this]; exact Int.le_refl _
 ·have:w=0:=by simpa [ghost0] using hw
  rw[hk2 i hi,this]
  exact Or.inl (Int.le_refl _)
 ·show ([]:List Ent).take _ <+: []
  simp
 ·rw[hk2 i hi] at hc
  cases hc
 ·rw[hk2 i hi] at hc
  cases hc

theorem Grow.trans {g : Ghost} {N N1 N2 : NetM} (h : Grow g N N1) (h2 : ∀ g',NetInv g' N1 → Grow g' N1 N2) : Grow g N N2 := by
 obtain⟨g1,e1,i1,c1⟩:=h
 obtain⟨g2,e2,i2,c2⟩:=h2 g1 i1
 exact⟨g2,e1.trans e2,i2,fun j=>Int.le_trans (c1 j) (c2 j)⟩
theorem fold_grow {n : Nat} : ∀ (l : List ActM) (t : Nat) (N : NetM) (g : Ghost),NetOk n t N → t + l.length ≤ 1000 → NetInv g N → Grow g N (l.foldl stepN N)
 | [],t,N,g,h,_,hI=>grow_same hI (fun _=>rfl) fun _ h=>h
 | a :: l,t,N,g,h,ht,hI=>by
  simp only[List.length_cons] at ht
  exact (step_grow h (by omega) hI a).trans fun g' i' => fold_grow l (t+1) _ g' (h.step (by omega) a) (by omega) i'
theorem run_inv (n : Nat) (h1 : 1 ≤ n) (h4 : n ≤ 4) (l : List ActM) (hl : l.length ≤ 1000) : ∃ g,NetInv g (runN n l) := by
 obtain⟨g,_,i,_⟩:=fold_grow l 0 _ _ (start_ok n h1 h4) (by omega) (start_inv n h1 h4)
 exact⟨g,i⟩
theorem runN_append (n : Nat) (l l' : List ActM) : runN n (l ++ l') = l'.foldl stepN (runN n l) := by
 unfold runN
 rw[List.foldl_append]

/-! ### What is committed. -/
def comL (r : ReplM) : List Ent := r.kept.log.take r.kept.commit.toNat
def commTo (N : NetM) : Nat → List Ent
 | 0 => []
 | i+1=>if (N.repl i).kept.commit > (commTo N i).length then comL (N.repl i) else commTo N i
def committed (N : NetM) : List Ent := commTo N 3
theorem comL_len {r : ReplM} (h : ReplMay r) : ((comL r).length : Int) = r.kept.commit := by
 have m:=keptMay_of _ h.kept
 have:=m.c0
 have:=m.c1
 unfold comL
 rw[List.length_take]
 omega
theorem comL_cat {n t : Nat} {N : NetM} {g : Ghost} (h : NetOk n t N) (hI : NetInv g N) (i : Nat) (hi : i < 3) : Cat g (N.repl i).kept.normal (comL (N.repl i)) := (hI.one i hi).cat
theorem commTo_is {n t : Nat} {N : NetM} (h : NetOk n t N) : ∀ k,k ≤ 3 → (commTo N k = [] ∨ ∃ i,i < 3 ∧ commTo N k = comL (N.repl i)) ∧ ∀ i,i < k → (N.repl i).kept.commit ≤ (commTo N k).length
 | 0,_=>⟨Or.inl rfl,fun i hi=>by omega⟩
 | k+1,hk=>by
  obtain⟨a,b⟩:=commTo_is h k (by omega)
  have hl:=comL_len (h.may k (by omega))
  unfold commTo
  split
  ·rename_i e
   refine⟨Or.inr ⟨k,by omega,rfl⟩,fun i hi => ?_⟩
   by_cases e2:i=k
   ·subst e2; omega
   ·have:=b i (by omega); omega
  ·rename_i e
   refine⟨a,fun i hi => ?_⟩
   by_cases e2:i=k
   ·subst e2; omega
   ·exact b i (by omega)
theorem committed_cat {n t : Nat} {N : NetM} {g : Ghost} (h : NetOk n t N) (hI : NetInv g N) : ∃ v,(∃ i,i < 3 ∧ v = (N.repl i).kept.normal) ∧ Cat g v (committed N) := by
 rcases (commTo_is h 3 (by omega)).1 with e | ⟨i,hi,e⟩
 ·refine⟨_,⟨0,by omega,rfl⟩, ?_⟩
  unfold committed
  rw[e]
  exact cat_nil hI.gh (hI.one 0 (by omega)).n0
 ·refine⟨_,⟨i,hi,rfl⟩, ?_⟩
  unfold committed
  rw[e]
  exact comL_cat h hI i hi
theorem prefix_of_len {l l' : List Ent} (h : l <+: l' ∨ l' <+: l) (hl : l.length ≤ l'.length) : l <+: l' := by
 rcases h with h | h
 ·exact h
 ·have:=h.eq_of_length (by have:=h.length_le; omega)
  rw[this]; exact List.prefix_rfl
/-- What is committed stays. -/
theorem committed_grow {n t t' : Nat} {N N' : NetM} {g : Ghost} (h : NetOk n t N) (h' : NetOk n t' N') (hI : NetInv g N) (hg : Grow g N N') : committed N <+: committed N' := by
 obtain⟨g',e,i',c⟩:=hg
 obtain⟨v,_,hc⟩:=committed_cat h hI
 obtain⟨v',_,hc'⟩:=committed_cat h' i'
 refine prefix_of_len (i'.comparable (cat_ext hI.gh e hc) hc') ?_
 rcases (commTo_is h 3 (by omega)).1 with q | ⟨i,hi,q⟩
 ·unfold committed
  rw[q]
  simp
 ·have a:=comL_len (h.may i hi)
  have b:=(commTo_is h' 3 (by omega)).2 i hi
  have d:=c i
  unfold committed
  rw[q]
  omega

end Go.Proofs.YtjfnbnofjademaaGreatDoor

/- The laws' own: committed entries, as far as any replica knows. -/
namespace Go.Proofs.YtjfnbnofjademaaGreatDoor
open Go.RowKit

/-- A slice that holds no more than it has room for. -/
def CapOk (v : Value) : Prop := ∃ a n c,v = .slice a n c ∧ n ≤ c
set_option maxRecDepth 4000 in
set_option maxHeartbeats 4000000 in
theorem committed_any (B : Nat) (N : NetM) (vr vs vf vc vt vk : Value) (w : World) (h : NetRows w B N vr vs vf vc vt vk) (h3 : N.repls.length = 3) (hmay : ∀ i,i < 3 → ReplMay (N.repl i)) :
  Calls Tryz.prog 10 #[.agg #[vr,vs,vf,vc,vt,vk]] w fun e w' => ∃ v',e = .returned v' ∧ Strs w' v' (committed N)∧CapOk v' ∧ Below w.heap.size w w' := by
 have HR:Hid (NetRows w B N vr vs vf vc vt vk):=h
 have HMY:Hid (∀ i,i < 3→ReplMay (N.repl i)):=hmay
 have H3:Hid (N.repls.length=3):=h3
 obtain⟨ar,cr,rfl⟩:=h.r.form
 have b0:=Box.new w 30 [.slice ar N.repls.length cr,vs,vf,vc,vt,vk]
 rw[h3] at b0 ⊢
 obtain⟨w0,hw0⟩ : ∃ w0,w0=w.alloc (.cells #[.slice ar 3 cr,vs,vf,vc,vt,vk] 30):=⟨_,rfl⟩
 have HB0:Hid (Below w.heap.size w w0):=by rw[hw0]; exact below_alloc _ _
 rw[← hw0] at b0
 obtain⟨x0,x1,x2,x3,x4,x5⟩:=b0.c6
 have HN0:Hid (Strs w0 (.slice none 0 0) (commTo N 0)):=⟨none,0,rfl,by simp[commTo],fun i hi=>absurd hi (by simp[commTo])⟩
 clear b0 h h3 hmay
 go_enter Tryz.func10,Tryz.ntmps10
 go_upto_region 1 with fail
 rw[← hw0]
 clear hw0
 go_wp2_with fail
 go_loopw [3,9] (fun v i wr => ∃ k:Nat,k≤3∧i = .int .i64 k∧Strs wr v (commTo N k)∧CapOk v∧Below w0.heap.size w0 wr) (fun _ i wr=>3 - (intOf i).toNat)
 case atStart=>exact⟨0,by omega,rfl,HN0.out,⟨none,0,0,rfl,Nat.le_refl _⟩,Below.refl _ _⟩
 case round =>
  obtain⟨k,hk,rfl,hs,hcp,hb⟩:=hrel
  obtain⟨ao,co,rfl,hso1,hso2⟩:=hs
  have HSO:Hid (Strs wr (.slice ao (commTo N k).length co) (commTo N k)):=⟨ao,co,rfl,hso1,hso2⟩
  have HCO:Hid (CapOk (.slice ao (commTo N k).length co)):=hcp
  have HB:Hid (Below w0.heap.size w0 wr):=hb
  clear hso1 hso2 hb hcp x0 x1 x2 x3 x4 x5
  by_cases hlt:k < 3
  ·have k0:(0:Int)≤(k:Int):=by omega
   have k1:(k:Int) < 3:=by omega
   have HK:Hid (k < 3):=hlt
   have HRW:Hid (NetRows wr B N _ vs vf vc vt vk):=(HR.out.below HB0.out).below HB.out
   obtain⟨g,cap,wl,wh,ww,wg,wn,ps,e,hg,hro,hcs⟩:=HRW.out.r.read k (by rw[H3.out]; exact hlt) (N.repl k) rfl
   rw[H3.out] at e
   simp only[Value.slice.injEq,true_and] at e
   obtain⟨rfl,ec⟩:=e
   clear ec
   obtain⟨al,cl,ah,ch,aw,cw,ag,cg,an,cn,rfl,rfl,rfl,rfl,rfl⟩:=hro.forms
   have hm:=HMY.out k hlt
   have hf:=may_fits _ hm
   obtain⟨R,hR⟩ : ∃ R,N.repl k=R:=⟨_,rfl⟩
   have HRE:Hid (N.repl k=R):=hR
   rw[hR] at hro hcs hm hf
   have hkm:=keptMay_of _ hm.kept
   obtain⟨ct,hct⟩ : ∃ ct:Nat,R.kept.commit=ct:=⟨R.kept.commit.toNat,by have:=hkm.c0; omega⟩
   have HCT:Hid (R.kept.commit=ct):=hct
   have hcl:ct≤R.kept.log.length:=by have:=hkm.c1; omega
   have hcap:R.kept.log.length≤cl:=own_cap hro.2.1
   have HSL:Hid (∀ W,Below wr.heap.size wr W→Strs W (.slice al ct cl) (comL R)):=fun W hW=>by
    have q:=((Strs.of_own hro.2.1 (by have:=hf.log.1; omega) hf.log.2).below hW).first ct hcl
    unfold comL
    rw[hct]
    exact q
   have t0:=(hcs 0 (by omega)).1
   have t1:=(hcs 1 (by omega)).1
   have t2:=(hcs 2 (by omega)).1
   have t3:=(hcs 3 (by omega)).1
   have t4:=(hcs 4 (by omega)).1
   have t5:=(hcs 5 (by omega)).1
   have t6:=(hcs 6 (by omega)).1
   have t7:=(hcs 7 (by omega)).1
   have t8:=(hcs 8 (by omega)).1
   have t9:=(hcs 9 (by omega)).1
   simp only[replCells,List.getElem?_cons_zero,List.getElem?_cons_succ,Nat.add_zero,hct] at t0 t1 t2 t3 t4 t5 t6 t7 t8 t9
   have b1:=Box.new wr 42 [.int .i64 R.me, .int .i64 R.kept.view, .int .i64 R.kept.normal, .bool R.kept.calm, .slice al R.kept.log.length cl, .int .i64 ct, .slice ah R.hav.length ch, .slice aw R.wants.length cw, .slice ag R.gives.length cg, .slice an R.given.length cn]
   obtain⟨w1,hw1⟩ : ∃ w1,w1=wr.alloc (.cells #[.int .i64 R.me, .int .i64 R.kept.view, .int .i64 R.kept.normal, .bool R.kept.calm, .slice al R.kept.log.length cl, .int .i64 ct, .slice ah R.hav.length ch, .slice aw R.wants.length cw, .slice ag R.gives.length cg, .slice an R.given.length cn] 42):=⟨_,rfl⟩
   have HB1:Hid (Below wr.heap.size wr w1):=by rw[hw1]; exact below_alloc _ _
   rw[← hw1] at b1
   have B1:Hid (Box w1 wr.heap.size 42 [.int .i64 R.me, .int .i64 R.kept.view, .int .i64 R.kept.normal, .bool R.kept.calm, .slice al R.kept.log.length cl, .int .i64 ct, .slice ah R.hav.length ch, .slice aw R.wants.length cw, .slice ag R.gives.length cg, .slice an R.given.length cn]):=b1
   obtain⟨rb,hrb⟩ : ∃ rb,wr.heap.size=rb:=⟨_,rfl⟩
   have HCL:Hid (ct≤cl):=Nat.le_trans hcl hcap
   clear hro hcs hm hf hR hkm hct hcl hcap b1 hg
   go_upto_region 5 with fail
   rw[← hw1]
   try rw[hrb]
   rw[hrb] at B1
   clear hw1 hrb t0 t1 t2 t3 t4 t5 t6 t7 t8 t9 hlt
   have hx:=B1.out
   have x4:=hx.cell 4 _ rfl
   have x5:=hx.cell 5 _ rfl
   clear hx
   have HN1:Hid (commTo N (k+1)=if (ct:Int) > (commTo N k).length then comL R else commTo N k):=by
    show (if (N.repl k).kept.commit > _ then _ else _)=_
    rw[HRE.out,HCT.out]
   by_cases hgt:(commTo N k).length < ct
   ·have q1:((commTo N k).length:Int) < (ct:Int):=by omega
    have p0:(0:Int)≤(ct:Int):=by omega
    have p1:(ct:Int)≤(cl:Int):=by have:=HCL.out; omega
    have HN2:Hid (commTo N (k+1)=comL R):=by rw[HN1.out,if_pos (by omega)]; rfl
    clear hgt
    go_wp2_with fail
    go_roundw
    case rel=>exact⟨k+1,by have:=HK.out; omega,by go_num,by rw[HN2.out]; exact HSL.out w1 HB1.out,⟨_,_,_,rfl,HCL.out⟩,Below.far HB.out HB1.out⟩
    case measure=>simp[intOf]; have:=HK.out; omega
   ·have q1 : ¬ ((commTo N k).length:Int) < (ct:Int):=by omega
    have HN2:Hid (commTo N (k+1)=commTo N k):=by rw[HN1.out,if_neg (by omega)]; rfl
    clear hgt
    go_wp2_with fail
    go_roundw
    case rel=>exact⟨k+1,by have:=HK.out; omega,by go_num,by rw[HN2.out]; exact HSO.out.below HB1.out,HCO.out,Below.far HB.out HB1.out⟩
    case measure=>simp[intOf]; have:=HK.out; omega
  ·obtain rfl:k=3:=by omega
   clear hlt hk
   rw[show ((3:Nat):Int)=3 from rfl]
   go_wp2_with fail
   go_ret
   exact⟨_,rfl,HSO.out,HCO.out,Below.far HB0.out HB.out⟩

end Go.Proofs.YtjfnbnofjademaaGreatDoor

/- Every entry is of a request that was asked for; what clients are told is what their requests come to; who asks behind an answer is done behind it. -/
namespace Go.Proofs.YtjfnbnofjademaaGreatDoor

def From (A : List ReqM) (l : List Ent) : Prop := ∀ s ∈ l,∃ q ∈ A,s = entryB q
theorem From.nil (A : List ReqM) : From A [] := fun s hs => by simp at hs
theorem From.more {A B : List ReqM} {l : List Ent} (h : From A l) : From (A ++ B) l := fun s hs => by
 obtain⟨q,hq,e⟩:=h s hs
 exact⟨q,List.mem_append_left _ hq,e⟩
theorem From.pre {A : List ReqM} {l l' : List Ent} (h : From A l) (hp : l' <+: l) : From A l' := fun s hs => h s (hp.subset hs)
def ReplFrom (A : List ReqM) (r : ReplM) : Prop := From A r.kept.log ∧ ∀ k ∈ r.gives,From A k.log
theorem ReplFrom.more {A B : List ReqM} {r : ReplM} (h : ReplFrom A r) : ReplFrom (A ++ B) r := ⟨h.1.more,fun k hk => (h.2 k hk).more⟩
theorem forgot_from {A : List ReqM} {r : ReplM} (h : From A r.kept.log) : ReplFrom A (forgot r) := ⟨h,fun k hk => by
 have:k=zeroKept:=by simpa [forgot] using hk
 subst this
 exact From.nil A⟩
theorem toAll_from {A : List ReqM} {r : ReplM} {k c : Int} {l : List Ent} (h : From A l) : ∀ m ∈ toAll r k c l,From A m.log := fun m hm => by
 rw[(mem_toAll hm).2.2.2]; exact h
theorem withGive_from {A : List ReqM} {r : ReplM} {i : Nat} {k : KeptM} (h : ReplFrom A r) (hk : From A k.log) : ReplFrom A (withGive r i k) := ⟨h.1,fun x hx => by
 rcases mem_set hx with e | e
 ·exact h.2 x e
 ·rw[e]; exact hk⟩
theorem bestLog_from {A : List ReqM} {r : ReplM} (h : ReplFrom A r) : From A (bestLog r) := getD_all (P := fun k : KeptM => From A k.log) h.2 (From.nil A) _
theorem beginR_from {A : List ReqM} {r : ReplM} (h : ReplFrom A r) : ReplFrom A (beginR r) := by
 unfold beginR
 split
 ·exact forgot_from (bestLog_from h)
 ·exact h
theorem beginL_from {A : List ReqM} {r : ReplM} (h : ReplFrom A r) : ∀ m ∈ beginL r,From A m.log := by
 unfold beginL
 split
 ·exact toAll_from (beginR_from h).1
 ·exact fun m hm=>by simp at hm
theorem wishR_from {A : List ReqM} {r : ReplM} (h : ReplFrom A r) (m : MsgM) : ReplFrom A (wishR r m) := by
 unfold wishR
 split
 ·exact⟨h.1,fun k hk=>by
   have:k=zeroKept:=by simpa [wantR] using hk
   subst this
   exact From.nil A⟩
 ·exact h
theorem wishL_from {A : List ReqM} (r : ReplM) (m : MsgM) : ∀ x ∈ wishL r m,From A x.log := by
 unfold wishL
 split
 ·exact toAll_from (From.nil A)
 ·exact fun m hm=>by simp at hm
theorem leadR_from {A : List ReqM} {r : ReplM} (h : ReplFrom A r) (m : MsgM) (hm : From A m.log) : ReplFrom A (leadR r m) := by
 have hk:From A (leadK r.kept m).log:=by
  unfold leadK
  split
  ·exact hm
  split
  ·exact hm
  ·exact h.1
 unfold leadR
 split
 ·exact forgot_from hk
 ·exact⟨hk,h.2⟩
theorem setWant_from {A : List ReqM} {r : ReplM} (h : ReplFrom A r) (i : Nat) : ReplFrom A ⟨r.me,r.kept,r.hav,r.wants.set i true,r.gives,r.given⟩ := h
theorem gaveR_from {A : List ReqM} {r : ReplM} (h : ReplFrom A r) (m : MsgM) (hm : From A m.log) : ReplFrom A (gaveR r m) := by
 unfold gaveR
 split
 ·exact withGive_from h hm
 ·exact withGive_from (withGive_from h h.1) hm
theorem wanted_from {A : List ReqM} {r : ReplM} (w : ReplFrom A r) (m : MsgM) : ReplFrom A (wantedR r m) ∧ ∀ x ∈ wantedL r m,From A x.log := by
 refine⟨?_,fun x e => ?_⟩
 ·unfold wantedR
  split
  ·exact w
  ·simp only
   split
   ·exact beginR_from (withGive_from (setWant_from w _) w.1)
   ·exact setWant_from w _
 ·unfold wantedL at e
  split at e
  ·simp at e
  ·simp only at e
   split at e
   ·have q:=beginL_from (withGive_from (A:=A) (r:=⟨r.me,r.kept,r.hav,r.wants.set m.frm.toNat true,r.gives,r.given⟩) (i:=r.me.toNat) (k:=ownK ⟨r.me,r.kept,r.hav,r.wants.set m.frm.toNat true,r.gives,r.given⟩) (setWant_from w _) w.1) x
    exact q e
   ·have e:x ∈ [(⟨4,r.me,r.kept.view.tmod 3,r.kept.view,r.kept.normal,r.kept.commit,0,r.kept.log⟩:MsgM)]:=e
    rw[List.mem_singleton.1 e]
    exact w.1
theorem give_from {A : List ReqM} {r : ReplM} (w : ReplFrom A r) (m : MsgM) (hm : From A m.log) : ReplFrom A (giveR r m) ∧ ∀ x ∈ giveL r m,From A x.log := by
 refine⟨?_,fun x e => ?_⟩
 ·unfold giveR
  split
  ·exact w
  ·exact beginR_from (gaveR_from w m hm)
 ·unfold giveL at e
  split at e
  ·simp at e
  ·exact beginL_from (gaveR_from w m hm) x e
theorem has_from {A : List ReqM} {r : ReplM} (h : ReplFrom A r) (m : MsgM) : ReplFrom A (hasR r m) ∧ ∀ x ∈ hasL r m,From A x.log := by
 have a:ReplFrom A (hasR r m):=by
  unfold hasR
  split <;> exact h
 refine⟨a,fun x hx => ?_⟩
 unfold hasL at hx
 split at hx
 ·split at hx
  ·exact toAll_from a.1 x hx
  ·simp at hx
 ·simp at hx
theorem hear_from {A : List ReqM} {r : ReplM} (h : ReplFrom A r) (m : MsgM) (hm : From A m.log) : ReplFrom A (hearR' r m) ∧ ∀ x ∈ hearL' r m,From A x.log := by
 have w:=wishR_from h m
 have wl:=wishL_from (A:=A) r m
 unfold hearR' hearL'
 by_cases k1:m.kind=1
 ·rw[if_pos k1,if_pos k1]
  refine⟨leadR_from h m hm,fun x hx => ?_⟩
  rw[List.mem_singleton.1 hx]
  exact From.nil A
 ·rw[if_neg k1,if_neg k1]
  by_cases k2:m.kind=2
  ·rw[if_pos k2,if_pos k2]
   exact has_from h m
  ·rw[if_neg k2,if_neg k2]
   by_cases k3:m.kind=3
   ·rw[if_pos k3,if_pos k3]
    refine⟨(wanted_from w m).1,fun x hx => ?_⟩
    rcases List.mem_append.1 hx with e | e
    ·exact wl x e
    ·exact (wanted_from w m).2 x e
   ·rw[if_neg k3,if_neg k3]
    refine⟨(give_from w m hm).1,fun x hx => ?_⟩
    rcases List.mem_append.1 hx with e | e
    ·exact wl x e
    ·exact (give_from w m hm).2 x e
theorem take_from {A : List ReqM} {r : ReplM} (h : ReplFrom A r) (q : ReqM) (hq : q ∈ A) : ReplFrom A (takeR' r (entryB q)) ∧ ∀ x ∈ ledBy (takeR' r (entryB q)),From A x.log := by
 have a:From A (takeR' r (entryB q)).kept.log:=fun s hs=>by
  rcases List.mem_append.1 hs with e | e
  ·exact h.1 s e
  ·exact⟨q,hq,by simpa using e⟩
 exact⟨⟨a,h.2⟩,toAll_from a⟩
theorem tick_from {A : List ReqM} {r : ReplM} (h : ReplFrom A r) : ReplFrom A (tickR' r) ∧ ∀ x ∈ tickL' r,From A x.log := by
 refine⟨by unfold tickR'; split <;> exact h, ?_⟩
 unfold tickL'
 split
 ·exact toAll_from h.1
 split
 ·intro x hx
  have:x=hasMsg r (r.kept.view.tmod 3):=by simpa using hx
  subst this
  exact From.nil A
 ·exact toAll_from (From.nil A)
theorem alarm_from {A : List ReqM} {r : ReplM} (h : ReplFrom A r) (v : Int) : ReplFrom A (wantR r v) ∧ ∀ x ∈ wantL r v,From A x.log :=
 ⟨⟨h.1,fun k hk=>by
  have:k=zeroKept:=by simpa [wantR] using hk
  subst this
  exact From.nil A⟩,toAll_from (From.nil A)⟩

/-- What was asked for. -/
def askOf (N : NetM) (a : ActM) : List ReqM := if a.kind = 1 ∧ (actP N a).1 = 0 then [⟨(N.cust a.c.toNat).id,(N.cust a.c.toNat).next,a.op⟩] else []

structure AskOk (n : Nat) (A : List ReqM) (N : NetM) : Prop where
 ok : ∀ q ∈ A,reqFault q=0
 one : ∀ q ∈ A,∀ q' ∈ A,q.client=q'.client→q.num=q'.num→q=q'
 next : ∀ i,i < n → ∀ q ∈ A,q.client=i+1→q.num < (N.cust i).next
 repl : ∀ i,i < 3→ReplFrom A (N.repl i)
 fly : ∀ m ∈ N.flying,From A m.log
 wait : ∀ i,i < n→(N.cust i).wait.num≠0→(N.cust i).wait ∈ A

theorem AskOk.same {n : Nat} {A : List ReqM} {N N' : NetM} (h : AskOk n A N) (hc : ∀ i,i < n → N'.cust i = N.cust i) (hr : ∀ i,i < 3 → ReplFrom A (N'.repl i)) (hf : ∀ m ∈ N'.flying,From A m.log) : AskOk n A N' :=
 ⟨h.ok,h.one,fun i hi=>by rw[hc i hi]; exact h.next i hi,hr,hf,fun i hi=>by rw[hc i hi]; exact h.wait i hi⟩
theorem AskOk.settle {n t : Nat} {A : List ReqM} {N : NetM} (h : AskOk n A N) (ho : NetOk n t N) {i : Nat} (hi : i < 3) {R : ReplM} {L : List MsgM} {e : Int} (hR : e = 0 → ReplFrom A R ∧ ∀ x ∈ L,From A x.log) (l : List MsgM) (hl : ∀ m ∈ l,m ∈ N.flying) : AskOk n A (settleP (flyN N l) i R L e).2 := by
 unfold settleP
 split
 ·rename_i e0
  obtain⟨r1,r2⟩:=hR e0
  have e : ∀ j,(storedN (flyN N l) i R).repl j=N.repl j∧(storedN (flyN N l) i R).repls.length=3∧(storedN (flyN N l) i R).flying=l∧(storedN (flyN N l) i R).custs=N.custs:=fun j=>by
   unfold storedN
   split <;> exact⟨rfl,ho.rl,rfl,rfl⟩
  refine h.same (fun j hj => ?_) (fun j hj => ?_) fun m hm => ?_
  ·show (storedN (flyN N l) i R).custs.getD j zeroCust=_
   rw[(e 0).2.2.2]
   rfl
  ·have:(sentN (replN (storedN (flyN N l) i R) i R) L).repl j=(replN (storedN (flyN N l) i R) i R).repl j:=rfl
   rw[this,repl_replN (by rw[(e 0).2.1]; exact hi)]
   split
   ·exact r1
   ·rw[(e j).1]; exact h.repl j hj
  ·have:(sentN (replN (storedN (flyN N l) i R) i R) L).flying=(storedN (flyN N l) i R).flying ++ L.take (80 - (storedN (flyN N l) i R).flying.length):=rfl
   rw[this,(e 0).2.2.1] at hm
   rcases List.mem_append.1 hm with q | q
   ·exact h.fly m (hl m q)
   ·exact r2 m (List.mem_of_mem_take q)
 ·exact h.same (fun _ _=>rfl) h.repl fun m hm=>h.fly m (hl m hm)
theorem AskOk.act {n t : Nat} {A : List ReqM} {N : NetM} (h : AskOk n A N) (ho : NetOk n t N) (ht : t ≤ 1000) (a : ActM) : AskOk n (A ++ askOf N a) (actP N a).2 := by
 by_cases k1:a.kind=1
 ·by_cases hc:0≤a.c∧a.c < N.custs.length
  ·have hc2:a.c.toNat < n:=by have:=ho.cl; omega
   have co:=ho.cust _ hc2
   have eP:actP N a=askP N a:=by
    unfold actP clientP
    rw[if_pos (Or.inl k1),if_pos hc,if_pos k1]
   by_cases hw:(N.cust a.c.toNat).wait.num≠0
   ·have e0:askP N a=(12,N):=by unfold askP; simp only; rw[if_pos hw]
    unfold askOf
    rw[eP,e0,if_neg (by rintro⟨_,x⟩; simp at x),List.append_nil]
    exact h
   ·by_cases hop:opFault a.op≠0
    ·have e0:askP N a=(opFault a.op,N):=by unfold askP; simp only; rw[if_neg hw,if_pos hop]
     unfold askOf
     rw[eP,e0,if_neg (by rintro⟨_,x⟩; exact hop x),List.append_nil]
     exact h
    ·have e0:askP N a=(0,custN N a.c.toNat ⟨(N.cust a.c.toNat).id,(N.cust a.c.toNat).next+1,⟨(N.cust a.c.toNat).id,(N.cust a.c.toNat).next,a.op⟩⟩):=by unfold askP; simp only; rw[if_neg hw,if_neg hop]
     unfold askOf
     rw[eP,e0,if_pos ⟨k1,rfl⟩]
     have hcu : ∀ j,(custN N a.c.toNat ⟨(N.cust a.c.toNat).id,(N.cust a.c.toNat).next+1,⟨(N.cust a.c.toNat).id,(N.cust a.c.toNat).next,a.op⟩⟩).cust j=if j=a.c.toNat then ⟨(N.cust a.c.toNat).id,(N.cust a.c.toNat).next+1,⟨(N.cust a.c.toNat).id,(N.cust a.c.toNat).next,a.op⟩⟩ else N.cust j:=fun j=>cust_custN (by rw[ho.cl]; exact hc2)
     have n0:=co.n0
     have n1:=co.n1
     have i1:=co.id
     have h4:=ho.n4
     have lt : ∀ q ∈ A,q.client=(N.cust a.c.toNat).id→q.num < (N.cust a.c.toNat).next:=fun q hq e=>h.next _ hc2 q hq (by rw[e,i1])
     refine⟨fun q hq => ?_,fun q hq q' hq' e1 e2 => ?_,fun i hi q hq e => ?_,fun i hi=>(h.repl i hi).more,fun m hm=>(h.fly m hm).more,fun i hi hw' => ?_⟩
     ·rcases List.mem_append.1 hq with e | e
      ·exact h.ok q e
      ·have:q=⟨(N.cust a.c.toNat).id,(N.cust a.c.toNat).next,a.op⟩:=by simpa using e
       subst this
       unfold reqFault
       rw[if_pos ⟨⟨by simp only; omega,by simp only; omega⟩,by simp only; omega,by simp only; omega⟩]
       simpa using hop
     ·rcases List.mem_append.1 hq with e | e
      ·rcases List.mem_append.1 hq' with e' | e'
       ·exact h.one q e q' e' e1 e2
       ·have:q' = ⟨(N.cust a.c.toNat).id,(N.cust a.c.toNat).next,a.op⟩:=by simpa using e'
        subst this
        have:=lt q e e1
        simp only at e2
        omega
      ·have:q=⟨(N.cust a.c.toNat).id,(N.cust a.c.toNat).next,a.op⟩:=by simpa using e
       subst this
       rcases List.mem_append.1 hq' with e' | e'
       ·have:=lt q' e' e1.symm
        simp only at e2
        omega
       ·have:q' = ⟨(N.cust a.c.toNat).id,(N.cust a.c.toNat).next,a.op⟩:=by simpa using e'
        exact this.symm
     ·rw[hcu]
      split
      ·rename_i ei
       subst ei
       simp only
       rcases List.mem_append.1 hq with e' | e'
       ·have:=lt q e' (by rw[e,i1]); omega
       ·have:q=⟨(N.cust a.c.toNat).id,(N.cust a.c.toNat).next,a.op⟩:=by simpa using e'
        subst this
        simp only
        omega
      ·rename_i ei
       rcases List.mem_append.1 hq with e' | e'
       ·exact h.next i hi q e' e
       ·have:q=⟨(N.cust a.c.toNat).id,(N.cust a.c.toNat).next,a.op⟩:=by simpa using e'
        subst this
        simp only at e
        omega
     ·rw[hcu] at hw' ⊢
      split at hw'
      ·rename_i ei
       rw[if_pos ei]
       simp
      ·rename_i ei
       rw[if_neg ei]
       exact List.mem_append_left _ (h.wait i hi hw')
  ·have e0:actP N a=(6,N):=by
    unfold actP clientP
    rw[if_pos (Or.inl k1),if_neg hc]
   unfold askOf
   rw[e0,if_neg (by rintro⟨_,x⟩; simp at x),List.append_nil]
   exact h
 ·have e0:askOf N a = []:=by unfold askOf; rw[if_neg (fun x=>k1 x.1)]
  rw[e0,List.append_nil]
  have sub : ∀ m ∈ N.flying,m ∈ N.flying:=fun _ h=>h
  unfold actP
  split
  ·unfold clientP
   split
   ·rename_i hc
    have hc2:a.c.toNat < n:=by have:=ho.cl; omega
    split
    ·exact h
    ·rename_i hw
     split
     ·rename_i hr
      have hr2:a.r.toNat < 3:=by omega
      split
      ·split
       ·unfold sendP
        refine h.settle ho hr2 (l:=N.flying) (fun e => ?_) sub
        unfold takeR takeL
        rw[if_pos e,if_pos e]
        exact take_from (h.repl _ hr2) _ (h.wait _ hc2 hw)
       ·unfold answerP
        simp only
        split
        ·exact h
        ·have hcu : ∀ j,(custN (toldN N ⟨(N.cust a.c.toNat).wait,(lastOf (N.repl a.r.toNat) (N.cust a.c.toNat)).rep⟩) a.c.toNat ⟨(N.cust a.c.toNat).id,(N.cust a.c.toNat).next,zeroReq⟩).cust j=if j=a.c.toNat then ⟨(N.cust a.c.toNat).id,(N.cust a.c.toNat).next,zeroReq⟩ else N.cust j:=fun j=>cust_custN (N:=toldN N _) (by show _ < N.custs.length; rw[ho.cl]; exact hc2)
         refine⟨h.ok,h.one,fun i hi q hq e => ?_,h.repl,h.fly,fun i hi hw' => ?_⟩
         ·rw[hcu]
          split
          ·rename_i ei
           rw[← ei]
           exact h.next i hi q hq e
          ·exact h.next i hi q hq e
         ·rw[hcu] at hw' ⊢
          split at hw'
          ·exact absurd rfl hw'
          ·rename_i ei
           rw[if_neg ei]
           exact h.wait i hi hw'
      ·exact h
     ·exact h
   ·exact h
  split
  ·unfold replicaP
   split
   ·rename_i hr
    have hr2:a.r.toNat < 3:=by omega
    simp only
    split
    ·refine h.settle ho hr2 (l:=N.flying) (fun e => ?_) sub
     unfold tickR tickL
     rw[if_pos e,if_pos e]
     exact tick_from (h.repl _ hr2)
    split
    ·refine h.settle ho hr2 (l:=N.flying) (fun e => ?_) sub
     unfold alarmR alarmL
     rw[if_pos e,if_pos e]
     exact alarm_from (h.repl _ hr2) _
    ·refine h.same (fun _ _=>rfl) (fun j hj => ?_) h.fly
     have e1:anewR N a.r.toNat=forgot (N.repl a.r.toNat):=by
      unfold anewR
      rw[(ho.slot _ hr2).k]
      exact newr_forgot (hi:=hr2) (ho.me _ hr2) (ho.may _ hr2).kept
     unfold anewN
     rw[repl_replN (by rw[ho.rl]; exact hr2),e1]
     split
     ·exact forgot_from (h.repl _ hr2).1
     ·exact h.repl j hj
   ·exact h
  split
  ·unfold messageP
   split
   ·rename_i hk
    have hk2:a.k.toNat < N.flying.length:=by omega
    have hmm:=msg_mem hk2
    have hm:=ho.fly _ hmm
    have hd:=msg_dst hm
    have hd2:(N.msg a.k.toNat).dst.toNat < 3:=by omega
    have hlog:=h.fly _ hmm
    simp only
    split
    ·split
     ·exact h
     ·refine h.same (fun _ _=>rfl) h.repl fun m hx => ?_
      rcases List.mem_append.1 hx with e | e
      ·exact h.fly m e
      ·have:m=N.msg a.k.toNat:=by simpa using e
       rw[this]; exact hlog
    ·split
     ·exact h
     ·rename_i hf
      have sub : ∀ m ∈ N.flying.eraseIdx a.k.toNat,m ∈ N.flying:=fun m hx=>List.mem_of_mem_eraseIdx hx
      have less:AskOk n A (flyN N (N.flying.eraseIdx a.k.toNat)):=h.same (fun _ _=>rfl) h.repl fun m hx=>h.fly m (sub m hx)
      have hear:=hear_from (h.repl _ hd2) _ hlog
      split
      ·unfold deliverP
       refine h.settle ho hd2 (fun e => ?_) _ sub
       unfold hearR hearL
       rw[if_pos e,if_pos e]
       exact hear
      split
      ·rename_i h10
       unfold fallP
       simp only
       split
       ·rename_i e
        have e' : hearE (N.repl (N.msg a.k.toNat).dst.toNat) (N.msg a.k.toNat)=0:=e
        have hu:0≤a.n:=by
         apply Classical.byContradiction
         intro hn
         exact hf ⟨h10,fun q=>hn q.1⟩
        have hR:=hearR_may _ _ e'
        have hs:=(store_ok (ho.slot _ hd2) ht hR.kept a.n (by omega)).2.1
        have e2:hearR ((flyN N (N.flying.eraseIdx a.k.toNat)).repl (N.msg a.k.toNat).dst.toNat) (N.msg a.k.toNat)=hearR' (N.repl (N.msg a.k.toNat).dst.toNat) (N.msg a.k.toNat):=by
         show hearR (N.repl (N.msg a.k.toNat).dst.toNat) (N.msg a.k.toNat)=_
         unfold hearR
         rw[if_pos e']
        have hsl:(N.msg a.k.toNat).dst.toNat < (flyN N (N.flying.eraseIdx a.k.toNat)).slots.length:=by show _ < N.slots.length; rw[ho.sl]; exact hd2
        refine less.same (fun _ _=>rfl) (fun j hj => ?_) less.fly
        unfold anewN anewR
        rw[slot_of hsl,e2,repl_replN (N:=slotN (flyN N (N.flying.eraseIdx a.k.toNat)) _ _) (by show _ < N.repls.length; rw[ho.rl]; exact hd2)]
        split
        ·have es:(flyN N (N.flying.eraseIdx a.k.toNat)).slot (N.msg a.k.toNat).dst.toNat=N.slot (N.msg a.k.toNat).dst.toNat:=rfl
         rw[es]
         rcases hs with hs | ⟨_,hs⟩
         ·rw[hs.k,newr_forgot (hi:=hd2) (by rw[hearR_me]; exact ho.me _ hd2) hR.kept]
          exact forgot_from hear.1.1
         ·rw[hs.k,newr_forgot (hi:=hd2) (ho.me _ hd2) (ho.may _ hd2).kept]
          exact forgot_from (h.repl _ hd2).1
        ·exact h.repl j hj
       ·exact less
      ·exact less
   ·exact h
  ·exact h
theorem AskOk.step {n t : Nat} {A : List ReqM} {N : NetM} (h : AskOk n A N) (ho : NetOk n t N) (ht : t ≤ 1000) (a : ActM) : AskOk n (A ++ askOf N a) (stepN N a) := by
 have q:=h.act ho ht a
 exact⟨q.ok,q.one,q.next,q.repl,q.fly,q.wait⟩

/-! ### What a state tells of the last request of a client. -/

/-! ### The place of a request among entries. -/

end Go.Proofs.YtjfnbnofjademaaGreatDoor
