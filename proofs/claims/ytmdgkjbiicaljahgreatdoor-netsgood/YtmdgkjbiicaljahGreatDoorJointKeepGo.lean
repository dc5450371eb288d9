/- The program's own: what a turn keeps of what is given. -/
import Derived.Test.YtmdgkjbiicaljahGreatDoorHearHs
set_option linter.unusedVariables false
set_option linter.unusedSimpArgs false
namespace Go.Proofs.YtmdgkjbiicaljahGreatDoor
open Go.RowKit

def betterK (a b : KeptM) : Bool := if a.normal = b.normal then decide (b.log.length < a.log.length) else decide (b.normal < a.normal)

set_option maxRecDepth 4000 in
set_option maxHeartbeats 4000000 in
theorem isBetter_any (X Y : KeptM) (u v : Value) (w : World) (hu : KeptAt w u X) (hv : KeptAt w v Y) :
  Calls Tryz.prog 145 #[u,v] w fun e w' => e = .returned (.bool (betterK X Y))∧Below w.heap.size w w' := by
 obtain⟨vl,rfl,⟨ak0,ck0,rfl,_,_⟩⟩:=hu
 obtain⟨vl,rfl,⟨ak1,ck1,rfl,_,_⟩⟩:=hv
 have HB:Hid (betterK X Y=if X.normal=Y.normal then decide (Y.log.length < X.log.length) else decide (Y.normal < X.normal)):=rfl
 generalize betterK X Y=BK at *
 obtain⟨b0,b1,hb⟩:=boxes2 w 44 44 [.int .i64 X.view, .int .i64 X.normal, .bool X.calm, .slice ak0 X.log.length ck0, .int .i64 X.commit] [.int .i64 Y.view, .int .i64 Y.normal, .bool Y.calm, .slice ak1 Y.log.length ck1, .int .i64 Y.commit]
 obtain⟨w0,hw0⟩ : ∃ w0,w0=(w.alloc (.cells #[.int .i64 X.view, .int .i64 X.normal, .bool X.calm, .slice ak0 X.log.length ck0, .int .i64 X.commit] 44)).alloc (.cells #[.int .i64 Y.view, .int .i64 Y.normal, .bool Y.calm, .slice ak1 Y.log.length ck1, .int .i64 Y.commit] 44):=⟨_,rfl⟩
 go_enter Tryz.func145,Tryz.ntmps145
 go_upto_region 1 with fail
 rw[← hw0] at b0 b1 hb ⊢
 clear hw0
 have HBW:Hid (Below w.heap.size w w0):=hb
 obtain⟨x0,x1,x2,x3,x4⟩:=b0.c5
 obtain⟨y0,y1,y2,y3,y4⟩:=b1.c5
 clear b0 b1 hb
 by_cases hn:X.normal=Y.normal
 ·have q:(X.normal != Y.normal)=false:=by simpa using hn
  have HX:Hid (BK=decide (Y.log.length < X.log.length)):=by unfold Hid; rw[HB.out,if_pos hn]
  clear HB hn
  go_wp2_with fail
  go_ret
  refine⟨?_,HBW.out⟩
  rw[HX.out]
  simp
 ·have q:(X.normal != Y.normal)=true:=by simpa using hn
  have HX:Hid (BK=decide (Y.normal < X.normal)):=by unfold Hid; rw[HB.out,if_neg hn]
  clear HB hn
  go_wp2_with fail
  go_ret
  exact⟨by rw[HX.out]; rfl,HBW.out⟩

/-- Those that are given. -/
def givenP {α : Type} : List α → List Bool → List α
 | x :: l,true :: g=>x :: givenP l g
 | x :: l,false :: g=>givenP l g
 | _,_ => []
theorem givenP_snoc {α : Type} : ∀ (l : List α) (g : List Bool) (x : α) (y : Bool),l.length = g.length → givenP (l ++ [x]) (g ++ [y]) = givenP l g ++ if y then [x] else []
 | [],[],x,y,_=>by cases y <;> rfl
 | a :: l,b :: g,x,y,h=>by
  have:=givenP_snoc l g x y (by simpa using h)
  cases b
  ·exact this
  ·show a :: givenP (l ++ [x]) (g ++ [y])=_
   rw[this]; rfl
theorem givenP_take {α : Type} (l : List α) (g : List Bool) (k : Nat) (hl : k < l.length) (hg : k < g.length) : givenP (l.take (k + 1)) (g.take (k + 1)) = givenP (l.take k) (g.take k) ++ if g[k] then [l[k]] else [] := by
 rw[List.take_succ_eq_append_getElem hl,List.take_succ_eq_append_getElem hg]
 exact givenP_snoc _ _ _ _ (by rw[List.length_take,List.length_take]; omega)
theorem givenP_mem {α : Type} : ∀ (l : List α) (g : List Bool) (x : α),x ∈ givenP l g → x ∈ l
 | [],_,x,h=>by simp[givenP] at h
 | a :: l,[],x,h=>by simp[givenP] at h
 | a :: l,true :: g,x,h=>by
  have h:x ∈ a :: givenP l g:=h
  rcases List.mem_cons.1 h with e | e
  ·simp[e]
  ·exact List.mem_cons_of_mem _ (givenP_mem l g x e)
 | a :: l,false :: g,x,h=>List.mem_cons_of_mem _ (givenP_mem l g x h)
theorem givenP_len {α : Type} : ∀ (l : List α) (g : List Bool),(givenP l g).length ≤ l.length
 | [],_=>by simp[givenP]
 | a :: l,[]=>by simp[givenP]
 | a :: l,true :: g=>by show (a :: givenP l g).length≤_; have:=givenP_len l g; simp; exact this
 | a :: l,false :: g=>Nat.le_succ_of_le (givenP_len l g)

set_option maxRecDepth 4000 in
set_option maxHeartbeats 4000000 in
theorem given_any (b B : Nat) (R : ReplM) (vl vh vw vg vn vs : Value) (ps : List (KeptM × Value)) (w : World) (hx : Box w b 169 [.int .i64 R.me, .int .i64 R.kept.view, .int .i64 R.kept.normal, .bool R.kept.calm,vl, .int .i64 R.kept.commit,vh,vw,vg,vn,vs]) (ho : ReplOwn w B R vl vh vw vg vn ps) (h3 : ps.length = 3) (h3' : R.given.length = 3) :
  Calls Tryz.prog 140 #[.pointer (some ⟨b,0,none⟩)] w fun e w' => ∃ v,e = .returned v∧w'.ownsRow w.heap.size 44 5 v (givenP ps R.given).length ((givenP ps R.given).flatMap keptRow)∧Below w.heap.size w w' := by
 have hgl:R.gives.length=3:=by rw[ho.1,List.length_map,h3]
 obtain⟨al,cl,ah,ch,aw,cw,ag,cg,an,cn,rfl,rfl,rfl,rfl,rfl⟩:=ho.forms
 have HX:Hid (Box w b _ _):=hx
 have HG:Hid (∀ k (hk:k < ps.length) j,j < 5 → ∃ g c,(Value.slice ag R.gives.length cg) = .slice (some ⟨g,0,none⟩) R.gives.length c∧w.cell? ⟨g,k * 5+j,none⟩=(keptRow ps[k])[j]?):=fun k hk j hj=>by
  obtain⟨g,c,hv,_,_,hc,_⟩:=own_cellN ho.2.2.2.2.1.1 (by decide) (k * 5+j) (by omega)
  refine⟨g,c,by rw[hv,hgl,h3], ?_⟩
  rw[hc,flat_get keptRow 5 keptRow_len ps k j ps[k] (List.getElem?_eq_getElem hk) hj]
 have HN:Hid (∀ k (hk:k < R.given.length),∃ g c,(Value.slice an R.given.length cn) = .slice (some ⟨g,0,none⟩) R.given.length c∧w.cell? ⟨g,k,none⟩=some (.bool R.given[k])):=fun k hk=>by
  obtain⟨g,c,hv,_,_,hc,_⟩:=own_cell ho.2.2.2.2.2.1 k (by omega)
  refine⟨g,c,hv, ?_⟩
  rw[hc]
  simp[encB,hk]
 have HL:Hid (ps.length=3∧R.given.length=3):=⟨h3,h3'⟩
 have HFM:Hid (∀ p ∈ ps,∃ a c,p.2 = .slice a p.1.log.length c):=fun p hp=>own_form (ho.2.2.2.2.1.2 p hp)
 rw[hgl,h3'] at hx
 rw[hgl] at HG
 have HN' : Hid (∀ k (hk:k < R.given.length),∃ g c,(Value.slice an 3 cn) = .slice (some ⟨g,0,none⟩) 3 c∧w.cell? ⟨g,k,none⟩=some (.bool R.given[k])):=fun k hk=>by
  have:=HN.out k hk
  rw[h3'] at this
  exact this
 have HX3:Hid (Box w b _ _):=hx
 obtain⟨x0,x1,x2,x3,x4,x5,x6,x7,x8,x9,x10⟩:=hx.c11
 clear hx ho h3 h3' hgl HX HN
 go_enter Tryz.func140,Tryz.ntmps140
 go_wp2_with fail
 go_loopw [3,12] (fun v i wr => ∃ k:Nat,k≤3∧i = .int .i64 k∧wr.ownsRow w.heap.size 44 5 v (givenP (ps.take k) (R.given.take k)).length ((givenP (ps.take k) (R.given.take k)).flatMap keptRow)∧Below w.heap.size w wr) (fun v i wr=>3 - (intOf i).toNat)
 case atStart=>exact⟨0,by omega,rfl,World.ownsRow_nil _ _ _ _,Below.refl _ _⟩
 case round =>
  obtain⟨k,hk,rfl,hown,hbr⟩:=hrel
  obtain⟨a3,c3,rfl⟩:=own_formN hown
  have HOW:Hid (wr.ownsRow _ _ _ _ _ _):=hown
  have HBR:Hid (Below w.heap.size w wr):=hbr
  have bx:=HX3.out.below hbr HX3.out.lt
  clear x0 x1 x2 x3 x4 x5 x6 x7 x8 x9 x10
  obtain⟨x0,x1,x2,x3,x4,x5,x6,x7,x8,x9,x10⟩:=bx.c11
  have lb:=bx.lt
  have HQ:Hid ((givenP (ps.take k) (R.given.take k)).length≤3):=Nat.le_trans (givenP_len _ _) (by rw[List.length_take]; omega)
  clear bx hown hbr
  by_cases hlt:k < 3
  ·have k0:(0:Int)≤(k:Int):=by omega
   have k1:(k:Int) < 3:=by omega
   have hkp:k < ps.length:=by rw[HL.out.1]; exact hlt
   have hkg:k < R.given.length:=by rw[HL.out.2]; exact hlt
   have ht:=givenP_take ps R.given k hkp hkg
   obtain⟨g,c,e1,d0⟩:=HG.out k hkp 0 (by omega)
   obtain⟨g1,c1,e2,d1⟩:=HG.out k hkp 1 (by omega)
   obtain⟨g2,c2,e3,d2⟩:=HG.out k hkp 2 (by omega)
   obtain⟨g3,c3',e4,d3⟩:=HG.out k hkp 3 (by omega)
   obtain⟨g4,c4,e5,d4⟩:=HG.out k hkp 4 (by omega)
   obtain⟨g5,c5,e6,d5⟩:=HN'.out k hkg
   simp only[Value.slice.injEq,true_and] at e1
   obtain⟨rfl,rfl⟩:=e1
   simp only[Value.slice.injEq,true_and,Option.some.injEq,Addr.mk.injEq,and_true] at e2 e3 e4 e5 e6
   obtain⟨rfl,rfl⟩:=e2
   obtain⟨rfl,rfl⟩:=e3
   obtain⟨rfl,rfl⟩:=e4
   obtain⟨rfl,rfl⟩:=e5
   obtain⟨rfl,rfl⟩:=e6
   have HKT:Hid (givenP (ps.take (k+1)) (R.given.take (k+1))=_):=ht
   obtain⟨p,hp⟩ : ∃ p,p=ps[k]:=⟨_,rfl⟩
   obtain⟨y,hy⟩ : ∃ y,y=R.given[k]:=⟨_,rfl⟩
   rw[← hp] at d0 d1 d2 d3 d4 HKT
   rw[← hy] at d5 HKT
   have hfm:=HFM.out p (by rw[hp]; exact List.getElem_mem hkp)
   clear hp hy ht
   obtain⟨⟨v1,n1,m1,l1,t1⟩,vk⟩:=p
   have hfm : ∃ a c,vk = .slice a l1.length c:=hfm
   obtain⟨a9,c9,rfl⟩:=hfm
   simp only[keptRow,keptCells,List.getElem?_cons_zero,List.getElem?_cons_succ] at d0 d1 d2 d3 d4
   have d0:=keep_cell9 HBR.out d0
   have d1:=keep_cell9 HBR.out d1
   have d2:=keep_cell9 HBR.out d2
   have d3:=keep_cell9 HBR.out d3
   have d4:=keep_cell9 HBR.out d4
   have d5:=keep_cell9 HBR.out d5
   rw[Nat.add_zero] at d0
   have lg:_ < wr.heap.size:=lt_of_cell d5
   cases y with
   | true =>
    simp only[↓reduceIte] at HKT
    go_upto_region 6 with fail
    go_wp2_with (at_builtin; refine wpList_append_row _ (by rfl) _ _ 47 (by rfl) w.heap.size 44 Tryz.t44 _ 5 56 Tryz.underlying47 infoKeptC zeroKeptC sizeKeptC bytesKeptC rfl (by decide) _ (givenP (ps.take k) (R.given.take k)).length ((givenP (ps.take k) (R.given.take k)).flatMap keptRow) (by rfl) ?_ _ 1 [.int .i64 v1, .int .i64 n1, .bool m1, .slice a9 l1.length c9, .int .i64 t1] (by rfl) ?_ ?_ ?_ ?_ ?_ ?_)
    ·exact own_below (own_below HOW.out (below_alloc _ _) (own_lt HOW.out)) (below_alloc _ _) (own_lt (own_below HOW.out (below_alloc _ _) (own_lt HOW.out)))
    ·have q:(wr.alloc (.cells #[.int .i64 v1, .int .i64 n1, .bool m1, .slice a9 l1.length c9, .int .i64 t1] 44)).heap.size=wr.heap.size+1:=by simp
     rw[← q]
     exact rowAt_box (cs := [.int .i64 v1, .int .i64 n1, .bool m1, .slice a9 l1.length c9, .int .i64 t1]) (Box.new _ _ _) 1 5 rfl
    ·simp[Value.oneCell']
    ·have:=HQ.out
     unfold maxLen
     omega
    ·have:=HQ.out
     omega
    ·have:=HBR.out.size
     omega
    intro v7 w7 hown7 hg7 hat7
    obtain⟨a7,c7,hv7⟩:=own_formN hown7
    subst hv7
    have HR7:Hid (w7.ownsRow w.heap.size 44 5 (.slice a7 ((givenP (ps.take k) (R.given.take k)).length+1) c7) (givenP (ps.take (k+1)) (R.given.take (k+1))).length ((givenP (ps.take (k+1)) (R.given.take (k+1))).flatMap keptRow)):=by
     rw[HKT.out,List.length_append,List.flatMap_append]
     exact hown7
    have HB7:Hid (Below w.heap.size w w7):=by
     have hBW:=HBR.out.size
     refine (Below.far (Below.far HBR.out (below_alloc wr (.cells #[.int .i64 v1, .int .i64 n1, .bool m1, .slice a9 l1.length c9, .int .i64 t1] 44))) (below_alloc _ (.cells #[.int .i64 v1, .int .i64 n1, .bool m1, .slice a9 l1.length c9, .int .i64 t1] 44))).trans ?_
     exact⟨hg7.os,hg7.tape,hg7.output,hg7.size,fun k2 hk2=>hg7.block k2 (by have:=hBW; simp; omega) (fun e=>by have:=own_ge HOW.out _ e.symm; omega)⟩
    clear HKT x0 x1 x2 x3 x4 x5 x6 x7 x8 x9 x10 hown7 hg7 hat7 d0 d1 d2 d3 d4 d5
    go_wp2_with fail
    go_roundw
    case rel=>exact⟨k+1,by omega,by go_num,HR7.out,HB7.out⟩
    case measure=>simp[intOf]; omega
   | false =>
    simp only[Bool.false_eq_true,↓reduceIte,List.append_nil] at HKT
    go_wp2_with fail
    have HB7:Hid (Below w.heap.size w (wr.alloc (.cells #[.int .i64 v1, .int .i64 n1, .bool m1, .slice a9 l1.length c9, .int .i64 t1] 44))):=Below.far HBR.out (below_alloc _ _)
    have HR7:Hid (World.ownsRow (wr.alloc (.cells #[.int .i64 v1, .int .i64 n1, .bool m1, .slice a9 l1.length c9, .int .i64 t1] 44)) w.heap.size 44 5 (.slice a3 (givenP (ps.take k) (R.given.take k)).length c3) (givenP (ps.take (k+1)) (R.given.take (k+1))).length ((givenP (ps.take (k+1)) (R.given.take (k+1))).flatMap keptRow)):=by
     rw[HKT.out]
     exact own_below HOW.out (below_alloc _ _) (own_lt HOW.out)
    clear HKT x0 x1 x2 x3 x4 x5 x6 x7 x8 x9 x10
    go_roundw
    case rel=>exact⟨k+1,by omega,by go_num,HR7.out,HB7.out⟩
    case measure=>simp[intOf]; omega
  ·obtain rfl:k=3:=by omega
   have HE:Hid (wr.ownsRow w.heap.size 44 5 (.slice a3 (givenP (ps.take 3) (R.given.take 3)).length c3) (givenP ps R.given).length ((givenP ps R.given).flatMap keptRow)):=by
    have:=HOW.out
    rw[List.take_of_length_le (by rw[HL.out.1]; omega),List.take_of_length_le (by rw[HL.out.2]; omega)] at this ⊢
    exact this
   clear x0 x1 x2 x3 x4 x5 x6 x7 x8 x9 x10 HOW
   go_wp2_with fail
   go_ret
   exact⟨_,rfl,HE.out,HBR.out⟩

end Go.Proofs.YtmdgkjbiicaljahGreatDoor

/- The program's own: keepGiven. -/
namespace Go.Proofs.YtmdgkjbiicaljahGreatDoor
open Go.RowKit

theorem own_putAll {base : Nat} {e : TypeId} {size g n cap : Nat} : ∀ (cs : List Value) (w : World) (xs : List Value) (k : Nat),w.ownsRow base e size (.slice (some ⟨g,0,none⟩) n cap) n xs → (setAll w g k cs).ownsRow base e size (.slice (some ⟨g,0,none⟩) n cap) n (putAt xs k cs)
 | [],_,_,_,h=>h
 | c :: cs,w,xs,k,h=>own_putAll cs _ _ (k+1) (own_set h k c)
theorem give_own {w : World} {B g cg gn cn i : Nat} {R : ReplM} {vl vh vw vk : Value} {ps : List (KeptM × Value)} {K : KeptM} (h : ReplOwn w B R vl vh vw (.slice (some ⟨g,0,none⟩) R.gives.length cg) (.slice (some ⟨gn,0,none⟩) R.given.length cn) ps) (hi : i < ps.length)
  (hk:w.ownsRow B 9 1 vk K.log.length (K.log.map enc)) (ha:Asunder vl vk) :
  ReplOwn ((setAll w g (i * 5) (keptCells K vk)).setCell ⟨gn,i,none⟩ (.bool true)) B (withGive R i K) vl vh vw (.slice (some ⟨g,0,none⟩) R.gives.length cg) (.slice (some ⟨gn,0,none⟩) R.given.length cn) (ps.set i (K,vk)):=by
 obtain⟨h0,h1,h2,h3,h4,h5,h6,h7⟩:=h
 have hl:R.gives.length=ps.length:=by rw[h0,List.length_map]
 rw[hl] at h4 ⊢
 have hne:g≠gn:=fun e=>own_types h4.1 h5 (by decide) (g:=gn) rfl (by rw[e]; rfl)
 -- rows of another type
 have o1 : ∀ (e:TypeId) (s:Nat) (v:Value) (n:Nat) (xs:List Value),44≠e→w.ownsRow B e s v n xs→(setAll w g (i * 5) (keptCells K vk)).ownsRow B e s v n xs:=fun e s v n xs he r=>setAll_own _ w _ r (fun q=>own_types r h4.1 (Ne.symm he) (g:=g) rfl q)
 have k4:(setAll w g (i * 5) (keptCells K vk)).ownsRow B 44 5 (.slice (some ⟨g,0,none⟩) ps.length cg) ps.length ((ps.set i (K,vk)).flatMap keptRow):=by
  rw[flat_set keptRow 5 keptRow_len ps i (K,vk) hi]
  exact own_putAll _ _ _ _ h4.1
 have k5:=o1 _ _ _ _ _ (by decide) h5
 have o2 : ∀ (e:TypeId) (s:Nat) (v:Value) (n:Nat) (xs:List Value),4≠e→(setAll w g (i * 5) (keptCells K vk)).ownsRow B e s v n xs→((setAll w g (i * 5) (keptCells K vk)).setCell ⟨gn,i,none⟩ (.bool true)).ownsRow B e s v n xs:=fun e s v n xs he r=>own_other (a:=⟨gn,i,none⟩) r (own_types r k5 (Ne.symm he) rfl) _
 refine⟨?_,o2 _ _ _ _ _ (by decide) (o1 _ _ _ _ _ (by decide) h1),o2 _ _ _ _ _ (by decide) (o1 _ _ _ _ _ (by decide) h2),own_other (o1 _ _ _ _ _ (by decide) h3) (fun e=>h6 gn e rfl) _,⟨?_,fun p hp => ?_⟩, ?_,h6,fun p hp => ?_⟩
 ·show R.gives.set i K=_
  rw[List.map_set,← h0]
 ·rw[List.length_set]
  exact o2 _ _ _ _ _ (by decide) k4
 ·rcases List.mem_or_eq_of_mem_set hp with q | q
  ·exact o2 _ _ _ _ _ (by decide) (o1 _ _ _ _ _ (by decide) (h4.2 p q))
  ·rw[q]
   exact o2 _ _ _ _ _ (by decide) (o1 _ _ _ _ _ (by decide) hk)
 ·show World.ownsRow _ _ _ _ _ (R.given.set i true).length ((R.given.set i true).map encB)
  rw[List.length_set,List.map_set]
  exact own_set k5 i (.bool true)
 ·rcases List.mem_or_eq_of_mem_set hp with q | q
  ·exact h7 p q
  ·rw[q]; exact ha

theorem setAll_beside_up {B b g : Nat} (hg : B ≤ g) : ∀ (xs : List Value) (u w : World) (i : Nat),Beside B b u w → Beside B b u (setAll w g i xs)
 | [],_,_,_,h=>h
 | x :: xs,u,w,i,h=>setAll_beside_up hg xs u _ (i+1) (h.setCell (Or.inr hg) x)
theorem Box.setAll_other {b g : Nat} {t : TypeId} {cs : List Value} (hne : b ≠ g) : ∀ (xs : List Value) (k : Nat) {w : World},Box w b t cs → Box (setAll w g k xs) b t cs
 | [],_,_,h=>h
 | x :: xs,k,_,h=>Box.setAll_other hne xs (k+1) (h.other _ hne)
theorem setAll_heap_other {g j : Nat} (hne : j ≠ g) : ∀ (xs : List Value) (w : World) (k : Nat),(setAll w g k xs).heap[j]? = w.heap[j]?
 | [],_,_=>rfl
 | x :: xs,w,k=>by
  show (setAll (w.setCell ⟨g,k,none⟩ x) g (k+1) xs).heap[j]? = _
  rw[setAll_heap_other hne xs,Below.heap_setCell _ _ _ _ hne]
theorem setAll_cell_other {g : Nat} (xs : List Value) (w : World) (k : Nat) {j i : Nat} (hne : j ≠ g) : (setAll w g k xs).cell? ⟨j,i,none⟩ = w.cell? ⟨j,i,none⟩ := by
 simp only[World.cell?,setAll_heap_other hne]
theorem setAll_frozen_other {g : Nat} (xs : List Value) (w : World) (k : Nat) {j i : Nat} (hne : j ≠ g) : (setAll w g k xs).frozen? ⟨j,i,none⟩ = w.frozen? ⟨j,i,none⟩ := by
 simp only[World.frozen?,setAll_heap_other hne]

set_option maxRecDepth 4000 in
set_option maxHeartbeats 8000000 in
theorem keepGiven_any (b B mi : Nat) (R : ReplM) (L : List MsgM) (K : KeptM) (u : Value) (w : World) (h : TurnAt w b B R L) (hm : KeptAt w u K) (hz : K.log.length * 16 ≤ 140737488355328) (hi : mi < 3) (h3 : R.gives.length = 3) (h3' : R.given.length = 3) (hB : B ≤ w.heap.size) :
  Calls Tryz.prog 127 #[.pointer (some ⟨b,0,none⟩), .int .i64 mi,u] w fun e w' => e = .returned (.tuple #[])∧TurnAt w' b B (withGive R mi K) L∧Beside B b w w' ∧ Leaves 169 b w w' := by
 have HKA:Hid (∀ W,Below w.heap.size w W→KeptAt W u K):=fun W hW=>hm.below hW
 obtain⟨vl,rfl,hs⟩:=hm
 obtain⟨ak,ck,rfl,_,_⟩:=hs
 have bm:=Box.new w 44 [.int .i64 K.view, .int .i64 K.normal, .bool K.calm, .slice ak K.log.length ck, .int .i64 K.commit]
 obtain⟨w0,hw0⟩ : ∃ w0,w0=w.alloc (.cells #[.int .i64 K.view, .int .i64 K.normal, .bool K.calm, .slice ak K.log.length ck, .int .i64 K.commit] 44):=⟨_,rfl⟩
 have hb0:Below w.heap.size w w0:=by rw[hw0]; exact below_alloc _ _
 have hs0:w0.heap.size=w.heap.size+1:=by rw[hw0]; simp
 have h0:=turn_below h hb0
 have HLV:Hid (Leaves 169 b w w0):=by
  obtain⟨_,_,_,_,_,_,_,hxw,_⟩:=h
  exact Leaves.below hxw hb0
 rw[← hw0] at bm
 have HB0:Hid (Below w.heap.size w w0):=hb0
 have HS0:Hid (w0.heap.size=w.heap.size+1):=hs0
 obtain⟨vl,vh,vw,vg,vn,vs,ps,hx,ho,hmn⟩:=h0
 obtain⟨al,cl,ah,ch,aw,cw,ag,cg,an,cn,rfl,rfl,rfl,rfl,rfl⟩:=ho.forms
 have hpl:ps.length=3:=by rw[← h3,ho.1,List.length_map]
 obtain⟨g,cg',hvg,hgB,_,_,_⟩:=own_cellN ho.2.2.2.2.1.1 (by decide) (mi * 5) (by omega)
 obtain⟨gn,cn',hvn,hgnB,_,_,_⟩:=own_cell ho.2.2.2.2.2.1 mi (by omega)
 simp only[Value.slice.injEq] at hvg hvn
 obtain⟨rfl,_,rfl⟩:=hvg
 obtain⟨rfl,_,rfl⟩:=hvn
 have HOL:Hid (∀ k,(Value.slice (some ⟨g,0,none⟩) R.gives.length cg).ownBlock=some k→k < w.heap.size):=fun k hk=>by
  obtain⟨_,_,_,_,vg',_,_,hxw,how,_⟩:=h
  have e:=(hxw.below hb0 hxw.lt).uniq hx
  simp only[List.cons.injEq,and_true,true_and] at e
  obtain⟨_,_,_,rfl,_,_⟩:=e
  exact own_lt how.2.2.2.2.1.1 k hk
 have HX:Hid (Box w0 b _ _):=hx
 have HBM:Hid (Box w0 w.heap.size _ _):=bm
 have HO:Hid (ReplOwn w0 B R _ _ _ _ _ _):=ho
 have HM:Hid (MsgsNew w0 B vs L):=hmn
 have HPL:Hid (ps.length=3∧R.gives.length=3∧R.given.length=3):=⟨hpl,h3,h3'⟩
 have k0:(0:Int)≤(mi:Int):=by omega
 have k1:(mi:Int) < (R.gives.length:Int):=by omega
 have k2:(mi:Int) < (R.given.length:Int):=by omega
 clear hx ho hmn bm h hb0 hs0 hpl h3 h3'
 go_enter Tryz.func127,Tryz.ntmps127
 go_upto_region 1 with fail
 rw[← hw0]
 clear hw0
 refine wp_region_free [0,0,0,0,0,0,0,0,0,0,0,0,0,1,1,1,2,2] (by kernel_rfl) (by kernel_rfl) (fun h=>h) (fun V=>Box V b 169 [.int .i64 R.me, .int .i64 R.kept.view, .int .i64 R.kept.normal, .bool R.kept.calm, .slice al R.kept.log.length cl, .int .i64 R.kept.commit, .slice ah R.hav.length ch, .slice aw R.wants.length cw, .slice (some ⟨g,0,none⟩) R.gives.length cg, .slice (some ⟨gn,0,none⟩) R.given.length cn,vs]∧Box V w.heap.size 44 [.int .i64 K.view, .int .i64 K.normal, .bool K.calm, .slice ak K.log.length ck, .int .i64 K.commit]) ⟨HX.out,HBM.out⟩ (fun V n hV=>hV) ?_
 apply Exists.intro
 refine⟨?_, ?_⟩
 ·intro V hV
  have bx:=hV.1
  have by' := hV.2
  obtain⟨x0,x1,x2,x3,x4,x5,x6,x7,x8,x9,x10⟩:=bx.c11
  obtain⟨y0,y1,y2,y3,y4⟩:=by'.c5
  simp only[sel,↓reduceIte,Nat.reduceEqDiff]
  repeat (go_big_quiet_step (fail))
  refine wpQuiet_nil ?_
  rfl
 ·intro n
  simp only[sel,↓reduceIte,Nat.reduceEqDiff]
  refine wpEarly_cons ?_
  go_wp2_with fail
  refine (stageCopy_any K _ (w0.drewN n) (HKA.out _ (below_drewN n HB0.out)) hz).mono ?_
  rintro e w2 ⟨v2,rfl,hn2,hb2⟩
  obtain⟨vk,rfl,hk2⟩:=hn2
  obtain⟨a2,c2,rfl⟩:=own_form hk2
  have hbw:Below w0.heap.size w0 w2:=⟨hb2.os,hb2.tape,hb2.output,hb2.size,hb2.block⟩
  have HB2:Hid (Below w0.heap.size w0 w2):=hbw
  have HK2:Hid (w2.ownsRow w0.heap.size _ _ _ _ _):=hk2
  have HO2:Hid (ReplOwn w2 B R _ _ _ _ _ _):=HO.out.below hbw
  have HX2:Hid (Box w2 b _ _):=HX.out.below hbw HX.out.lt
  have HBM2:Hid (Box w2 w.heap.size _ _):=HBM.out.below hbw HBM.out.lt
  clear hk2 hb2
  go_wp2_with fail
  refine wpEarly_next ⟨HX2.out,HBM2.out⟩ fun m => ?_
  refine wpEarly_cons ?_
  clear hbw
  have hg5 : ∀ j,j < 5→(∃ x,w2.cell? ⟨g,mi * 5+j,none⟩=some x)∧w2.frozen? ⟨g,mi * 5+j,none⟩=false:=fun j hj=>by
   have hpl:=HPL.out.1
   obtain⟨g',c',hv,_,_,hc,hf⟩:=own_cellN HO2.out.2.2.2.2.1.1 (by decide) (mi * 5+j) (by omega)
   simp only[Value.slice.injEq,Option.some.injEq,Addr.mk.injEq,and_true] at hv
   obtain⟨rfl,_,_⟩:=hv
   refine⟨?_,hf⟩
   rw[hc,flat_get keptRow 5 keptRow_len ps mi j (ps[mi]'(by omega)) (List.getElem?_eq_getElem (by omega)) hj]
   have:j < (keptRow (ps[mi]'(by omega))).length:=hj
   exact⟨_,List.getElem?_eq_getElem this⟩
  obtain⟨⟨q0,p0⟩,r0⟩:=hg5 0 (by omega)
  obtain⟨⟨q1,p1⟩,r1⟩:=hg5 1 (by omega)
  obtain⟨⟨q2,p2⟩,r2⟩:=hg5 2 (by omega)
  obtain⟨⟨q3,p3⟩,r3⟩:=hg5 3 (by omega)
  obtain⟨⟨q4,p4⟩,r4⟩:=hg5 4 (by omega)
  rw[Nat.add_zero] at p0 r0
  obtain⟨g',c',hv,_,_,hc5,r5⟩:=own_cell HO2.out.2.2.2.2.2.1 mi (by have:=HPL.out.2.2; omega)
  simp only[Value.slice.injEq,Option.some.injEq,Addr.mk.injEq,and_true] at hv
  obtain⟨rfl,_,_⟩:=hv
  have hlt5:mi < R.given.length:=by omega
  simp only[List.getElem?_map,List.getElem?_eq_getElem hlt5,Option.map_some,encB] at hc5
  generalize R.given[mi]=s5 at hc5
  have hne:g≠gn:=fun e=>own_types HO2.out.2.2.2.2.1.1 HO2.out.2.2.2.2.2.1 (by decide) (g:=gn) rfl (by rw[e]; rfl)
  clear hg5 hlt5
  go_wp2_with fail
  refine wpEarly_next ⟨HX2.out,HBM2.out⟩ fun m2 => ?_
  refine wpEarly_cons ?_
  go_wp2_with fail
  have hbg:b≠g:=fun e=>own_type HO2.out.2.2.2.2.1.1 HX2.out (by decide) (congrArg some e.symm)
  have hbn:b≠gn:=fun e=>own_type HO2.out.2.2.2.2.2.1 HX2.out (by decide) (congrArg some e.symm)
  have hkg:w.heap.size≠g:=fun e=>by
   have h1:=own_lt HO.out.2.2.2.2.1.1 g rfl
   have h2:=HS0.out
   have h3:=HOL.out g rfl
   omega
  have hx3:=HX2.out.drewN (m+m2) |>.setAll_other hbg (keptCells K (.slice a2 K.log.length c2)) (mi * 5)
  have hbm3:=HBM2.out.drewN (m+m2) |>.setAll_other hkg (keptCells K (.slice a2 K.log.length c2)) (mi * 5)
  have c5:(setAll (w2.drewN (m+m2)) g (mi * 5) (keptCells K (.slice a2 K.log.length c2))).cell? ⟨gn,mi,none⟩=some (.bool s5):=by
   rw[setAll_cell_other _ _ _ (Ne.symm hne)]; exact hc5
  have f5:(setAll (w2.drewN (m+m2)) g (mi * 5) (keptCells K (.slice a2 K.log.length c2))).frozen? ⟨gn,mi,none⟩=false:=by
   rw[setAll_frozen_other _ _ _ (Ne.symm hne)]; exact r5
  have HGO:Hid (ReplOwn ((setAll (w2.drewN (m+m2)) g (mi * 5) (keptCells K (.slice a2 K.log.length c2))).setCell ⟨gn,mi,none⟩ (.bool true)) B (withGive R mi K) _ _ _ _ _ _) :=
   give_own (HO2.out.below (below_drewN (m+m2) (Below.refl _ _))) (by have:=HPL.out.1; omega) (own_base (own_drewN (m+m2) HK2.out) (by have:=HS0.out; omega)) (Asunder.symm (asunder_new (W:=w2) (C:=0) HO.out.2.1 (fun k hk=>own_ge HK2.out k hk)))
  have HMG:Hid (MsgsNew ((setAll (w2.drewN (m+m2)) g (mi * 5) (keptCells K (.slice a2 K.log.length c2))).setCell ⟨gn,mi,none⟩ (.bool true)) B vs L):=by
   obtain⟨qs,hL,hq⟩:=HM.out
   have hq2:=hq.below (HB2.out)
   have hq3:MsgsOwn (w2.drewN (m+m2)) B vs qs:=hq2.below (below_drewN (m+m2) (Below.refl _ _))
   refine⟨qs,hL,hq3.map fun e' _ _ _ _ he r=>own_other (a:=⟨gn,mi,none⟩) (setAll_own _ _ _ r (fun q=>own_types r HO2.out.2.2.2.2.1.1 (by rcases he with rfl | rfl <;> decide) (g:=g) rfl q)) (fun q=>own_types r HO2.out.2.2.2.2.2.1 (by rcases he with rfl | rfl <;> decide) (g:=gn) rfl q) _⟩
  have HLT:Hid (Leaves 169 b w ((setAll (w2.drewN (m+m2)) g (mi * 5) (keptCells K (.slice a2 K.log.length c2))).setCell ⟨gn,mi,none⟩ (.bool true))∧Beside B b w ((setAll (w2.drewN (m+m2)) g (mi * 5) (keptCells K (.slice a2 K.log.length c2))).setCell ⟨gn,mi,none⟩ (.bool true))):=by
   refine⟨HLV.out.trans (Leaves.of HX.out (hx3.other (a:=⟨gn,mi,none⟩) _ hbn) ?_ (fun c hc k e=>Or.inr ⟨c,hc,e⟩) fun k hk hkb hcs => ?_), ?_⟩
   ·have:=HB2.out.size
    refine Nat.le_trans this (Nat.le_of_eq ?_)
    rw[show (World.setCell (setAll (w2.drewN (m+m2)) g (mi * 5) (keptCells K (.slice a2 K.log.length c2))) ⟨gn,mi,none⟩ (.bool true)).heap.size=(setAll (w2.drewN (m+m2)) g (mi * 5) (keptCells K (.slice a2 K.log.length c2))).heap.size by simp,setAll_size]
    rfl
   ·have e1:k≠g:=fun e=>hcs (.slice (some ⟨g,0,none⟩) R.gives.length cg) (by simp) (congrArg some e.symm)
    have e2:k≠gn:=fun e=>hcs (.slice (some ⟨gn,0,none⟩) R.given.length cn) (by simp) (congrArg some e.symm)
    rw[Below.heap_setCell _ _ _ _ e2,setAll_heap_other e1]
    exact HB2.out.block k hk
   ·refine (((Beside.of (HB0.out.mono hB)).trans (Beside.of (HB2.out.mono (by have:=HS0.out; omega)))).trans (setAll_beside_up hgB _ _ _ _ (Beside.of (b:=b) (below_drewN (m+m2) ?_)))).setCell (a:=⟨gn,mi,none⟩) (Or.inr hgnB) _
    exact below_drewN_refl (Nat.le_trans hB (Nat.le_trans (by have:=HS0.out; omega) HB2.out.size))
  obtain⟨w3,hw3⟩ : ∃ w3,w3=setAll (w2.drewN (m+m2)) g (mi * 5) (keptCells K (.slice a2 K.log.length c2)):=⟨_,rfl⟩
  rw[← hw3] at HGO HMG HLT hx3 hbm3 c5 f5
  simp only[setAll,keptCells,Nat.add_assoc,Nat.reduceAdd] at hw3
  rw[← hw3]
  clear hw3
  have HX3:Hid (Box w3 b _ _):=hx3
  refine wpEarly_next ⟨hx3,hbm3⟩ fun m3 => ?_
  refine wpEarly_nil ?_
  clear hx3 hbm3 p0 p1 p2 p3 p4 r0 r1 r2 r3 r4 r5 hc5
  have HE:Hid (TurnAt ((w3.drewN m3).setCell ⟨gn,mi,none⟩ (.bool true)) b B (withGive R mi K) L∧Beside B b w ((w3.drewN m3).setCell ⟨gn,mi,none⟩ (.bool true))∧Leaves 169 b w ((w3.drewN m3).setCell ⟨gn,mi,none⟩ (.bool true))):=by
   have ht:TurnAt (w3.setCell ⟨gn,mi,none⟩ (.bool true)) b B (withGive R mi K) L:=⟨_,_,_,_,_,_,_,by
    show Box _ b _ [.int .i64 R.me, .int .i64 R.kept.view, .int .i64 R.kept.normal, .bool R.kept.calm,_, .int .i64 R.kept.commit,_,_,_,_,_]
    exact HX3.out.other (a:=⟨gn,mi,none⟩) _ hbn,HGO.out,HMG.out⟩
   have e:(w3.drewN m3).setCell ⟨gn,mi,none⟩ (.bool true)=(w3.setCell ⟨gn,mi,none⟩ (.bool true)).drewN m3:=rfl
   rw[e]
   refine⟨turn_below ht (below_drewN m3 (Below.refl _ _)),HLT.out.2.trans (Beside.of (below_drewN m3 (below_drewN_refl ?_))),HLT.out.1.trans (Leaves.below (HX3.out.other (a:=⟨gn,mi,none⟩) _ hbn) (below_drewN m3 (Below.refl _ _)))⟩
   exact HLT.out.2.up hB
  clear HGO HMG HLT HX3
  go_wp2_with fail
  go_end0
  exact⟨rfl,HE.out⟩

end Go.Proofs.YtmdgkjbiicaljahGreatDoor
