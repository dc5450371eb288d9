/- The program's own: what a turn sends. -/
import Derived.Test.YtmdgkjbiicaljahGreatDoorRegPhase
import Derived.Test.YtmdgkjbiicaljahGreatDoorJointCopiedStr
import Derived.Deep.DeepCutAuto
import Derived.Test.YtmdgkjbiicaljahGreatDoorJointReplMem
import Derived.BigQuiet
import Derived.Deep.QuietTactic
set_option linter.unusedVariables false
set_option linter.unusedSimpArgs false
namespace Go.Proofs.YtmdgkjbiicaljahGreatDoor
open Go.RowKit

/-- Rows of the call's own, but for messages, stay as they are. -/
def Keeps (w w' : World) : Prop := ∀ (base : Nat) (e : TypeId) (s : Nat) (x : Value) (m : Nat) (xs : List Value), (e = 9 ∨ e = 3 ∨ e = 4 ∨ e = 44) → w.ownsRow base e s x m xs → w'.ownsRow base e s x m xs
theorem Keeps.trans {u v w : World} (h : Keeps u v) (k : Keeps v w) : Keeps u w := fun b e s x m xs he r => k b e s x m xs he (h b e s x m xs he r)
theorem Keeps.below {w w' : World} (h : Below w.heap.size w w') : Keeps w w' := fun b e s x m xs _ r => own_below r h (own_lt r)
theorem Keeps.set {w : World} {b : Nat} {t : TypeId} {cs : List Value} (hb : Box w b t cs) (h1 : 9 ≠ t) (h2 : 3 ≠ t) (h3 : 4 ≠ t) (h4 : 44 ≠ t) (i : Nat) (x : Value) : Keeps w (w.setCell ⟨b, i, none⟩ x) :=
  fun _ e _ _ _ _ he r => own_other r (own_type r hb (by rcases he with rfl | rfl | rfl | rfl <;> assumption)) x
theorem Keeps.grown {w w' : World} {base size : Nat} {v : Value} {n : Nat} {xs : List Value} (ho : w.ownsRow base 141 size v n xs) (hg : w.grownBy w' v.ownBlock) : Keeps w w' := by
  intro b e s x m ys he r
  have hne : ∀ k, x.ownBlock = some k → v.ownBlock ≠ some k := fun k hk hv => own_types r ho (by rcases he with rfl | rfl | rfl | rfl <;> decide) hv hk
  refine ⟨r.1, ?_⟩
  rcases r.2 with h2 | ⟨g, cap, cur, rfl, h3, hgc, q⟩
  · exact Or.inl h2
  · have hlt : g < w.heap.size := (Array.getElem?_eq_some_iff.1 hgc).1
    exact Or.inr ⟨g, cap, cur, rfl, h3, by rw [hg.block g hlt (Ne.symm (hne g rfl))]; exact hgc, q⟩
/-- All blocks stay as they are, but for the turn's own (b) and that of what was sent. -/
structure Moved (w w' : World) (b : Nat) (v v' : Value) : Prop where
  os : w'.os = w.os
  tape : w'.tape = w.tape
  output : w'.output = w.output
  size : w.heap.size ≤ w'.heap.size
  block : ∀ k, k < w.heap.size → k ≠ b → v.ownBlock ≠ some k → w'.heap[k]? = w.heap[k]?
  fresh : ∀ k, v'.ownBlock = some k → v.ownBlock = some k ∨ w.heap.size ≤ k
theorem Moved.refl (w : World) (b : Nat) (v : Value) : Moved w w b v v := ⟨rfl, rfl, rfl, Nat.le_refl _, fun _ _ _ _ => rfl, fun _ h => Or.inl h⟩
theorem Moved.trans {u v w : World} {b : Nat} {x y z : Value} (h : Moved u v b x y) (k : Moved v w b y z) : Moved u w b x z := by
  refine ⟨k.os.trans h.os, k.tape.trans h.tape, k.output.trans h.output, Nat.le_trans h.size k.size, fun i hi hb hx => ?_, fun i hi => ?_⟩
  · rw [k.block i (Nat.lt_of_lt_of_le hi h.size) hb (fun e => by rcases h.fresh i e with q | q; exact hx q; omega)]
    exact h.block i hi hb hx
  · rcases k.fresh i hi with q | q
    · exact h.fresh i q
    · exact Or.inr (Nat.le_trans h.size q)
theorem Moved.of {w w' : World} {b : Nat} {v : Value} (h : Below w.heap.size w w') : Moved w w' b v v := ⟨h.os, h.tape, h.output, h.size, fun k hk _ _ => h.block k hk, fun _ h => Or.inl h⟩
theorem Moved.beside {w w' : World} {b B : Nat} {v v' : Value} {e : TypeId} {s n : Nat} {xs : List Value} (h : Moved w w' b v v') (ho : w.ownsRow B e s v n xs) (hB : B ≤ w.heap.size) : Beside B b w w' :=
  ⟨h.os, h.tape, h.output, h.size, fun k hk hb => h.block k (by omega) hb (fun e => by have := own_ge ho k e; omega)⟩
theorem Moved.box {w w' : World} {b k : Nat} {v v' : Value} {t : TypeId} {cs : List Value} (h : Moved w w' b v v') (hx : Box w k t cs) (hk : k ≠ b) (hv : v.ownBlock ≠ some k) : Box w' k t cs := by
  have := h.block k hx.lt hk hv
  unfold Box at hx ⊢
  rw [this]
  exact hx

theorem rowAt_box {w : World} {b : Nat} {t : TypeId} {cs : List Value} (h : Box w b t cs) (n size : Nat) (hl : cs.length = n * size) : RowAt w (.slice (some ⟨b, 0, none⟩) n n) n size cs := by
  refine ⟨_, _, rfl, hl, fun j u hj => ⟨_, rfl, ?_⟩⟩
  have := h.cell j u hj
  rw [Go.WideShapes.add_plain, Nat.zero_add]
  exact this
theorem infoMsg : Tryz.prog.info? 141 = some Tryz.t141 := by kernel_rfl
theorem zeroMsgV : Tryz.t141.zero = some (.agg #[.int .i64 0, .int .i64 0, .int .i64 0, .int .i64 0, .int .i64 0, .int .i64 0, .int .i64 0, .slice none 0 0]) := by kernel_rfl
theorem sizeMsg : Tryz.t141.size = 8 := by kernel_rfl
theorem bytesMsg : Tryz.t141.bytes = 80 := by kernel_rfl
/-- A message more, in a row of the call's own. -/
theorem MsgsOwn.snoc {w w' : World} {B : Nat} {v v' : Value} {ps : List (MsgM × Value)} {M : MsgM} {vm : Value} (h : MsgsOwn w B v ps) (hk : Keeps w w') (hr : w'.ownsRow B 141 8 v' (ps.length + 1) (ps.flatMap msgRow ++ msgCells M vm)) (hl : w'.ownsRow B 9 1 vm M.log.length (M.log.map enc)) : MsgsOwn w' B v' (ps ++ [(M, vm)]) := by
  refine ⟨by simpa [msgRow] using hr, fun p hp => ?_⟩
  rcases List.mem_append.1 hp with hp | hp
  · exact hk _ _ _ _ _ _ (Or.inl rfl) (h.2 p hp)
  · have : p = (M, vm) := by simpa using hp
    subst this
    exact hl

set_option maxRecDepth 4000 in
set_option maxHeartbeats 2000000 in
theorem send_any (b B : Nat) (me vi : Int) (c2 c3 c4 c5 c6 c7 c8 c9 vs : Value) (ms : List (MsgM × Value)) (dst : Int) (M : MsgM) (vm : Value) (w : World) (hx : Box w b 169 [.int .i64 me, .int .i64 vi, c2, c3, c4, c5, c6, c7, c8, c9, vs])
    (hms : MsgsOwn w B vs ms) (hm : RowAt w vm M.log.length 1 (M.log.map enc)) (hz : M.log.length * 16 ≤ 140737488355328) (hn : ms.length ≤ 1000) (hB : B ≤ w.heap.size) :
    Calls Tryz.prog 121 #[.pointer (some ⟨b, 0, none⟩), .int .i64 dst, .agg (msgCells M vm).toArray] w fun e w' => e = .returned (.tuple #[]) ∧ ∃ vs' vm', Box w' b 169 [.int .i64 me, .int .i64 vi, c2, c3, c4, c5, c6, c7, c8, c9, vs'] ∧
      MsgsOwn w' B vs' (ms ++ [(⟨M.kind, me, dst, vi, M.normal, M.commit, M.n, M.log⟩, vm')]) ∧ Keeps w w' ∧ Moved w w' b vs vs' := by
  obtain ⟨kd, fr, ds, mv, mn, mc, mk, ml⟩ := M
  simp only [msgCells] at *
  have HM : Hid (RowAt w _ _ _ _) := hm
  obtain ⟨am, cm, rfl, _, _⟩ := hm
  have lb := hx.lt
  have bm := Box.new w 141 [.int .i64 kd, .int .i64 fr, .int .i64 ds, .int .i64 mv, .int .i64 mn, .int .i64 mc, .int .i64 mk, .slice am ml.length cm]
  have hx0 := hx.alloc (.cells #[.int .i64 kd, .int .i64 fr, .int .i64 ds, .int .i64 mv, .int .i64 mn, .int .i64 mc, .int .i64 mk, .slice am ml.length cm] 141)
  obtain ⟨w0, hw0⟩ : ∃ w0, w0 = w.alloc (.cells #[.int .i64 kd, .int .i64 fr, .int .i64 ds, .int .i64 mv, .int .i64 mn, .int .i64 mc, .int .i64 mk, .slice am ml.length cm] 141) := ⟨_, rfl⟩
  have hb0 : Below w.heap.size w w0 := by rw [hw0]; exact below_alloc _ _
  go_enter Tryz.func121, Tryz.ntmps121
  go_upto_region 1 with fail
  rw [← hw0] at bm hx0 ⊢
  clear hw0
  obtain ⟨x0, x1⟩ := hx0.c2
  obtain ⟨y0, y1, y2, y3, y4, y5, y6, y7⟩ := bm.c8
  obtain ⟨f0, f1, f2, f3, f4, f5, f6, f7⟩ := bm.z8
  have nb : ¬ b = w.heap.size := by omega
  have nb' : ¬ w.heap.size = b := by omega
  have BM := ((bm.set 1 (.int .i64 me)).set 2 (.int .i64 dst)).set 3 (.int .i64 vi)
  have BX := ((hx0.other (a := ⟨w.heap.size, 1, none⟩) (.int .i64 me) nb).other (a := ⟨w.heap.size, 2, none⟩) (.int .i64 dst) nb).other (a := ⟨w.heap.size, 3, none⟩) (.int .i64 vi) nb
  have BB : Below w.heap.size w _ := ((hb0.setCell (p := ⟨w.heap.size, 1, none⟩) (Nat.le_refl _) (.int .i64 me)).setCell (p := ⟨w.heap.size, 2, none⟩) (Nat.le_refl _) (.int .i64 dst)).setCell (p := ⟨w.heap.size, 3, none⟩) (Nat.le_refl _) (.int .i64 vi)
  have HBM : Hid (Box _ w.heap.size _ _) := BM
  have HBX : Hid (Box _ b _ _) := BX
  have HBB : Hid (Below w.heap.size w _) := BB
  have HX : Hid (Box w b _ _) := hx
  have HMS : Hid (MsgsOwn w B vs ms) := hms
  clear hx hx0 bm hb0 BM BX BB hms
  go_region
  go_upto_region 2 with fail
  generalize hw1 : World.drew _ = w1
  have BM : Box w1 w.heap.size 141 [.int .i64 kd, .int .i64 me, .int .i64 dst, .int .i64 vi, .int .i64 mn, .int .i64 mc, .int .i64 mk, .slice am ml.length cm] := by rw [← hw1]; exact HBM.out
  have BX : Box w1 b 169 [.int .i64 me, .int .i64 vi, c2, c3, c4, c5, c6, c7, c8, c9, vs] := by rw [← hw1]; exact HBX.out
  have BB : Below w.heap.size w w1 := by rw [← hw1]; exact HBB.out.drew
  have HK1 : Hid (Below w.heap.size w w1) := BB
  clear hw1 HBM HBX HBB x0 x1 y0 y1 y2 y3 y4 y5 y6 y7 f0 f1 f2 f3 f4 f5 f6 f7
  have y7 := BM.cell 7 _ rfl
  have HBM : Hid (Box w1 w.heap.size _ _) := BM
  have HBX : Hid (Box w1 b _ _) := BX
  clear BM BX BB
  go_wp2_with fail
  refine (copiedStrs_any ml _ _ (RowAt.below HM.out HK1.out) hz).mono ?_
  rintro e w2 ⟨v2, rfl, ho2, hb2⟩
  obtain ⟨a2, k2, rfl⟩ := own_form ho2
  have BM := HBM.out.below hb2 HBM.out.lt
  have y7' := BM.cell 7 _ rfl
  have f7 := BM.frozen 7
  have HBM2 : Hid (Box (w2.setCell ⟨w.heap.size, 7, none⟩ (.slice a2 ml.length k2)) w.heap.size _ _) := BM.set 7 _
  have HBX2 : Hid (Box (w2.setCell ⟨w.heap.size, 7, none⟩ (.slice a2 ml.length k2)) b _ _) := (HBX.out.below hb2 HBX.out.lt).other _ nb
  have HO2 : Hid (World.ownsRow (w2.setCell ⟨w.heap.size, 7, none⟩ (.slice a2 ml.length k2)) _ _ _ _ _ _) := own_other ho2 (fun e => by have := own_ge ho2 _ e; have := HBM.out.lt; simp at *; omega) (.slice a2 ml.length k2)
  have HK2 : Hid (Below w.heap.size w (w2.setCell ⟨w.heap.size, 7, none⟩ (.slice a2 ml.length k2))) := (Below.far HK1.out hb2).setCell (p := ⟨w.heap.size, 7, none⟩) (Nat.le_refl _) _
  clear y7 BM ho2 hb2
  go_upto_region 3 with fail
  generalize hw3 : w2.setCell _ _ = w3
  rw [hw3] at HBM2 HBX2 HO2 HK2
  clear hw3 y7' f7 HBM HBX
  obtain ⟨a1, k1, hvs⟩ := own_formN HMS.out.1
  subst hvs
  have m0 := HBM2.out
  obtain ⟨y0, y1, y2, y3, y4, y5, y6, y7⟩ := m0.c8
  have b0 := HBX2.out
  have x10 := b0.cell 10 _ rfl
  have f10 := b0.frozen 10
  have lb3 := b0.lt
  have HMS3 : Hid (MsgsOwn w3 B _ ms) := HMS.out.below HK2.out
  have hsz3 : w.heap.size ≤ w3.heap.size := HK2.out.size
  have HLen : Hid (ms.length ≤ 1000) := hn
  clear m0 b0 hn
  go_region_law
    ((first
      | (refine step_append_row _ (by rfl) _ _ 27 (by rfl) B 141 Tryz.t141 _ 8 80 Tryz.underlying27 infoMsg zeroMsgV sizeMsg bytesMsg rfl (by decide) _ ms.length (ms.flatMap msgRow) (by rfl) (own_below HMS3.out.1 (below_alloc w3 (.cells #[.int .i64 kd, .int .i64 me, .int .i64 dst, .int .i64 vi, .int .i64 mn, .int .i64 mc, .int .i64 mk, .slice a2 ml.length k2] 141)).drew (own_lt HMS3.out.1)) _ 1 [.int .i64 kd, .int .i64 me, .int .i64 dst, .int .i64 vi, .int .i64 mn, .int .i64 mc, .int .i64 mk, .slice a2 ml.length k2] (by rfl) (rowAt_box (w := w3.alloc (.cells #[.int .i64 kd, .int .i64 me, .int .i64 dst, .int .i64 vi, .int .i64 mn, .int .i64 mc, .int .i64 mk, .slice a2 ml.length k2] 141)) (Box.new w3 _ _) 1 8 rfl) (by simp [Value.oneCell']) (by have := HLen.out; unfold maxLen; omega) (by have := HLen.out; omega) (by simp; omega) ?_
         intro u3 wB hownB hgD hatB
         obtain ⟨a6, k6, hu5⟩ := own_formN hownB
         subst hu5
         have hgB : (w3.alloc (.cells #[.int .i64 kd, .int .i64 me, .int .i64 dst, .int .i64 vi, .int .i64 mn, .int .i64 mc, .int .i64 mk, .slice a2 ml.length k2] 141)).grownBy wB (Value.slice a1 ms.length k1).ownBlock := ⟨hgD.os, hgD.tape, hgD.output, hgD.size, hgD.block⟩
         have BXB : Box wB b _ _ := (HBX2.out.alloc (.cells #[.int .i64 kd, .int .i64 me, .int .i64 dst, .int .i64 vi, .int .i64 mn, .int .i64 mc, .int .i64 mk, .slice a2 ml.length k2] 141)).grown hgB (own_type HMS3.out.1 HBX2.out (by decide))
         have q10 := BXB.cell 10 _ rfl
         have g10 := BXB.frozen 10
         have lb4 := BXB.lt)))
  all_goals
    have HE : Hid (∃ vs' vm', Box (wB.setCell ⟨b, 10, none⟩ (.slice a6 (ms.length + 1) k6)) b 169 [.int .i64 me, .int .i64 vi, c2, c3, c4, c5, c6, c7, c8, c9, vs'] ∧ MsgsOwn (wB.setCell ⟨b, 10, none⟩ (.slice a6 (ms.length + 1) k6)) B vs' (ms ++ [(⟨kd, me, dst, vi, mn, mc, mk, ml⟩, vm')]) ∧ Keeps w (wB.setCell ⟨b, 10, none⟩ (.slice a6 (ms.length + 1) k6)) ∧ Moved w (wB.setCell ⟨b, 10, none⟩ (.slice a6 (ms.length + 1) k6)) b (.slice a1 ms.length k1) vs') := by
      have kA : Keeps w3 wB := (Keeps.below (below_alloc w3 (.cells #[.int .i64 kd, .int .i64 me, .int .i64 dst, .int .i64 vi, .int .i64 mn, .int .i64 mc, .int .i64 mk, .slice a2 ml.length k2] 141))).trans (Keeps.grown (own_below HMS3.out.1 (below_alloc w3 _) (own_lt HMS3.out.1)) hgB)
      have kB : Keeps wB (wB.setCell ⟨b, 10, none⟩ (.slice a6 (ms.length + 1) k6)) := Keeps.set BXB (by decide) (by decide) (by decide) (by decide) 10 _
      have kW : Keeps w w3 := Keeps.below HK2.out
      refine ⟨.slice a6 (ms.length + 1) k6, .slice a2 ml.length k2, BXB.set 10 _, HMS3.out.snoc (kA.trans kB) (own_other hownB (own_type hownB BXB (by decide)) _) ?_, (kW.trans kA).trans kB, ?_⟩
      · exact (kA.trans kB) _ _ _ _ _ _ (Or.inl rfl) (own_base HO2.out (by have := HK1.out.size; omega))
      · refine ⟨hgB.os.trans HK2.out.os, hgB.tape.trans HK2.out.tape, hgB.output.trans HK2.out.output, by have := hgB.size; simp at this ⊢; omega, fun k hk hb hv => ?_, fun k hk => ?_⟩
        · rw [Below.heap_setCell _ _ _ _ (show k ≠ b from hb), hgB.block k (by simp; omega) (Ne.symm hv), Below.heap_alloc _ _ _ (by omega)]
          exact HK2.out.block k hk
        · rcases hatB with e | e
          · left; rw [← e]; exact hk
          · right
            rw [e] at hk
            injection hk with hk
            simp at hk
            omega
    clear hownB hgB hgD hatB BXB HMS3 HBX2 HBM2 HO2 HK2 HMS
    go_wp2_with fail
    go_end0
    exact ⟨rfl, HE.out⟩

end Go.Proofs.YtmdgkjbiicaljahGreatDoor

/- The program's own replica.Leader and replica.Leads. -/
namespace Go.Proofs.YtmdgkjbiicaljahGreatDoor
open Go.RowKit

theorem leader_any (view : Int) (w : World) : Calls Tryz.prog 87 #[.int .i64 view] w fun e w' => e = .returned (.int .i64 (view.tmod 3)) ∧ w' = w := by
 go_enter Tryz.func87,Tryz.ntmps87
 go_wp2
 go_ret
 exact⟨by simp,rfl⟩

set_option maxHeartbeats 1000000 in
theorem leads_any (R : ReplM) (v : Value) (w : World) (h : ReplAt w v R) :
  Calls Tryz.prog 58 #[v] w fun e w' => e = .returned (.bool (leads R))∧Below w.heap.size w w' := by
 obtain⟨vl,vh,vw,vg,vn,rfl,hl,hh,hw,hg,hn⟩:=h
 have HL:Hid (leads R=(R.kept.calm && decide (R.kept.view.tmod 3=R.me))):=rfl
 generalize leads R=X at *
 obtain⟨me,⟨vi,nm,cm,l,ct⟩,hav,wants,gives,given⟩:=R
 simp only[replCells] at *
 have b0:=Box.new w 49 [.int .i64 me, .int .i64 vi, .int .i64 nm, .bool cm,vl, .int .i64 ct,vh,vw,vg,vn]
 have HB:Hid (Below w.heap.size w _):=below_alloc w (.cells #[.int .i64 me, .int .i64 vi, .int .i64 nm, .bool cm,vl, .int .i64 ct,vh,vw,vg,vn] 49)
 obtain⟨w0,hw0⟩ : ∃ w0,w0=w.alloc (.cells #[.int .i64 me, .int .i64 vi, .int .i64 nm, .bool cm,vl, .int .i64 ct,vh,vw,vg,vn] 49):=⟨_,rfl⟩
 have HLD:Hid (∀ W,Calls _ _ _ W _):=fun W=>leader_any vi W
 clear hl hh hw hg hn
 go_enter Tryz.func58,Tryz.ntmps58
 go_upto_region 1 with fail
 rw[← hw0] at b0 HB ⊢
 clear hw0
 obtain⟨x0,x1⟩:=b0.c2
 have x3:=b0.cell 3 _ rfl
 clear b0
 cases cm
 ·go_quiet (fail)
  go_wp2_with fail
  go_ret
  exact⟨by rw[HL.out]; rfl,Below.far HB.out (below_drew_n _ _)⟩
 ·go_quiet (first | (go_at_call 87; refine (HLD.out _).mono ?_; rintro e w' ⟨rfl,rfl⟩; exact⟨rfl,_,rfl⟩))
  go_wp2_with fail
  go_ret
  exact⟨by rw[HL.out]; simp; rfl,Below.far HB.out (below_drew_n _ _)⟩

end Go.Proofs.YtmdgkjbiicaljahGreatDoor

/- The program's own: what a turn sends to all others, and what it tells. -/
namespace Go.Proofs.YtmdgkjbiicaljahGreatDoor
open Go.RowKit

def sentTo (me vi : Int) (M : MsgM) (k : Nat) : List MsgM := ((List.range k).filter fun (i : Nat) => decide ((i : Int) ≠ me)).map fun (i : Nat) => ⟨M.kind,me,(i : Int),vi,M.normal,M.commit,M.n,M.log⟩
theorem sentTo_yes (me vi : Int) (M : MsgM) (k : Nat) (h : (k : Int) ≠ me) : sentTo me vi M (k + 1) = sentTo me vi M k ++ [⟨M.kind,me,(k : Int),vi,M.normal,M.commit,M.n,M.log⟩] := by
 unfold sentTo
 rw[List.range_succ,List.filter_append,List.map_append,List.filter_cons_of_pos (by simpa using h)]
 simp
theorem sentTo_no (me vi : Int) (M : MsgM) (k : Nat) (h : (k : Int) = me) : sentTo me vi M (k + 1) = sentTo me vi M k := by
 unfold sentTo
 rw[List.range_succ,List.filter_append,List.map_append,List.filter_cons_of_neg (by simpa using h)]
 simp
theorem sentTo_len (me vi : Int) (M : MsgM) (k : Nat) : (sentTo me vi M k).length ≤ k := by
 unfold sentTo
 rw[List.length_map]
 exact Nat.le_trans (List.length_filter_le _ _) (by simp)
/-- Messages of the call's own. -/
def MsgsNew (w : World) (B : Nat) (v : Value) (L : List MsgM) : Prop := ∃ ps,L = ps.map Prod.fst ∧ MsgsOwn w B v ps

set_option maxRecDepth 4000 in
set_option maxHeartbeats 2000000 in
theorem sendAll_any (b B : Nat) (me vi : Int) (c2 c3 c4 c5 c6 c7 c8 c9 vs : Value) (L : List MsgM) (M : MsgM) (vm : Value) (w : World) (hx : Box w b 169 [.int .i64 me, .int .i64 vi,c2,c3,c4,c5,c6,c7,c8,c9,vs])
  (hms:MsgsNew w B vs L) (hm : ∀ W,Keeps w W→Below w.heap.size w W∨(∃ vs',Moved w W b vs vs')→RowAt W vm M.log.length 1 (M.log.map enc)) (hz:M.log.length * 16≤140737488355328) (hn:L.length≤900) (hB:B≤w.heap.size) :
  Calls Tryz.prog 120 #[.pointer (some ⟨b,0,none⟩), .agg (msgCells M vm).toArray] w fun e w' => e = .returned (.tuple #[]) ∧ ∃ vs',Box w' b 169 [.int .i64 me, .int .i64 vi,c2,c3,c4,c5,c6,c7,c8,c9,vs'] ∧
   MsgsNew w' B vs' (L ++ sentTo me vi M 3)∧Keeps w w' ∧ Moved w w' b vs vs' := by
 have HST:Hid (∀ (b:Nat) vs (ms:List (MsgM × Value)) (dst:Int) (W:World),_→_→_→_→_→Calls _ _ _ W _):=fun b vs ms dst W h1 h2 h3 h4 h5=>send_any b B me vi c2 c3 c4 c5 c6 c7 c8 c9 vs ms dst M vm W h1 h2 h3 hz h4 h5
 have HY:Hid (∀ k:Nat,(k:Int)≠me→sentTo me vi M (k+1)=sentTo me vi M k ++ [⟨M.kind,me,(k:Int),vi,M.normal,M.commit,M.n,M.log⟩]):=sentTo_yes me vi M
 have HN:Hid (∀ k:Nat,(k:Int)=me→sentTo me vi M (k+1)=sentTo me vi M k):=sentTo_no me vi M
 have HLn:Hid (∀ k:Nat,(sentTo me vi M k).length≤k):=sentTo_len me vi M
 have HM:Hid (∀ W,Keeps w W→Below w.heap.size w W∨(∃ vs',Moved w W b vs vs')→RowAt W vm M.log.length 1 (M.log.map enc)):=hm
 generalize hSt:sentTo me vi M=St at *
 have hSt0:St 0 = []:=by rw[← hSt]; rfl
 have HS0:Hid (St 0 = []):=hSt0
 clear hSt hSt0 hm
 obtain⟨kd,fr,ds,mv,mn,mc,mk,ml⟩:=M
 simp only[msgCells] at *
 obtain⟨am,cm,rfl,_,_⟩:=HM.out w (fun _ _ _ _ _ _ _ r=>r) (Or.inl (Below.refl _ _))
 have lb:=hx.lt
 have bm:=Box.new w 141 [.int .i64 kd, .int .i64 fr, .int .i64 ds, .int .i64 mv, .int .i64 mn, .int .i64 mc, .int .i64 mk, .slice am ml.length cm]
 have hx0:=hx.alloc (.cells #[.int .i64 kd, .int .i64 fr, .int .i64 ds, .int .i64 mv, .int .i64 mn, .int .i64 mc, .int .i64 mk, .slice am ml.length cm] 141)
 obtain⟨w0,hw0⟩ : ∃ w0,w0=w.alloc (.cells #[.int .i64 kd, .int .i64 fr, .int .i64 ds, .int .i64 mv, .int .i64 mn, .int .i64 mc, .int .i64 mk, .slice am ml.length cm] 141):=⟨_,rfl⟩
 have hb0:Below w.heap.size w w0:=by rw[hw0]; exact below_alloc _ _
 have hs0:w0.heap.size=w.heap.size+1:=by rw[hw0]; simp
 have HBM:Hid (Box w0 w.heap.size _ _):=(show Box w0 w.heap.size _ _ from by rw[hw0]; exact bm)
 have HBX:Hid (Box w0 b _ _):=(show Box w0 b _ _ from by rw[hw0]; exact hx0)
 have HB0:Hid (Below w.heap.size w w0):=hb0
 have HS1:Hid (w0.heap.size=w.heap.size+1):=hs0
 have HMS:Hid (MsgsNew w B vs L):=hms
 have HX:Hid (Box w b _ _):=hx
 clear hx0 bm hb0 hs0 hms hx
 go_enter Tryz.func120,Tryz.ntmps120
 go_upto_region 1 with fail
 rw[← hw0]
 clear hw0
 go_wp2_with fail
 go_loopw [5] (fun i wr => ∃ k:Nat,k≤3∧i = .int .i64 k ∧ ∃ vs',Box wr b 169 [.int .i64 me, .int .i64 vi,c2,c3,c4,c5,c6,c7,c8,c9,vs']∧MsgsNew wr B vs' (L ++ St k)∧Keeps w wr∧Moved w wr b vs vs' ∧ Box wr w.heap.size 141 [.int .i64 kd, .int .i64 fr, .int .i64 ds, .int .i64 mv, .int .i64 mn, .int .i64 mc, .int .i64 mk, .slice am ml.length cm]∧vs'.ownBlock≠some w.heap.size) (fun i wr=>3 - (intOf i).toNat)
 case atStart =>
  refine⟨0,by omega,rfl,vs,HBX.out, ?_,Keeps.below HB0.out,Moved.of HB0.out,HBM.out, ?_⟩
  ·obtain⟨ps,h1,h2⟩:=HMS.out
   rw[HS0.out,List.append_nil]
   exact⟨ps,h1,h2.below HB0.out⟩
  ·obtain⟨ps,h1,h2⟩:=HMS.out
   intro e
   have:=own_lt h2.1 _ e
   omega
 case round =>
  obtain⟨k,hk,rfl,vs',hbx,hmn,hkp,hmv,hbm,hne⟩:=hrel
  have x0:=hbx.cell 0 _ rfl
  obtain⟨y0,y1,y2,y3,y4,y5,y6,y7⟩:=hbm.c8
  have hsz:w.heap.size < wr.heap.size:=hbm.lt
  have HBX2:Hid (Box wr b _ _):=hbx
  have HMN:Hid (MsgsNew wr B vs' (L ++ St k)):=hmn
  have HKP:Hid (Keeps w wr):=hkp
  have HMV:Hid (Moved w wr b vs vs'):=hmv
  have HBM2:Hid (Box wr w.heap.size _ _):=hbm
  have HNE:Hid (vs'.ownBlock≠some w.heap.size):=hne
  clear hbx hmn hkp hmv hbm hne HBX HBM HB0
  by_cases hlt:k < 3
  ·have k1:(k:Int) < 3:=by omega
   by_cases hme:(k:Int)=me
   ·have q1:(((k:Int) == me))=true:=by simpa using hme
    have q2:(((k:Int) != me))=false:=by simpa using hme
    go_wp2_with fail
    go_roundw
    case rel=>exact⟨k+1,by omega,by go_num,vs',HBX2.out,by rw[HN.out k hme]; exact HMN.out,HKP.out,HMV.out,HBM2.out,HNE.out⟩
    case measure=>simp[intOf]; omega
   ·have q2:(((k:Int) != me))=true:=by simpa using hme
    obtain⟨ps,hL,hps⟩:=HMN.out
    have HPS:Hid (MsgsOwn wr B vs' ps):=hps
    have HL:Hid (L ++ St k=ps.map Prod.fst):=hL
    have HPL:Hid (ps.length≤1000):=by
     have h1:=congrArg List.length hL
     have h2:=HLn.out k
     simp only[List.length_append,List.length_map] at h1
     unfold Hid
     omega
    clear hps hL
    go_wp2_with fail
    refine (HST.out b vs' ps _ wr HBX2.out HPS.out (HM.out wr HKP.out (Or.inr ⟨_,HMV.out⟩)) HPL.out (by omega)).mono ?_
    rintro e w5 ⟨rfl,vs5,vm5,hb5,hm5,hk5,hv5⟩
    have HB5:Hid (Box w5 b _ _):=hb5
    have HM5:Hid (MsgsNew w5 B vs5 (L ++ St (k+1))):=by
     refine⟨_, ?_,hm5⟩
     rw[HY.out k hme,List.map_append,← HL.out,List.append_assoc]
     rfl
    have HK5:Hid (Keeps w w5):=HKP.out.trans hk5
    have HV5:Hid (Moved w w5 b vs vs5):=HMV.out.trans hv5
    have HBM5:Hid (Box w5 w.heap.size _ _):=hv5.box HBM2.out (by omega) HNE.out
    have HN5:Hid (vs5.ownBlock≠some w.heap.size):=fun e=>by
     rcases hv5.fresh _ e with q | q
     ·exact HNE.out q
     ·omega
    clear hb5 hm5 hk5 hv5 x0 y0 y1 y2 y3 y4 y5 y6 y7
    go_wp2_with fail
    go_roundw
    case rel=>exact⟨k+1,by omega,by go_num,vs5,HB5.out,HM5.out,HK5.out,HV5.out,HBM5.out,HN5.out⟩
    case measure=>simp[intOf]; omega
  ·obtain rfl:k=3:=by omega
   clear x0 y0 y1 y2 y3 y4 y5 y6 y7
   go_wp2_with fail
   go_end0
   exact⟨rfl,vs',HBX2.out,HMN.out,HKP.out,HMV.out⟩

end Go.Proofs.YtmdgkjbiicaljahGreatDoor

/- The program's own: a turn, and what it tells. -/
namespace Go.Proofs.YtmdgkjbiicaljahGreatDoor
open Go.RowKit

theorem sentTo_all (R : ReplM) (kind commit n : Int) (log : List (List UInt8)) (h : n = 0) (fr ds vw nm : Int) (hn : nm = 0) : sentTo R.me R.kept.view ⟨kind,fr,ds,vw,nm,commit,n,log⟩ 3 = toAll R kind commit log := by
 subst h hn
 unfold sentTo toAll others
 rw[show List.range 3 = [0,1,2] from rfl]
 by_cases h0:R.me=0
 ·simp[h0]
 ·by_cases h1:R.me=1
  ·simp[h1]
  ·by_cases h2:R.me=2
   ·simp[h2]
   ·have e0 : ¬ (0:Int)=R.me:=fun e=>h0 e.symm
    have e1 : ¬ (1:Int)=R.me:=fun e=>h1 e.symm
    have e2 : ¬ (2:Int)=R.me:=fun e=>h2 e.symm
    simp[e0,e1,e2]
theorem rowAt_own {w : World} {base : Nat} {e : TypeId} {v : Value} {n : Nat} {xs : List Value} (h : w.ownsRow base e 1 v n xs) (hl : xs.length = n) : RowAt w v n 1 xs := by
 obtain⟨a,cap,hv⟩:=own_form h
 refine⟨a,cap,hv,by omega,fun j u hj => ?_⟩
 have hj' : j < n:=by have:=(List.getElem?_eq_some_iff.1 hj).1; omega
 obtain⟨g,cap',hv',_,_,hc,_⟩:=own_cell h j hj'
 rw[hv] at hv'
 cases hv'
 refine⟨⟨g,0,none⟩,rfl, ?_⟩
 rw[Go.WideShapes.add_plain,Nat.zero_add,hc]
 exact hj

/-- A turn of a replica, in memory of the call's own. -/
def TurnAt (w : World) (b B : Nat) (R : ReplM) (L : List MsgM) : Prop :=
 ∃ vl vh vw vg vn vs ps,Box w b 169 [.int .i64 R.me, .int .i64 R.kept.view, .int .i64 R.kept.normal, .bool R.kept.calm,vl, .int .i64 R.kept.commit,vh,vw,vg,vn,vs]∧ReplOwn w B R vl vh vw vg vn ps∧MsgsNew w B vs L
theorem ReplOwn.keeps {w w' : World} {B : Nat} {R : ReplM} {vl vh vw vg vn : Value} {ps : List (KeptM × Value)} (h : ReplOwn w B R vl vh vw vg vn ps) (hk : Keeps w w') : ReplOwn w' B R vl vh vw vg vn ps :=
 h.map fun e s x m xs he r=>hk B e s x m xs he r
theorem MsgsNew.beside {w w' : World} {b B : Nat} {v v' : Value} {L : List MsgM} (h : MsgsNew w B v L) (hm : Moved w w' b v v') (hB : B ≤ w.heap.size) : Beside B b w w' := by
 obtain⟨ps,_,h1⟩:=h
 exact hm.beside h1.1 hB

set_option maxRecDepth 4000 in
set_option maxHeartbeats 2000000 in
theorem leadOn_any (b B : Nat) (R : ReplM) (L : List MsgM) (w : World) (h : TurnAt w b B R L) (hz : R.kept.log.length * 16 ≤ 140737488355328) (hn : L.length ≤ 900) (hB : B ≤ w.heap.size) :
  Calls Tryz.prog 93 #[.pointer (some ⟨b,0,none⟩)] w fun e w' => e = .returned (.tuple #[])∧TurnAt w' b B R (L ++ ledBy R)∧Beside B b w w' := by
 obtain⟨vl,vh,vw,vg,vn,vs,ps,hx,ho,hm⟩:=h
 obtain⟨al,cl,hvl⟩:=own_form ho.2.1
 subst hvl
 have HO:Hid (ReplOwn w B R _ _ _ _ _ _):=ho
 have HM:Hid (MsgsNew w B vs L):=hm
 have HX:Hid (Box w b _ _):=hx
 have HS:Hid (∀ W,Keeps w W→RowAt W (.slice al R.kept.log.length cl) R.kept.log.length 1 (R.kept.log.map enc)):=fun W hk=>rowAt_own (hk _ _ _ _ _ _ (Or.inl rfl) ho.2.1) (by simp)
 obtain⟨x0,x1,x2,x3,x4,x5,x6,x7,x8,x9,x10⟩:=hx.c11
 clear hx ho hm
 go_enter Tryz.func93,Tryz.ntmps93
 go_upto_region 0 with fail
 refine wp_region_two [0,0,0,0,0,0,0,0,0,0,0,0,0,0,1] (by kernel_rfl) (by kernel_rfl) ?_
 simp only[sel,↓reduceIte,Nat.reduceEqDiff]
 repeat (go_big_quiet_step (fail))
 refine wpQuiet_nil ?_
 intro w9 hw9
 obtain⟨nq,rfl⟩:=hw9
 go_wp2_with fail
 refine (sendAll_any b B R.me R.kept.view _ _ _ _ _ _ _ _ vs L ⟨1,0,0,0,0,R.kept.commit,0,R.kept.log⟩ _ (w.drewN nq) HX.out HM.out (fun W hk _=>HS.out W hk) hz hn hB).mono ?_
 rintro e w' ⟨rfl,vs',hb',hm',hk',hv'⟩
 have HE:Hid (TurnAt w' b B R (L ++ ledBy R)∧Beside B b w w'):=by
  refine⟨⟨_,_,_,_,_,_,_,hb',HO.out.keeps hk', ?_⟩, ?_⟩
  ·rw[sentTo_all R 1 R.kept.commit 0 R.kept.log rfl 0 0 0 0 rfl] at hm'
   exact hm'
  ·have:=HM.out.beside (w:=w.drewN nq) hv' hB
   exact⟨this.os,this.tape,this.output,this.size,this.block⟩
 clear hb' hm' hk' hv' x0 x1 x2 x3 x4 x5 x6 x7 x8 x9 x10
 go_wp2_with fail
 go_end0
 exact⟨rfl,HE.out⟩

end Go.Proofs.YtmdgkjbiicaljahGreatDoor
