/- The program's own replica.Leader and replica.Leads. -/
import Derived.Test.YtmdgkjbiicaljagDoorReplMem
import Derived.Deep.DeepCutAuto
import Derived.BigQuiet
import Derived.Deep.QuietTactic
import Derived.Test.YtmdgkjbiicaljagDoorSendGo
namespace Go.Proofs.YtmdgkjbiicaljagDoor
open Go.RowKit
set_option linter.unusedVariables false
set_option linter.unusedSimpArgs false

theorem leader_any (view : Int) (w : World) : Calls Tryd.prog 17 #[.int .i64 view] w fun e w' => e = .returned (.int .i64 (view.tmod 3)) ∧ w' = w := by
  go_enter Tryd.func17, Tryd.ntmps17
  go_wp2
  go_ret
  exact ⟨by simp, rfl⟩

set_option maxHeartbeats 1000000 in
theorem leads_any (R : ReplM) (v : Value) (w : World) (h : ReplAt w v R) :
    Calls Tryd.prog 15 #[v] w fun e w' => e = .returned (.bool (leads R)) ∧ Below w.heap.size w w' := by
  obtain ⟨vl, vh, vw, vg, vn, rfl, hl, hh, hw, hg, hn⟩ := h
  have HL : Hid (leads R = (R.kept.calm && decide (R.kept.view.tmod 3 = R.me))) := rfl
  generalize leads R = X at *
  obtain ⟨me, ⟨vi, nm, cm, l, ct⟩, hav, wants, gives, given⟩ := R
  simp only [replCells] at *
  have b0 := Box.new w 30 [.int .i64 me, .int .i64 vi, .int .i64 nm, .bool cm, vl, .int .i64 ct, vh, vw, vg, vn]
  have HB : Hid (Below w.heap.size w _) := below_alloc w (.cells #[.int .i64 me, .int .i64 vi, .int .i64 nm, .bool cm, vl, .int .i64 ct, vh, vw, vg, vn] 30)
  obtain ⟨w0, hw0⟩ : ∃ w0, w0 = w.alloc (.cells #[.int .i64 me, .int .i64 vi, .int .i64 nm, .bool cm, vl, .int .i64 ct, vh, vw, vg, vn] 30) := ⟨_, rfl⟩
  have HLD : Hid (∀ W, Calls _ _ _ W _) := fun W => leader_any vi W
  clear hl hh hw hg hn
  go_enter Tryd.func15, Tryd.ntmps15
  go_upto_region 1 with fail
  rw [← hw0] at b0 HB ⊢
  clear hw0
  have x0 := b0.cell 0 _ rfl
  have x1 := b0.cell 1 _ rfl
  have x3 := b0.cell 3 _ rfl
  clear b0
  cases cm
  · go_quiet (fail)
    go_wp2_with fail
    go_ret
    exact ⟨by rw [HL.out]; rfl, Below.far HB.out (below_drew_n _ _)⟩
  · go_quiet (first | (go_at_call 17; refine (HLD.out _).mono ?_; rintro e w' ⟨rfl, rfl⟩; exact ⟨rfl, _, rfl⟩))
    go_wp2_with fail
    go_ret
    exact ⟨by rw [HL.out]; simp; rfl, Below.far HB.out (below_drew_n _ _)⟩

end Go.Proofs.YtmdgkjbiicaljagDoor

/- The program's own: what a turn sends to all others, and what it tells. -/
namespace Go.Proofs.YtmdgkjbiicaljagDoor
open Go.RowKit
set_option linter.unusedVariables false
set_option linter.unusedSimpArgs false

def sentTo (me vi : Int) (M : MsgM) (k : Nat) : List MsgM := ((List.range k).filter fun (i : Nat) => decide ((i : Int) ≠ me)).map fun (i : Nat) => ⟨M.kind, me, (i : Int), vi, M.normal, M.commit, M.n, M.log⟩
theorem sentTo_yes (me vi : Int) (M : MsgM) (k : Nat) (h : (k : Int) ≠ me) : sentTo me vi M (k + 1) = sentTo me vi M k ++ [⟨M.kind, me, (k : Int), vi, M.normal, M.commit, M.n, M.log⟩] := by
  unfold sentTo
  rw [List.range_succ, List.filter_append, List.map_append, List.filter_cons_of_pos (by simpa using h)]
  simp
theorem sentTo_no (me vi : Int) (M : MsgM) (k : Nat) (h : (k : Int) = me) : sentTo me vi M (k + 1) = sentTo me vi M k := by
  unfold sentTo
  rw [List.range_succ, List.filter_append, List.map_append, List.filter_cons_of_neg (by simpa using h)]
  simp
theorem sentTo_len (me vi : Int) (M : MsgM) (k : Nat) : (sentTo me vi M k).length ≤ k := by
  unfold sentTo
  rw [List.length_map]
  exact Nat.le_trans (List.length_filter_le _ _) (by simp)
/-- Messages of the call's own. -/
def MsgsNew (w : World) (B : Nat) (v : Value) (L : List MsgM) : Prop := ∃ ps, L = ps.map Prod.fst ∧ MsgsOwn w B v ps

set_option maxRecDepth 4000 in
set_option maxHeartbeats 2000000 in
theorem sendAll_any (b B : Nat) (me vi : Int) (c2 c3 c4 c5 c6 c7 c8 c9 vs : Value) (L : List MsgM) (M : MsgM) (vm : Value) (w : World) (hx : Box w b 68 [.int .i64 me, .int .i64 vi, c2, c3, c4, c5, c6, c7, c8, c9, vs])
    (hms : MsgsNew w B vs L) (hm : ∀ W, Keeps w W → Below w.heap.size w W ∨ (∃ vs', Moved w W b vs vs') → RowAt W vm M.log.length 1 (M.log.map enc)) (hz : M.log.length * 16 ≤ 140737488355328) (hn : L.length ≤ 900) (hB : B ≤ w.heap.size) :
    Calls Tryd.prog 41 #[.pointer (some ⟨b, 0, none⟩), .agg (msgCells M vm).toArray] w fun e w' => e = .returned (.tuple #[]) ∧ ∃ vs', Box w' b 68 [.int .i64 me, .int .i64 vi, c2, c3, c4, c5, c6, c7, c8, c9, vs'] ∧
      MsgsNew w' B vs' (L ++ sentTo me vi M 3) ∧ Keeps w w' ∧ Moved w w' b vs vs' := by
  have HST : Hid (∀ (b : Nat) vs (ms : List (MsgM × Value)) (dst : Int) (W : World), _ → _ → _ → _ → _ → Calls _ _ _ W _) := fun b vs ms dst W h1 h2 h3 h4 h5 => send_any b B me vi c2 c3 c4 c5 c6 c7 c8 c9 vs ms dst M vm W h1 h2 h3 hz h4 h5
  have HY : Hid (∀ k : Nat, (k : Int) ≠ me → sentTo me vi M (k + 1) = sentTo me vi M k ++ [⟨M.kind, me, (k : Int), vi, M.normal, M.commit, M.n, M.log⟩]) := sentTo_yes me vi M
  have HN : Hid (∀ k : Nat, (k : Int) = me → sentTo me vi M (k + 1) = sentTo me vi M k) := sentTo_no me vi M
  have HLn : Hid (∀ k : Nat, (sentTo me vi M k).length ≤ k) := sentTo_len me vi M
  have HM : Hid (∀ W, Keeps w W → Below w.heap.size w W ∨ (∃ vs', Moved w W b vs vs') → RowAt W vm M.log.length 1 (M.log.map enc)) := hm
  generalize hSt : sentTo me vi M = St at *
  have hSt0 : St 0 = [] := by rw [← hSt]; rfl
  have HS0 : Hid (St 0 = []) := hSt0
  clear hSt hSt0 hm
  obtain ⟨kd, fr, ds, mv, mn, mc, mk, ml⟩ := M
  simp only [msgCells] at *
  obtain ⟨am, cm, rfl, _, _⟩ := HM.out w (fun _ _ _ _ _ _ _ r => r) (Or.inl (Below.refl _ _))
  have lb := hx.lt
  have bm := Box.new w 43 [.int .i64 kd, .int .i64 fr, .int .i64 ds, .int .i64 mv, .int .i64 mn, .int .i64 mc, .int .i64 mk, .slice am ml.length cm]
  have hx0 := hx.alloc (.cells #[.int .i64 kd, .int .i64 fr, .int .i64 ds, .int .i64 mv, .int .i64 mn, .int .i64 mc, .int .i64 mk, .slice am ml.length cm] 43)
  obtain ⟨w0, hw0⟩ : ∃ w0, w0 = w.alloc (.cells #[.int .i64 kd, .int .i64 fr, .int .i64 ds, .int .i64 mv, .int .i64 mn, .int .i64 mc, .int .i64 mk, .slice am ml.length cm] 43) := ⟨_, rfl⟩
  have hb0 : Below w.heap.size w w0 := by rw [hw0]; exact below_alloc _ _
  have hs0 : w0.heap.size = w.heap.size + 1 := by rw [hw0]; simp
  have HBM : Hid (Box w0 w.heap.size _ _) := (show Box w0 w.heap.size _ _ from by rw [hw0]; exact bm)
  have HBX : Hid (Box w0 b _ _) := (show Box w0 b _ _ from by rw [hw0]; exact hx0)
  have HB0 : Hid (Below w.heap.size w w0) := hb0
  have HS1 : Hid (w0.heap.size = w.heap.size + 1) := hs0
  have HMS : Hid (MsgsNew w B vs L) := hms
  have HX : Hid (Box w b _ _) := hx
  clear hx0 bm hb0 hs0 hms hx
  go_enter Tryd.func41, Tryd.ntmps41
  go_upto_region 1 with fail
  rw [← hw0]
  clear hw0
  go_wp2_with fail
  go_loopw [5] (fun i wr => ∃ k : Nat, k ≤ 3 ∧ i = .int .i64 k ∧ ∃ vs', Box wr b 68 [.int .i64 me, .int .i64 vi, c2, c3, c4, c5, c6, c7, c8, c9, vs'] ∧ MsgsNew wr B vs' (L ++ St k) ∧ Keeps w wr ∧ Moved w wr b vs vs' ∧ Box wr w.heap.size 43 [.int .i64 kd, .int .i64 fr, .int .i64 ds, .int .i64 mv, .int .i64 mn, .int .i64 mc, .int .i64 mk, .slice am ml.length cm] ∧ vs'.ownBlock ≠ some w.heap.size) (fun i wr => 3 - (intOf i).toNat)
  case atStart =>
    refine ⟨0, by omega, rfl, vs, HBX.out, ?_, Keeps.below HB0.out, Moved.of HB0.out, HBM.out, ?_⟩
    · obtain ⟨ps, h1, h2⟩ := HMS.out
      rw [HS0.out, List.append_nil]
      exact ⟨ps, h1, h2.below HB0.out⟩
    · obtain ⟨ps, h1, h2⟩ := HMS.out
      intro e
      have := own_lt h2.1 _ e
      omega
  case round =>
    obtain ⟨k, hk, rfl, vs', hbx, hmn, hkp, hmv, hbm, hne⟩ := hrel
    have x0 := hbx.cell 0 _ rfl
    have y0 := hbm.cell 0 _ rfl
    have y1 := hbm.cell 1 _ rfl
    have y2 := hbm.cell 2 _ rfl
    have y3 := hbm.cell 3 _ rfl
    have y4 := hbm.cell 4 _ rfl
    have y5 := hbm.cell 5 _ rfl
    have y6 := hbm.cell 6 _ rfl
    have y7 := hbm.cell 7 _ rfl
    have hsz : w.heap.size < wr.heap.size := hbm.lt
    have HBX2 : Hid (Box wr b _ _) := hbx
    have HMN : Hid (MsgsNew wr B vs' (L ++ St k)) := hmn
    have HKP : Hid (Keeps w wr) := hkp
    have HMV : Hid (Moved w wr b vs vs') := hmv
    have HBM2 : Hid (Box wr w.heap.size _ _) := hbm
    have HNE : Hid (vs'.ownBlock ≠ some w.heap.size) := hne
    clear hbx hmn hkp hmv hbm hne HBX HBM HB0
    by_cases hlt : k < 3
    · have k1 : (k : Int) < 3 := by omega
      by_cases hme : (k : Int) = me
      · have q1 : (((k : Int) == me)) = true := by simpa using hme
        have q2 : (((k : Int) != me)) = false := by simpa using hme
        go_wp2_with fail
        go_roundw
        case rel => exact ⟨k + 1, by omega, by go_num, vs', HBX2.out, by rw [HN.out k hme]; exact HMN.out, HKP.out, HMV.out, HBM2.out, HNE.out⟩
        case measure => simp [intOf]; omega
      · have q2 : (((k : Int) != me)) = true := by simpa using hme
        obtain ⟨ps, hL, hps⟩ := HMN.out
        have HPS : Hid (MsgsOwn wr B vs' ps) := hps
        have HL : Hid (L ++ St k = ps.map Prod.fst) := hL
        have HPL : Hid (ps.length ≤ 1000) := by
          have h1 := congrArg List.length hL
          have h2 := HLn.out k
          simp only [List.length_append, List.length_map] at h1
          unfold Hid
          omega
        clear hps hL
        go_wp2_with fail
        refine (HST.out b vs' ps _ wr HBX2.out HPS.out (HM.out wr HKP.out (Or.inr ⟨_, HMV.out⟩)) HPL.out (by omega)).mono ?_
        rintro e w5 ⟨rfl, vs5, vm5, hb5, hm5, hk5, hv5⟩
        have HB5 : Hid (Box w5 b _ _) := hb5
        have HM5 : Hid (MsgsNew w5 B vs5 (L ++ St (k + 1))) := by
          refine ⟨_, ?_, hm5⟩
          rw [HY.out k hme, List.map_append, ← HL.out, List.append_assoc]
          rfl
        have HK5 : Hid (Keeps w w5) := HKP.out.trans hk5
        have HV5 : Hid (Moved w w5 b vs vs5) := HMV.out.trans hv5
        have HBM5 : Hid (Box w5 w.heap.size _ _) := hv5.box HBM2.out (by omega) HNE.out
        have HN5 : Hid (vs5.ownBlock ≠ some w.heap.size) := fun e => by
          rcases hv5.fresh _ e with q | q
          · exact HNE.out q
          · omega
        clear hb5 hm5 hk5 hv5 x0 y0 y1 y2 y3 y4 y5 y6 y7
        go_wp2_with fail
        go_roundw
        case rel => exact ⟨k + 1, by omega, by go_num, vs5, HB5.out, HM5.out, HK5.out, HV5.out, HBM5.out, HN5.out⟩
        case measure => simp [intOf]; omega
    · obtain rfl : k = 3 := by omega
      clear x0 y0 y1 y2 y3 y4 y5 y6 y7
      go_wp2_with fail
      go_end0
      exact ⟨rfl, vs', HBX2.out, HMN.out, HKP.out, HMV.out⟩

end Go.Proofs.YtmdgkjbiicaljagDoor

/- The program's own: a turn, and what it tells. -/
namespace Go.Proofs.YtmdgkjbiicaljagDoor
open Go.RowKit
set_option linter.unusedVariables false
set_option linter.unusedSimpArgs false

theorem sentTo_all (R : ReplM) (kind commit n : Int) (log : List (List UInt8)) (h : n = 0) (fr ds vw nm : Int) (hn : nm = 0) : sentTo R.me R.kept.view ⟨kind, fr, ds, vw, nm, commit, n, log⟩ 3 = toAll R kind commit log := by
  subst h hn
  unfold sentTo toAll others
  rw [show List.range 3 = [0, 1, 2] from rfl]
  by_cases h0 : R.me = 0
  · simp [h0]
  · by_cases h1 : R.me = 1
    · simp [h1]
    · by_cases h2 : R.me = 2
      · simp [h2]
      · have e0 : ¬ (0 : Int) = R.me := fun e => h0 e.symm
        have e1 : ¬ (1 : Int) = R.me := fun e => h1 e.symm
        have e2 : ¬ (2 : Int) = R.me := fun e => h2 e.symm
        simp [e0, e1, e2]
theorem rowAt_own {w : World} {base : Nat} {e : TypeId} {v : Value} {n : Nat} {xs : List Value} (h : w.ownsRow base e 1 v n xs) (hl : xs.length = n) : RowAt w v n 1 xs := by
  obtain ⟨a, cap, hv⟩ := own_form h
  refine ⟨a, cap, hv, by omega, fun j u hj => ?_⟩
  have hj' : j < n := by have := (List.getElem?_eq_some_iff.1 hj).1; omega
  obtain ⟨g, cap', hv', _, _, hc, _⟩ := own_cell h j hj'
  rw [hv] at hv'
  cases hv'
  refine ⟨⟨g, 0, none⟩, rfl, ?_⟩
  rw [Go.WideShapes.add_plain, Nat.zero_add, hc]
  exact hj

/-- A turn of a replica, in memory of the call's own. -/
def TurnAt (w : World) (b B : Nat) (R : ReplM) (L : List MsgM) : Prop :=
  ∃ vl vh vw vg vn vs ps, Box w b 68 [.int .i64 R.me, .int .i64 R.kept.view, .int .i64 R.kept.normal, .bool R.kept.calm, vl, .int .i64 R.kept.commit, vh, vw, vg, vn, vs] ∧ ReplOwn w B R vl vh vw vg vn ps ∧ MsgsNew w B vs L
theorem ReplOwn.keeps {w w' : World} {B : Nat} {R : ReplM} {vl vh vw vg vn : Value} {ps : List (KeptM × Value)} (h : ReplOwn w B R vl vh vw vg vn ps) (hk : Keeps w w') : ReplOwn w' B R vl vh vw vg vn ps :=
  h.map fun e s x m xs he r => hk B e s x m xs he r
theorem MsgsNew.beside {w w' : World} {b B : Nat} {v v' : Value} {L : List MsgM} (h : MsgsNew w B v L) (hm : Moved w w' b v v') (hB : B ≤ w.heap.size) : Beside B b w w' := by
  obtain ⟨ps, _, h1⟩ := h
  exact hm.beside h1.1 hB

set_option maxRecDepth 4000 in
set_option maxHeartbeats 2000000 in
theorem leadOn_any (b B : Nat) (R : ReplM) (L : List MsgM) (w : World) (h : TurnAt w b B R L) (hz : R.kept.log.length * 16 ≤ 140737488355328) (hn : L.length ≤ 900) (hB : B ≤ w.heap.size) :
    Calls Tryd.prog 26 #[.pointer (some ⟨b, 0, none⟩)] w fun e w' => e = .returned (.tuple #[]) ∧ TurnAt w' b B R (L ++ ledBy R) ∧ Beside B b w w' := by
  obtain ⟨vl, vh, vw, vg, vn, vs, ps, hx, ho, hm⟩ := h
  obtain ⟨al, cl, hvl⟩ := own_form ho.2.1
  subst hvl
  have HO : Hid (ReplOwn w B R _ _ _ _ _ _) := ho
  have HM : Hid (MsgsNew w B vs L) := hm
  have HX : Hid (Box w b _ _) := hx
  have HS : Hid (∀ W, Keeps w W → RowAt W (.slice al R.kept.log.length cl) R.kept.log.length 1 (R.kept.log.map enc)) := fun W hk => rowAt_own (hk _ _ _ _ _ _ (Or.inl rfl) ho.2.1) (by simp)
  have x0 := hx.cell 0 _ rfl
  have x1 := hx.cell 1 _ rfl
  have x2 := hx.cell 2 _ rfl
  have x3 := hx.cell 3 _ rfl
  have x4 := hx.cell 4 _ rfl
  have x5 := hx.cell 5 _ rfl
  have x6 := hx.cell 6 _ rfl
  have x7 := hx.cell 7 _ rfl
  have x8 := hx.cell 8 _ rfl
  have x9 := hx.cell 9 _ rfl
  have x10 := hx.cell 10 _ rfl
  clear hx ho hm
  go_enter Tryd.func26, Tryd.ntmps26
  go_upto_region 0 with fail
  refine wp_region_two [0, 0, 0, 0, 0, 0, 0, 0, 0, 0, 0, 0, 0, 0, 1] (by kernel_rfl) (by kernel_rfl) ?_
  simp only [sel, ↓reduceIte, Nat.reduceEqDiff]
  repeat (go_big_quiet_step (fail))
  refine wpQuiet_nil ?_
  intro w9 hw9
  obtain ⟨nq, rfl⟩ := hw9
  go_wp2_with fail
  refine (sendAll_any b B R.me R.kept.view _ _ _ _ _ _ _ _ vs L ⟨1, 0, 0, 0, 0, R.kept.commit, 0, R.kept.log⟩ _ (w.drewN nq) HX.out HM.out (fun W hk _ => HS.out W hk) hz hn hB).mono ?_
  rintro e w' ⟨rfl, vs', hb', hm', hk', hv'⟩
  have HE : Hid (TurnAt w' b B R (L ++ ledBy R) ∧ Beside B b w w') := by
    refine ⟨⟨_, _, _, _, _, _, _, hb', HO.out.keeps hk', ?_⟩, ?_⟩
    · rw [sentTo_all R 1 R.kept.commit 0 R.kept.log rfl 0 0 0 0 rfl] at hm'
      exact hm'
    · have := HM.out.beside (w := w.drewN nq) hv' hB
      exact ⟨this.os, this.tape, this.output, this.size, this.block⟩
  clear hb' hm' hk' hv' x0 x1 x2 x3 x4 x5 x6 x7 x8 x9 x10
  go_wp2_with fail
  go_end0
  exact ⟨rfl, HE.out⟩

end Go.Proofs.YtmdgkjbiicaljagDoor
