/- What a replica comes to, and what it sends, is of bounded size. -/
import Derived.Test.YtmdgkjbiicaljagJointReplMem
import Derived.Test.YtmdgkjbiicaljagJointSameMsg
import Derived.Test.YtmdgkjbiicaljagTickGo
import Derived.Test.YtmdgkjbiicaljagJointTurnGo
import Derived.Test.YtmdgkjbiicaljagJointMachMath
import Derived.Test.YtmdgkjbiicaljagJointCodecIs
import Derived.Test.YtmdgkjbiicaljagJointKeptRead
import Derived.BigQuiet
import Derived.Deep.QuietTactic
namespace Go.Proofs.Ytmdgkjbiicaljag
open Go.RowKit
set_option linter.unusedVariables false
set_option linter.unusedSimpArgs false

theorem texts_nil : TextsIn ([] : List (List UInt8)) := ⟨by simp, fun s hs => by simp at hs⟩
theorem zero_fits : ReplFits zeroRepl := ⟨texts_nil, by simp [zeroRepl], by simp [zeroRepl], by simp [zeroRepl], fun k hk => by simp [zeroRepl] at hk, by simp [zeroRepl]⟩
theorem forgot_fits (R : ReplM) (h : TextsIn R.kept.log) : ReplFits (forgot R) :=
  ⟨h, by simp [forgot], by simp [forgot], by simp [forgot], fun k hk => by
    have : k = zeroKept := by simpa [forgot] using hk
    subst this
    exact texts_nil, by simp [forgot]⟩
theorem wantR_fits (R : ReplM) (view : Int) (h : TextsIn R.kept.log) : ReplFits (wantR R view) :=
  ⟨h, by simp [wantR], by simp [wantR], by simp [wantR], fun k hk => by
    have : k = zeroKept := by simpa [wantR] using hk
    subst this
    exact texts_nil, by simp [wantR]⟩
theorem ReplFits.kept {R : ReplM} (h : ReplFits R) (K : KeptM) (hk : TextsIn K.log) (hav : List Int) (hl : hav.length = R.hav.length) (wants : List Bool) (hw : wants.length = R.wants.length) : ReplFits ⟨R.me, K, hav, wants, R.gives, R.given⟩ :=
  ⟨hk, by show hav.length * 8 ≤ _; rw [hl]; exact h.hav, by show wants.length ≤ _; rw [hw]; exact h.wants, h.gives, h.each, h.given⟩
theorem withGive_fits {R : ReplM} (h : ReplFits R) (i : Nat) (K : KeptM) (hk : TextsIn K.log) : ReplFits (withGive R i K) :=
  ⟨h.log, h.hav, h.wants, by simp [withGive]; exact h.gives, fun k hm => by
    rcases List.mem_or_eq_of_mem_set hm with hm | rfl
    · exact h.each k hm
    · exact hk, by simp [withGive]; exact h.given⟩
theorem own_fits {R : ReplM} (h : ReplFits R) : TextsIn (ownK R).log := h.log
theorem bestLog_fits {R : ReplM} (h : ReplFits R) : TextsIn (bestLog R) := by
  unfold bestLog
  rw [List.getD_eq_getElem?_getD]
  cases e : R.gives[(bestTo R 3).at_.toNat]? with
  | none => exact texts_nil
  | some k => exact h.each k (List.mem_of_getElem? e)
theorem beginR_fits {R : ReplM} (h : ReplFits R) : ReplFits (beginR R) := by
  unfold beginR
  split
  · exact forgot_fits _ (bestLog_fits h)
  · exact h
theorem leadK_fits (K : KeptM) (M : MsgM) (h : TextsIn K.log) (hm : TextsIn M.log) : TextsIn (leadK K M).log := by
  have e : (leadK K M).log = if M.view > K.view ∨ K.calm = false then M.log else if M.log.length > K.log.length then M.log else K.log := by
    unfold leadK
    dsimp only
    split
    · rfl
    · split <;> rfl
  rw [e]
  split
  · exact hm
  · split
    · exact hm
    · exact h
theorem leadR_fits {R : ReplM} (h : ReplFits R) (M : MsgM) (hm : TextsIn M.log) : ReplFits (leadR R M) := by
  have hk := leadK_fits R.kept M h.log hm
  unfold leadR
  split
  · exact forgot_fits _ hk
  · exact h.kept _ hk _ rfl _ rfl
theorem hasR_fits {R : ReplM} (h : ReplFits R) (M : MsgM) : ReplFits (hasR R M) := by
  unfold hasR
  split
  · refine h.kept _ ?_ _ ?_ _ rfl
    · exact h.log
    · rw [List.length_set]
  · exact h
theorem wantedR_fits {R : ReplM} (h : ReplFits R) (M : MsgM) : ReplFits (wantedR R M) := by
  have h1 := h.kept R.kept h.log R.hav rfl (R.wants.set M.frm.toNat true) (List.length_set ..)
  unfold wantedR
  split
  · exact h
  · dsimp only
    generalize (⟨R.me, R.kept, R.hav, R.wants.set M.frm.toNat true, R.gives, R.given⟩ : ReplM) = r1 at *
    split
    · exact beginR_fits (withGive_fits h1 _ _ (own_fits h1))
    · exact h1
theorem wishR_fits {R : ReplM} (h : ReplFits R) (M : MsgM) : ReplFits (wishR R M) := by
  unfold wishR
  split
  · exact wantR_fits _ _ h.log
  · exact h
theorem gaveR_fits {R : ReplM} (h : ReplFits R) (M : MsgM) (hm : TextsIn M.log) : ReplFits (gaveR R M) := by
  unfold gaveR
  split
  · exact withGive_fits h _ _ hm
  · exact withGive_fits (withGive_fits h _ _ (own_fits h)) _ _ hm
theorem giveR_fits {R : ReplM} (h : ReplFits R) (M : MsgM) (hm : TextsIn M.log) : ReplFits (giveR R M) := by
  unfold giveR
  split
  · exact h
  · exact beginR_fits (gaveR_fits h M hm)
theorem hearR_fits {R : ReplM} (h : ReplFits R) (M : MsgM) (hm : TextsIn M.log) : ReplFits (hearR R M) := by
  unfold hearR
  split
  · unfold hearR'
    split
    · exact leadR_fits h M hm
    · split
      · exact hasR_fits h M
      · split
        · exact wantedR_fits (wishR_fits h M) M
        · exact giveR_fits (wishR_fits h M) M hm
  · exact zero_fits
theorem tickR_fits {R : ReplM} (h : ReplFits R) : ReplFits (tickR R) := by
  unfold tickR
  split
  · unfold tickR'
    split
    · exact h
    · exact h.kept _ h.log _ rfl _ (List.length_set ..)
  · exact zero_fits
theorem alarmR_fits {R : ReplM} (h : ReplFits R) : ReplFits (alarmR R) := by
  unfold alarmR
  split
  · exact wantR_fits R _ h.log
  · exact zero_fits
theorem takeR_fits {R : ReplM} (h : ReplFits R) (s : List UInt8) (hs : s.length ≤ 140737488355328) : ReplFits (takeR R s) := by
  unfold takeR
  split
  · rename_i h0
    have hl : R.kept.log.length < 60 := by
      unfold takeE at h0
      split at h0
      · contradiction
      · split at h0
        · omega
        · split at h0
          · omega
          · omega
    refine h.kept _ ⟨?_, fun t ht => ?_⟩ _ rfl _ rfl
    · simp only [List.length_append, List.length_singleton]; omega
    · rcases List.mem_append.1 ht with ht | ht
      · exact h.log.2 t ht
      · rw [List.mem_singleton.1 ht]; exact hs
  · exact zero_fits

/-- Few messages, their texts in bounds. -/
def MsgsFew (n : Nat) (L : List MsgM) : Prop := L.length ≤ n ∧ ∀ m ∈ L, TextsIn m.log
theorem MsgsFew.app {n k : Nat} {L K : List MsgM} (h : MsgsFew n L) (g : MsgsFew k K) : MsgsFew (n + k) (L ++ K) :=
  ⟨by rw [List.length_append]; have := h.1; have := g.1; omega, fun m hm => (List.mem_append.1 hm).elim (h.2 m) (g.2 m)⟩
theorem MsgsFew.more {n k : Nat} {L : List MsgM} (h : MsgsFew n L) (hk : n ≤ k) : MsgsFew k L := ⟨Nat.le_trans h.1 hk, h.2⟩
theorem few_nil : MsgsFew 0 [] := ⟨by simp, fun m hm => by simp at hm⟩
theorem toAll_few (R : ReplM) (k c : Int) (l : List (List UInt8)) (h : TextsIn l) : MsgsFew 3 (toAll R k c l) := by
  have hl : (others R.me).length ≤ 3 := by unfold others; exact List.length_filter_le _ _
  refine ⟨by unfold toAll; rw [List.length_map]; omega, fun m hm => ?_⟩
  unfold toAll at hm
  obtain ⟨i, _, rfl⟩ := List.mem_map.1 hm
  exact h
theorem ledBy_few {R : ReplM} (h : ReplFits R) : MsgsFew 3 (ledBy R) := toAll_few _ _ _ _ h.log
theorem hasMsg_few (R : ReplM) (i : Int) : MsgsFew 3 [hasMsg R i] := ⟨by simp, fun m hm => by rw [List.mem_singleton.1 hm]; exact texts_nil⟩
theorem wantL_few (R : ReplM) (view : Int) : MsgsFew 3 (wantL R view) := toAll_few _ _ _ _ texts_nil
theorem beginL_few {R : ReplM} (h : ReplFits R) : MsgsFew 3 (beginL R) := by
  unfold beginL
  split
  · exact ledBy_few (beginR_fits h)
  · exact few_nil.more (by omega)
theorem hasL_few {R : ReplM} (h : ReplFits R) (M : MsgM) : MsgsFew 3 (hasL R M) := by
  unfold hasL
  split
  · split
    · exact ledBy_few (hasR_fits h M)
    · exact few_nil.more (by omega)
  · exact few_nil.more (by omega)
theorem wantedL_few {R : ReplM} (h : ReplFits R) (M : MsgM) : MsgsFew 3 (wantedL R M) := by
  have h1 := h.kept R.kept h.log R.hav rfl (R.wants.set M.frm.toNat true) (List.length_set ..)
  unfold wantedL
  split
  · exact few_nil.more (by omega)
  · dsimp only
    generalize (⟨R.me, R.kept, R.hav, R.wants.set M.frm.toNat true, R.gives, R.given⟩ : ReplM) = r1 at *
    split
    · exact beginL_few (withGive_fits h1 _ _ (own_fits h1))
    · exact ⟨by simp, fun m hm => by rw [List.mem_singleton.1 hm]; exact h.log⟩
theorem wishL_few (R : ReplM) (M : MsgM) : MsgsFew 3 (wishL R M) := by
  unfold wishL
  split
  · exact wantL_few _ _
  · exact few_nil.more (by omega)
theorem giveL_few {R : ReplM} (h : ReplFits R) (M : MsgM) (hm : TextsIn M.log) : MsgsFew 3 (giveL R M) := by
  unfold giveL
  split
  · exact few_nil.more (by omega)
  · exact beginL_few (gaveR_fits h M hm)
theorem hearL_few {R : ReplM} (h : ReplFits R) (M : MsgM) (hm : TextsIn M.log) : MsgsFew 6 (hearL R M) := by
  unfold hearL
  split
  · unfold hearL'
    split
    · exact (hasMsg_few _ _).more (by omega)
    · split
      · exact (hasL_few h M).more (by omega)
      · split
        · exact (wishL_few R M).app (wantedL_few (wishR_fits h M) M)
        · exact (wishL_few R M).app (giveL_few (wishR_fits h M) M hm)
  · exact few_nil.more (by omega)
theorem tickL_few {R : ReplM} (h : ReplFits R) : MsgsFew 6 (tickL R) := by
  unfold tickL
  split
  · unfold tickL'
    split
    · exact (ledBy_few h).more (by omega)
    · split
      · exact (hasMsg_few _ _).more (by omega)
      · exact (toAll_few _ _ _ _ texts_nil).more (by omega)
  · exact few_nil.more (by omega)
theorem alarmL_few (R : ReplM) : MsgsFew 6 (alarmL R) := by
  unfold alarmL
  split
  · exact (wantL_few _ _).more (by omega)
  · exact few_nil.more (by omega)
theorem takeL_few {R : ReplM} (h : ReplFits R) (s : List UInt8) (hs : s.length ≤ 140737488355328) : MsgsFew 6 (takeL R s) := by
  have hf := takeR_fits h s hs
  unfold takeR at hf
  unfold takeL
  split
  · rename_i h0
    rw [if_pos h0] at hf
    exact (ledBy_few hf).more (by omega)
  · exact few_nil.more (by omega)
theorem MsgsNew.at {w : World} {B : Nat} {v : Value} {L : List MsgM} {n : Nat} (h : MsgsNew w B v L) (hf : MsgsFew n L) (hn : n ≤ 1000) : MsgsAt w v L := by
  obtain ⟨ps, rfl, hp⟩ := h
  exact MsgsAt.of_own hp (by have := hf.1; rw [List.length_map] at this; omega) fun p hp => hf.2 _ (List.mem_map.2 ⟨p, hp, rfl⟩)

end Go.Proofs.Ytmdgkjbiicaljag

/- The document's toAll and ledBy. -/
namespace Go.Proofs.Ytmdgkjbiicaljag
open Go.RowKit
set_option linter.unusedVariables false
set_option linter.unusedSimpArgs false
attribute [local go_sem] app_list ext_list get_list byteAt_zero

theorem infoStrR : Try.prog.info? 9 = some Try.t9 := by kernel_rfl
theorem zeroStrR : Try.t9.zero = some (.string ⟨#[]⟩) := by kernel_rfl
theorem sizeStrR : Try.t9.size = 1 := by kernel_rfl
theorem bytesStrR : Try.t9.bytes = 16 := by kernel_rfl

set_option maxRecDepth 4000 in
set_option maxHeartbeats 4000000 in
theorem toAllOf_any (me vi : Int) (c2 c3 c4 c5 c6 c7 c8 c9 : Value) (M : MsgM) (vm : Value) (w : World) (hm : RowAt w vm M.log.length 1 (M.log.map enc)) (hz : M.log.length * 16 ≤ 140737488355328) :
    Calls Try.prog 39 #[.agg #[.int .i64 me, .int .i64 vi, c2, c3, c4, c5, c6, c7, c8, c9], .agg (msgCells M vm).toArray] w fun e w' => ∃ v, e = .returned v ∧ MsgsNew w' w.heap.size v (sentTo me vi M 3) ∧ Below w.heap.size w w' := by
  have HY : Hid (∀ k : Nat, (k : Int) ≠ me → sentTo me vi M (k + 1) = sentTo me vi M k ++ [⟨M.kind, me, (k : Int), vi, M.normal, M.commit, M.n, M.log⟩]) := sentTo_yes me vi M
  have HN : Hid (∀ k : Nat, (k : Int) = me → sentTo me vi M (k + 1) = sentTo me vi M k) := sentTo_no me vi M
  have HLn : Hid (∀ k : Nat, (sentTo me vi M k).length ≤ k) := sentTo_len me vi M
  generalize hSt : sentTo me vi M = St at *
  have HS0 : Hid (St 0 = []) := by unfold Hid; rw [← hSt]; rfl
  clear hSt
  obtain ⟨kd, fr, ds, mv, mn, mc, mk, ml⟩ := M
  simp only [msgCells] at *
  have HM : Hid (RowAt w vm ml.length 1 (ml.map enc)) := hm
  obtain ⟨am, cm, rfl, _, _⟩ := hm
  obtain ⟨b0, b1, hb⟩ := boxes2 w 29 31 [.int .i64 me, .int .i64 vi, c2, c3, c4, c5, c6, c7, c8, c9] [.int .i64 kd, .int .i64 fr, .int .i64 ds, .int .i64 mv, .int .i64 mn, .int .i64 mc, .int .i64 mk, .slice am ml.length cm]
  obtain ⟨w0, hw0⟩ : ∃ w0, w0 = (w.alloc (.cells #[.int .i64 me, .int .i64 vi, c2, c3, c4, c5, c6, c7, c8, c9] 29)).alloc (.cells #[.int .i64 kd, .int .i64 fr, .int .i64 ds, .int .i64 mv, .int .i64 mn, .int .i64 mc, .int .i64 mk, .slice am ml.length cm] 31) := ⟨_, rfl⟩
  have hsz : w0.heap.size = w.heap.size + 1 + 1 := by rw [hw0]; simp
  go_enter Try.func39, Try.ntmps39
  go_upto_region 1 with fail
  rw [← hw0] at b0 b1 hb ⊢
  clear hw0
  have HB0 : Hid (Box w0 w.heap.size _ _) := b0
  have HB1 : Hid (Box w0 (w.heap.size + 1) _ _) := b1
  have HBW : Hid (Below w.heap.size w w0) := hb
  have HSZ : Hid (w0.heap.size = w.heap.size + 1 + 1) := hsz
  clear b0 b1 hb hsz
  go_wp2_with fail
  go_loopw [5, 6] (fun o i wr => ∃ k : Nat, k ≤ 3 ∧ i = .int .i64 k ∧ Below w0.heap.size w0 wr ∧ MsgsNew wr w0.heap.size o (St k)) (fun o i wr => 3 - (intOf i).toNat)
  case atStart => exact ⟨0, by omega, rfl, Below.refl _ _, [], by rw [HS0.out]; rfl, World.ownsRow_nil _ _ _ _, fun p hp => by simp at hp⟩
  case round =>
    obtain ⟨k, hk, rfl, hbr, hmn⟩ := hrel
    obtain ⟨ps, hps, hpo⟩ := hmn
    obtain ⟨ao, co, rfl⟩ := own_formN hpo.1
    have q0 := HB0.out.below hbr HB0.out.lt
    have q1 := HB1.out.below hbr HB1.out.lt
    have x0 := q0.cell 0 _ rfl
    have x1 := q0.cell 1 _ rfl
    have y0 := q1.cell 0 _ rfl
    have y1 := q1.cell 1 _ rfl
    have y2 := q1.cell 2 _ rfl
    have y3 := q1.cell 3 _ rfl
    have y4 := q1.cell 4 _ rfl
    have y5 := q1.cell 5 _ rfl
    have y6 := q1.cell 6 _ rfl
    have y7 := q1.cell 7 _ rfl
    have HBR : Hid (Below w0.heap.size w0 wr) := hbr
    have HMN : Hid (St k = ps.map Prod.fst ∧ MsgsOwn wr w0.heap.size (.slice ao ps.length co) ps) := ⟨hps, hpo⟩
    have HPL : Hid (ps.length ≤ 3) := by
      have h1 := congrArg List.length hps
      have h2 := HLn.out k
      rw [List.length_map] at h1
      unfold Hid
      omega
    have HQ0 : Hid (Box wr w.heap.size _ _) := q0
    have HQ1 : Hid (Box wr (w.heap.size + 1) _ _) := q1
    have l0 := q0.lt
    have l1 := q1.lt
    clear hbr hps hpo q0 q1
    by_cases hlt : k < 3
    · have k1 : (k : Int) < 3 := by omega
      by_cases hme : (k : Int) = me
      · have q2 : (((k : Int) != me)) = false := by simpa using hme
        go_wp2_with fail
        go_roundw
        case rel => exact ⟨k + 1, by omega, by go_num, HBR.out, ps, by rw [HN.out k hme]; exact HMN.out.1, HMN.out.2⟩
        case measure => simp [intOf]; omega
      · have q2 : (((k : Int) != me)) = true := by simpa using hme
        have bx := Box.new wr 31 [.int .i64 kd, .int .i64 me, .int .i64 (k : Int), .int .i64 vi, .int .i64 mn, .int .i64 mc, .int .i64 mk, .slice am ml.length cm]
        obtain ⟨w1, hw1⟩ : ∃ w1, w1 = wr.alloc (.cells #[.int .i64 kd, .int .i64 me, .int .i64 (k : Int), .int .i64 vi, .int .i64 mn, .int .i64 mc, .int .i64 mk, .slice am ml.length cm] 31) := ⟨_, rfl⟩
        have hb1 : Below wr.heap.size wr w1 := by rw [hw1]; exact below_alloc _ _
        have hs1 : w1.heap.size = wr.heap.size + 1 := by rw [hw1]; simp
        go_upto_region 10 with fail
        rw [← hw1] at bx ⊢
        clear hw1
        have y7' := (HQ1.out.below hb1 l1).cell 7 _ rfl
        have HRW : Hid (RowAt w1 (.slice am ml.length cm) ml.length 1 (ml.map enc)) := RowAt.below HM.out (Below.far (Below.far HBW.out HBR.out) hb1)
        have HB1' : Hid (Below wr.heap.size wr w1) := hb1
        have HBX : Hid (Box w1 wr.heap.size _ _) := bx
        have HS1 : Hid (w1.heap.size = wr.heap.size + 1) := hs1
        clear bx hb1 hs1 x0 x1 y0 y1 y2 y3 y4 y5 y6 y7
        go_wp2_with (at_builtin; refine wpList_append_row _ rfl _ _ 22 rfl w1.heap.size 9 Try.t9 _ 1 16 Try.underlying22 infoStrR zeroStrR sizeStrR bytesStrR rfl (by decide) _ 0 [] rfl (World.ownsRow_nil _ _ _ _) _ ml.length (ml.map enc) rfl HRW.out (by intro u hu; obtain ⟨x, _, rfl⟩ := List.mem_map.1 hu; rfl) (by unfold maxLen; omega) (by omega) (Nat.le_refl _) ?_)
        intro v2 w2 ho2 hg2 hat2
        try rw [Nat.zero_add, List.nil_append] at ho2
        obtain ⟨a2, k2, rfl⟩ := own_form ho2
        have hb2 : Below w1.heap.size w1 w2 := (Below.refl _ _).grown hg2 (Nat.le_refl _) (fun k e => by cases e)
        have BX2 := HBX.out.below hb2 HBX.out.lt
        have z7 := BX2.cell 7 _ rfl
        have g7 := BX2.frozen 7
        have HB2 : Hid (Below wr.heap.size wr (w2.setCell ⟨wr.heap.size, 7, none⟩ (.slice a2 ml.length k2))) := (Below.far HB1'.out hb2).setCell (p := ⟨wr.heap.size, 7, none⟩) (Nat.le_refl _) _
        have HBX2 : Hid (Box (w2.setCell ⟨wr.heap.size, 7, none⟩ (.slice a2 ml.length k2)) wr.heap.size _ _) := BX2.set 7 _
        have HO2 : Hid (World.ownsRow (w2.setCell ⟨wr.heap.size, 7, none⟩ (.slice a2 ml.length k2)) w1.heap.size 9 1 (.slice a2 ml.length k2) ml.length (ml.map enc)) := own_other ho2 (fun e => by have := own_ge ho2 _ e; have := HS1.out; simp at *; omega) _
        clear ho2 hg2 hat2 hb2 BX2 y7'
        go_upto_region 11 with fail
        generalize hw3 : w2.setCell _ _ = w3
        rw [hw3] at HB2 HBX2 HO2
        clear hw3 z7 g7
        have m0 := HBX2.out
        have z0 := m0.cell 0 _ rfl
        have z1 := m0.cell 1 _ rfl
        have z2 := m0.cell 2 _ rfl
        have z3 := m0.cell 3 _ rfl
        have z4 := m0.cell 4 _ rfl
        have z5 := m0.cell 5 _ rfl
        have z6 := m0.cell 6 _ rfl
        have z7 := m0.cell 7 _ rfl
        have hs3 : wr.heap.size < w3.heap.size := m0.lt
        have HPO : Hid (MsgsOwn w3 w0.heap.size (.slice ao ps.length co) ps) := HMN.out.2.below HB2.out
        have HBS : Hid (w0.heap.size ≤ wr.heap.size) := HBR.out.size
        clear m0
        go_wp2_with (at_builtin; refine wpList_append_row _ rfl _ _ 33 rfl w0.heap.size 31 Try.t31 _ 8 80 Try.underlying33 infoMsg zeroMsgV sizeMsg bytesMsg rfl (by decide) _ ps.length (ps.flatMap msgRow) rfl (own_below HPO.out.1 (below_alloc w3 (.cells #[.int .i64 kd, .int .i64 me, .int .i64 (k : Int), .int .i64 vi, .int .i64 mn, .int .i64 mc, .int .i64 mk, .slice a2 ml.length k2] 31)) (own_lt HPO.out.1)) _ 1 [.int .i64 kd, .int .i64 me, .int .i64 (k : Int), .int .i64 vi, .int .i64 mn, .int .i64 mc, .int .i64 mk, .slice a2 ml.length k2] rfl (rowAt_box (Box.new w3 _ _) 1 8 rfl) (by simp [Value.oneCell']) (by have := HPL.out; unfold maxLen; omega) (by have := HPL.out; omega) (by have := HBS.out; simp; omega) ?_)
        intro v4 w4 ho4 hg4 hat4
        obtain ⟨a4, k4, hv4⟩ := own_formN ho4
        subst hv4
        have HE : Hid (Below w0.heap.size w0 w4 ∧ MsgsNew w4 w0.heap.size (.slice a4 (ps.length + 1) k4) (St (k + 1))) := by
          have hA := below_alloc w3 (.cells #[.int .i64 kd, .int .i64 me, .int .i64 (k : Int), .int .i64 vi, .int .i64 mn, .int .i64 mc, .int .i64 mk, .slice a2 ml.length k2] 31)
          have kA : Keeps w3 w4 := (Keeps.below hA).trans (Keeps.grown (own_below HPO.out.1 hA (own_lt HPO.out.1)) hg4)
          have hbs := HBS.out
          refine ⟨(Below.far HBR.out (Below.far HB2.out hA)).grown hg4 (by simp; omega) (fun k e => own_ge HPO.out.1 k e), ?_⟩
          refine ⟨ps ++ [(⟨kd, me, (k : Int), vi, mn, mc, mk, ml⟩, .slice a2 ml.length k2)], ?_, HPO.out.snoc (M := ⟨kd, me, (k : Int), vi, mn, mc, mk, ml⟩) (vm := .slice a2 ml.length k2) kA ho4 (kA _ _ _ _ _ _ (Or.inl rfl) (own_base HO2.out (by have := HS1.out; omega)))⟩
          rw [HY.out k hme, List.map_append, ← HMN.out.1]
          rfl
        clear ho4 hg4 hat4 z0 z1 z2 z3 z4 z5 z6 z7 HPO HO2 HBX2 HB2
        go_wp2_with fail
        go_roundw
        case rel => exact ⟨k + 1, by omega, by go_num, HE.out.1, HE.out.2⟩
        case measure => simp [intOf]; omega
    · obtain rfl : k = 3 := by omega
      clear x0 x1 y0 y1 y2 y3 y4 y5 y6 y7
      go_wp2_with fail
      go_ret
      refine ⟨_, rfl, ⟨ps, HMN.out.1, HMN.out.2.base (by have := HSZ.out; omega)⟩, Below.far HBW.out HBR.out⟩

set_option maxRecDepth 4000 in
set_option maxHeartbeats 4000000 in
theorem ledByOf_any (R : ReplM) (v : Value) (w : World) (h : ReplAt w v R) (hf : ReplFits R) :
    Calls Try.prog 36 #[v] w fun e w' => ∃ v', e = .returned v' ∧ MsgsNew w' w.heap.size v' (ledBy R) ∧ Below w.heap.size w w' := by
  obtain ⟨vl, vh, vw, vg, vn, rfl, hl, hh, hw, hg, hn⟩ := h
  have HL : Hid (Strs w vl R.kept.log) := hl
  obtain ⟨al, cl, rfl, _, _⟩ := hl
  obtain ⟨ah, ch, rfl, _, _⟩ := hh
  obtain ⟨aw, cw, rfl, _, _⟩ := hw
  obtain ⟨ag, cg, rfl, _, _⟩ := hg
  obtain ⟨an, cn, rfl, _, _⟩ := hn
  simp only [replCells] at *
  have b0 := Box.new w 29 [.int .i64 R.me, .int .i64 R.kept.view, .int .i64 R.kept.normal, .bool R.kept.calm, .slice al R.kept.log.length cl, .int .i64 R.kept.commit, .slice ah R.hav.length ch, .slice aw R.wants.length cw, .slice ag R.gives.length cg, .slice an R.given.length cn]
  obtain ⟨w0, hw0⟩ : ∃ w0, w0 = w.alloc (.cells #[.int .i64 R.me, .int .i64 R.kept.view, .int .i64 R.kept.normal, .bool R.kept.calm, .slice al R.kept.log.length cl, .int .i64 R.kept.commit, .slice ah R.hav.length ch, .slice aw R.wants.length cw, .slice ag R.gives.length cg, .slice an R.given.length cn] 29) := ⟨_, rfl⟩
  have hb : Below w.heap.size w w0 := by rw [hw0]; exact below_alloc _ _
  go_enter Try.func36, Try.ntmps36
  go_upto_region 1 with fail
  rw [← hw0] at b0 ⊢
  clear hw0
  have x0 := b0.cell 0 _ rfl
  have x1 := b0.cell 1 _ rfl
  have x2 := b0.cell 2 _ rfl
  have x3 := b0.cell 3 _ rfl
  have x4 := b0.cell 4 _ rfl
  have x5 := b0.cell 5 _ rfl
  have x6 := b0.cell 6 _ rfl
  have x7 := b0.cell 7 _ rfl
  have x8 := b0.cell 8 _ rfl
  have x9 := b0.cell 9 _ rfl
  have HBW : Hid (Below w.heap.size w w0) := hb
  have HTA : Hid (Calls _ _ _ w0 _) := toAllOf_any R.me R.kept.view (.int .i64 R.kept.normal) (.bool R.kept.calm) (.slice al R.kept.log.length cl) (.int .i64 R.kept.commit) (.slice ah R.hav.length ch) (.slice aw R.wants.length cw) (.slice ag R.gives.length cg) (.slice an R.given.length cn) ⟨1, 0, 0, 0, 0, R.kept.commit, 0, R.kept.log⟩ _ w0 (HL.out.below hb).row hf.log.1
  rw [sentTo_all R 1 R.kept.commit 0 R.kept.log rfl 0 0 0 0 rfl] at HTA
  simp only [msgCells] at HTA
  clear hb b0
  go_wp2_with fail
  refine HTA.out.mono ?_
  rintro e w1 ⟨v1, rfl, hm1, hb1⟩
  obtain ⟨ps, hL, hp⟩ := hm1
  obtain ⟨a1, k1, rfl⟩ := own_formN hp.1
  have HE : Hid (MsgsNew w1 w.heap.size (.slice a1 ps.length k1) (ledBy R) ∧ Below w.heap.size w w1) := ⟨⟨ps, hL, hp.base HBW.out.size⟩, Below.far HBW.out hb1⟩
  clear hL hp hb1 x0 x1 x2 x3 x4 x5 x6 x7 x8 x9 HTA
  go_wp2_with fail
  go_ret
  exact ⟨_, rfl, HE.out⟩

end Go.Proofs.Ytmdgkjbiicaljag

/- The walk of the document's answer In. -/
namespace Go.Proofs.Ytmdgkjbiicaljag
open Go.RowKit
set_option linter.unusedVariables false

set_option maxHeartbeats 400000 in
theorem in_any (n a b : Int) (w : World) :
    Calls Try.prog 54 #[.int .i64 n, .int .i64 a, .int .i64 b] w fun e w' => e = .returned (.bool (decide (a ≤ n) && decide (n ≤ b))) ∧ w' = w := by
  by_cases h1 : a ≤ n
  · have q1 : decide (a ≤ n) = true := by simpa using h1
    go_enter Try.func54, Try.ntmps54
    go_wp2
    go_ret
    refine ⟨?_, rfl⟩
    simp
    exact fun _ => h1
  · have q1 : decide (a ≤ n) = false := by simpa using h1
    rw [q1]
    go_enter Try.func54, Try.ntmps54
    go_wp2
    go_ret
    exact ⟨by simp, rfl⟩

end Go.Proofs.Ytmdgkjbiicaljag

/- The walk of the document's answer OpFault. -/
namespace Go.Proofs.Ytmdgkjbiicaljag
open Go.RowKit
set_option linter.unusedVariables false
set_option linter.unusedSimpArgs false

attribute [local go_sem] app_list ext_list get_list byteAt_zero

set_option maxHeartbeats 1000000 in
theorem opFaultR_any (o : OpM) (w : World) (hl : o.data.length ≤ 281474976710656) :
    Calls Try.prog 74 #[.agg #[.int .i64 o.kind, .int .i64 o.place, .int .i64 o.snap, .string ⟨o.data.toArray⟩]] w fun e w' => e = .returned (.int .i64 (opFault o)) ∧ Below w.heap.size w w' := by
  obtain ⟨k, p, s, d⟩ := o
  have hd : d = [] ∨ ∃ c r, d = c :: r := by cases d; exact Or.inl rfl; exact Or.inr ⟨_, _, rfl⟩
  rcases hd with rfl | ⟨c, r, rfl⟩
  all_goals
    go_enter Try.func74, Try.ntmps74
    go_wp2_with (go_at_call 54; refine (in_any _ _ _ _).mono ?_; rintro e w' ⟨rfl, rfl⟩)
  all_goals
    go_ret
    refine ⟨ret_eq (congrArg (Value.int .i64) ?_), below_alloc _ _⟩
    show _ = opFaultN _ _ _ _
    simp only [List.length_nil, List.length_cons, Bool.not_eq_true', Bool.not_eq_false', decide_eq_true_eq, decide_eq_false_iff_not, beq_iff_eq, bne_iff_ne, ne_eq, beq_eq_false_iff_ne, bne_eq_false_iff_eq] at *
    unfold opFaultN
    repeat' split
    all_goals first | rfl | (exfalso; omega)

end Go.Proofs.Ytmdgkjbiicaljag

/- The walk of the document's answer RequestFault. -/
namespace Go.Proofs.Ytmdgkjbiicaljag
open Go.RowKit
set_option linter.unusedVariables false
set_option linter.unusedSimpArgs false
attribute [local go_sem] app_list ext_list get_list byteAt_zero

set_option maxHeartbeats 1000000 in
theorem reqFaultR_any (r : ReqM) (w : World) (hl : r.op.data.length ≤ 281474976710656) :
    Calls Try.prog 65 #[reqVal r] w fun e w' => e = .returned (.int .i64 (reqFault r)) ∧ Below w.heap.size w w' := by
  obtain ⟨c, n, k, p, s, d⟩ := r
  unfold reqVal
  have HO : Hid (∀ w, Calls _ _ _ w _) := fun w => opFaultR_any ⟨k, p, s, d⟩ w hl
  obtain ⟨F, HF⟩ : ∃ F, Hid (opFault ⟨k, p, s, d⟩ = F) := ⟨_, rfl⟩
  rw [HF.out] at HO
  by_cases h1 : 1 ≤ c ∧ c ≤ 4
  · have q1 : (decide (1 ≤ c) && decide (c ≤ 4)) = true := by simp [h1]
    by_cases h2 : 1 ≤ n ∧ n ≤ 1048576
    · have q2 : (decide (1 ≤ n) && decide (n ≤ 1048576)) = true := by simp [h2]
      have HR : Hid (reqFault ⟨c, n, k, p, s, d⟩ = F) := by unfold Hid reqFault; rw [if_pos ⟨h1, h2⟩]; exact HF.out
      clear h1 h2
      go_enter Try.func65, Try.ntmps65
      go_wp2_with (first
        | (go_at_call 54; refine (in_any _ _ _ _).mono ?_; rintro e w' ⟨rfl, rfl⟩; first | rw [q1] | rw [q2])
        | (go_at_call 74; refine (HO.out _).mono ?_; rintro e w' ⟨rfl, hb⟩))
      go_ret
      rw [HR.out]
      exact ⟨rfl, Below.seq (below_alloc _ _) hb⟩
    · have q2 : (decide (1 ≤ n) && decide (n ≤ 1048576)) = false := by simp; omega
      have HR : Hid (reqFault ⟨c, n, k, p, s, d⟩ = 2) := by unfold Hid reqFault; rw [if_neg (fun h => h2 h.2)]
      clear h1 h2
      go_enter Try.func65, Try.ntmps65
      go_wp2_with (first
        | (go_at_call 54; refine (in_any _ _ _ _).mono ?_; rintro e w' ⟨rfl, rfl⟩; first | rw [q1] | rw [q2]))
      go_ret
      rw [HR.out]
      exact ⟨rfl, below_alloc _ _⟩
  · have q1 : (decide (1 ≤ c) && decide (c ≤ 4)) = false := by simp; omega
    have HR : Hid (reqFault ⟨c, n, k, p, s, d⟩ = 2) := by unfold Hid reqFault; rw [if_neg (fun h => h1 h.1)]
    clear h1
    go_enter Try.func65, Try.ntmps65
    go_wp2_with (first
      | (go_at_call 54; refine (in_any _ _ _ _).mono ?_; rintro e w' ⟨rfl, rfl⟩; rw [q1]))
    go_ret
    rw [HR.out]
    exact ⟨rfl, below_alloc _ _⟩

end Go.Proofs.Ytmdgkjbiicaljag

/- The walks of the document's answers NumberOf and TextOf. -/
namespace Go.Proofs.Ytmdgkjbiicaljag
open Go.RowKit
set_option linter.unusedVariables false
attribute [local go_sem] app_list ext_list get_list byteAt_zero

theorem valN_step (l : List UInt8) (k : Nat) : valN l (k + 1) = 256 * valN l k + byteAt l k := rfl

set_option maxHeartbeats 400000 in
theorem numberOf_short (l : List UInt8) (w : World) (h : l.length < 4) :
    Calls Try.prog 63 #[.string ⟨l.toArray⟩] w fun e w' => e = .returned (.tuple #[.int .i64 0, .string ⟨[].toArray⟩, .int .i64 5]) ∧ Below w.heap.size w w' := by
  go_enter Try.func63, Try.ntmps63
  go_wp2
  go_ret3
  exact ⟨rfl, Below.refl _ _⟩

set_option maxHeartbeats 1000000 in
theorem numberOf_any (l : List UInt8) (w : World) (h : 4 ≤ l.length) (hl : l.length ≤ 281474976710656) :
    Calls Try.prog 63 #[.string ⟨l.toArray⟩] w fun e w' => e = .returned (if valN l 4 ≤ 1073741824 then .tuple #[.int .i64 (valN l 4), .string ⟨(l.drop 4).toArray⟩, .int .i64 0] else .tuple #[.int .i64 0, .string ⟨[].toArray⟩, .int .i64 4]) ∧ Below w.heap.size w w' := by
  go_enter Try.func63, Try.ntmps63
  go_wp2
  go_loop [5, 6] (fun n i => ∃ k : Nat, k ≤ 4 ∧ i = .int .i64 k ∧ n = .int .i64 (valN l k)) (fun _ i => 4 - (intOf i).toNat)
  case atStart => exact ⟨0, by omega, rfl, rfl⟩
  case round =>
    obtain ⟨k, hk, rfl, rfl⟩ := hrel
    by_cases hlt : k < 4
    · have hb := valN_lt3 l k hlt
      have hy := byteAt_bd l k
      go_wp2
      exact ⟨⟨k + 1, by omega, by go_num, by rw [valN_step]⟩, by simp [intOf]; omega⟩
    · obtain rfl : k = 4 := by omega
      by_cases hv : valN l 4 ≤ 1073741824
      · go_wp2
        go_quiet (fail)
        go_wp2
        go_ret3
        refine ⟨?_, below_drew_n _ _⟩
        simp
      · go_wp2
        go_ret3
        refine ⟨?_, Below.refl _ _⟩
        simp

set_option maxHeartbeats 400000 in
theorem textOf_nil (w : World) :
    Calls Try.prog 64 #[.string ⟨[].toArray⟩] w fun e w' => e = .returned (.tuple #[.string ⟨[].toArray⟩, .string ⟨[].toArray⟩, .int .i64 5]) ∧ Below w.heap.size w w' := by
  go_enter Try.func64, Try.ntmps64
  go_wp2
  go_ret3
  exact ⟨rfl, Below.refl _ _⟩

set_option maxHeartbeats 400000 in
theorem textOf_short (c : UInt8) (r : List UInt8) (w : World) (h : r.length < c.toNat) :
    Calls Try.prog 64 #[.string ⟨(c :: r).toArray⟩] w fun e w' => e = .returned (.tuple #[.string ⟨[].toArray⟩, .string ⟨[].toArray⟩, .int .i64 5]) ∧ Below w.heap.size w w' := by
  have hc := UInt8.toNat_lt c
  go_enter Try.func64, Try.ntmps64
  go_wp2
  go_ret3
  exact ⟨rfl, Below.refl _ _⟩

set_option maxHeartbeats 400000 in
theorem textOf_ok (c : UInt8) (r : List UInt8) (w : World) (h : c.toNat ≤ r.length) (hl : r.length ≤ 281474976710656) :
    Calls Try.prog 64 #[.string ⟨(c :: r).toArray⟩] w fun e w' => e = .returned (.tuple #[.string ⟨(r.take c.toNat).toArray⟩, .string ⟨(r.drop c.toNat).toArray⟩, .int .i64 0]) ∧ Below w.heap.size w w' := by
  have q0 : ((r.length : Int) + 1 == 0) = false := by simp; omega
  have hc := UInt8.toNat_lt c
  go_enter Try.func64, Try.ntmps64
  go_wp2
  go_quiet (fail)
  go_wp2
  go_ret3
  refine ⟨?_, below_drew_n _ _⟩
  simp [show 1 + c.toNat = c.toNat + 1 from by omega]

end Go.Proofs.Ytmdgkjbiicaljag

/- NumberOf and TextOf, whole. -/
namespace Go.Proofs.Ytmdgkjbiicaljag
open Go.RowKit
set_option linter.unusedVariables false
set_option linter.unusedSimpArgs false
attribute [local go_sem] app_list ext_list get_list byteAt_zero

theorem numberOf_is (l : List UInt8) (w : World) (hl : l.length ≤ 281474976710656) :
    Calls Try.prog 63 #[.string ⟨l.toArray⟩] w fun e w' => e = .returned (.tuple #[.int .i64 (numV l), .string ⟨(numR l).toArray⟩, .int .i64 (numE l)]) ∧ Below w.heap.size w w' := by
  by_cases h : l.length < 4
  · have e : numE l = 5 := by simp [numE, h]
    refine (numberOf_short l w h).mono ?_
    rintro e' w' ⟨rfl, hb⟩
    exact ⟨by simp [numV, numR, e], hb⟩
  · refine (numberOf_any l w (by omega) hl).mono ?_
    rintro e' w' ⟨rfl, hb⟩
    refine ⟨?_, hb⟩
    by_cases h2 : valN l 4 ≤ 1073741824
    · have e : numE l = 0 := by simp [numE, h, h2]
      rw [if_pos h2]
      simp [numV, numR, e]
    · have e : numE l = 4 := by simp [numE, h, h2]
      rw [if_neg h2]
      simp [numV, numR, e]

theorem textOf_is (l : List UInt8) (w : World) (hl : l.length ≤ 281474976710656) :
    Calls Try.prog 64 #[.string ⟨l.toArray⟩] w fun e w' => e = .returned (.tuple #[.string ⟨(txtD l).toArray⟩, .string ⟨(txtR l).toArray⟩, .int .i64 (txtE l)]) ∧ Below w.heap.size w w' := by
  cases l with
  | nil => exact textOf_nil w
  | cons c r =>
    by_cases h : r.length < c.toNat
    · refine (textOf_short c r w h).mono ?_
      rintro e' w' ⟨rfl, hb⟩
      exact ⟨by simp [txtD, txtR, txtE, h], hb⟩
    · refine (textOf_ok c r w (by omega) (by simp at hl; omega)).mono ?_
      rintro e' w' ⟨rfl, hb⟩
      exact ⟨by simp [txtD, txtR, txtE, h], hb⟩

end Go.Proofs.Ytmdgkjbiicaljag
