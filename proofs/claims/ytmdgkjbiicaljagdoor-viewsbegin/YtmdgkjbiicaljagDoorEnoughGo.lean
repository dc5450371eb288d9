/- The program's own: a view begins, if enough gave. -/
import Derived.Test.YtmdgkjbiicaljagDoorBeginGo
namespace Go.Proofs.YtmdgkjbiicaljagDoor
open Go.RowKit
set_option linter.unusedVariables false
set_option linter.unusedSimpArgs false

theorem better_is (R : ReplM) (b : Best) (i : Nat) (h : 0 ≤ b.at_) : better R b i = betterK (R.gives.getD i zeroKept) (R.gives.getD b.at_.toNat zeroKept) := by
  unfold better betterK
  generalize R.gives.getD i zeroKept = X
  generalize R.gives.getD b.at_.toNat zeroKept = Y
  rw [decide_eq_false (show ¬ b.at_ < 0 by omega), Bool.false_or]
  by_cases e : X.normal = Y.normal
  · rw [if_pos e, decide_eq_false (show ¬ Y.normal < X.normal by omega), decide_eq_true e, Bool.false_or, Bool.true_and]
  · rw [if_neg e, decide_eq_false e, Bool.false_and, Bool.or_false]
def PickIs (R : ReplM) (b : Best) : List KV → Prop
  | [] => b.at_ = -1
  | q0 :: r => 0 ≤ b.at_ ∧ R.gives.getD b.at_.toNat zeroKept = (pickP q0 (q0 :: r)).1
theorem best_is (R : ReplM) (ps : List KV) (hg : R.gives = ps.map Prod.fst) (hl : R.given.length = ps.length) : ∀ k, k ≤ ps.length →
    (bestTo R k).many = ((givenP (ps.take k) (R.given.take k)).length : Int) ∧ (bestTo R k).commit = commitP (givenP (ps.take k) (R.given.take k)) ∧ PickIs R (bestTo R k) (givenP (ps.take k) (R.given.take k))
  | 0, _ => ⟨rfl, rfl, rfl⟩
  | k + 1, hk => by
    have hkp : k < ps.length := by omega
    have hkg : k < R.given.length := by omega
    obtain ⟨i1, i2, i3⟩ := best_is R ps hg hl k (by omega)
    rw [givenP_take ps R.given k hkp hkg]
    have eg : R.given.getD k false = R.given[k] := by simp [List.getD, hkg]
    have ek : R.gives.getD k zeroKept = ps[k].1 := by rw [hg]; simp [List.getD, hkp]
    unfold bestTo bestStep
    rw [eg]
    cases hy : R.given[k] with
    | false =>
      simp only [Bool.false_eq_true, if_false, List.append_nil]
      exact ⟨i1, i2, i3⟩
    | true =>
      simp only [if_true]
      refine ⟨?_, ?_, ?_⟩
      · rw [List.length_append, i1]; simp
      · rw [commitP_snoc, ek, i2]
        split <;> omega
      · generalize givenP (ps.take k) (R.given.take k) = qs at i1 i2 i3 ⊢
        cases qs with
        | nil =>
          have i3 : (bestTo R k).at_ = -1 := i3
          have hb : better R (bestTo R k) k = true := by
            unfold better
            rw [decide_eq_true (show (bestTo R k).at_ < 0 by omega), Bool.true_or]
          rw [if_pos hb]
          refine ⟨by simp only; omega, ?_⟩
          simp only [Int.toNat_natCast, ek]
          show ps[k].1 = (if betterK ps[k].1 ps[k].1 = true then ps[k] else ps[k]).1
          split <;> rfl
        | cons q0 r =>
          obtain ⟨j1, j2⟩ : 0 ≤ (bestTo R k).at_ ∧ R.gives.getD (bestTo R k).at_.toNat zeroKept = (pickP q0 (q0 :: r)).1 := i3
          have hb := better_is R (bestTo R k) k j1
          rw [ek, j2] at hb
          have hs := pickP_snoc q0 (q0 :: r) ps[k]
          rw [hb]
          by_cases h : betterK ps[k].1 (pickP q0 (q0 :: r)).1 = true
          · rw [if_pos h] at hs ⊢
            refine ⟨by simp only; omega, ?_⟩
            show _ = (pickP q0 ((q0 :: r) ++ [ps[k]])).1
            rw [hs]
            simp only [Int.toNat_natCast, ek]
          · rw [if_neg h] at hs ⊢
            refine ⟨j1, ?_⟩
            show _ = (pickP q0 ((q0 :: r) ++ [ps[k]])).1
            rw [hs]
            exact j2

set_option maxRecDepth 4000 in
set_option maxHeartbeats 8000000 in
theorem enough_any (b B : Nat) (R : ReplM) (L : List MsgM) (w : World) (h : TurnAt w b B R L) (h3 : R.gives.length = 3) (h3' : R.given.length = 3) (hme : R.given.getD R.me.toNat false = true) (hz : ∀ k ∈ R.gives, TextsIn k.log) (hn : L.length ≤ 900) (hB : B ≤ w.heap.size) :
    Calls Tryd.prog 49 #[.pointer (some ⟨b, 0, none⟩)] w fun e w' => e = .returned (.tuple #[]) ∧ TurnAt w' b B (beginR R) (L ++ beginL R) ∧ Beside B b w w' := by
  have HT : Hid (TurnAt w b B R L) := h
  obtain ⟨vl, vh, vw, vg, vn, vs, ps, hx, ho, hmn⟩ := h
  have hpl : ps.length = 3 := by rw [← h3, ho.1, List.length_map]
  have bi := best_is R ps ho.1 (by omega) 3 (by omega)
  rw [List.take_of_length_le (by omega), List.take_of_length_le (by omega)] at bi
  have HBI : Hid ((bestTo R 3).many = ((givenP ps R.given).length : Int) ∧ (bestTo R 3).commit = commitP (givenP ps R.given) ∧ PickIs R (bestTo R 3) (givenP ps R.given)) := bi
  have HGV : Hid (Calls _ _ _ w _) := given_any b B R vl vh vw vg vn vs ps w hx ho hpl h3'
  have HLG : Hid (∀ p ∈ givenP ps R.given, w.ownsRow B 9 1 p.2 p.1.log.length (p.1.log.map enc)) := fun p hp => ho.2.2.2.2.1.2 p (givenP_mem _ _ _ hp)
  have HZ : Hid (∀ p ∈ givenP ps R.given, TextsIn p.1.log) := fun p hp => hz _ (by rw [ho.1]; exact List.mem_map.2 ⟨p, givenP_mem _ _ _ hp, rfl⟩)
  have HLN : Hid ((givenP ps R.given).length ≤ 3) := by have := givenP_len ps R.given; unfold Hid; omega
  have HME : Hid (R.given.getD R.me.toNat false = true) := hme
  generalize givenP ps R.given = qs at *
  clear hx ho hmn hpl bi h3 h3' hme hz
  go_enter Tryd.func49, Tryd.ntmps49
  go_wp2_with fail
  refine HGV.out.mono ?_
  rintro e w2 ⟨v, rfl, hv2, hb2⟩
  obtain ⟨a2, c2, rfl⟩ := own_formN hv2
  have HT2 : Hid (TurnAt w2 b B R L) := turn_below HT.out hb2
  have HV2 : Hid (w2.ownsRow w.heap.size _ _ _ _ _) := hv2
  have HB2 : Hid (Below w.heap.size w w2) := hb2
  clear hv2 hb2 HGV
  by_cases h2 : 2 ≤ qs.length
  · have k2 : (2 : Int) ≤ (qs.length : Int) := by omega
    obtain ⟨q0, qr, rfl⟩ : ∃ q0 qr, qs = q0 :: qr := by
      cases qs with
      | nil => simp at h2
      | cons q r => exact ⟨q, r, rfl⟩
    have HRR : Hid (beginR R = forgot ⟨R.me, ⟨R.kept.view, R.kept.view, true, (pickP q0 (q0 :: qr)).1.log, min (commitP (q0 :: qr)) (pickP q0 (q0 :: qr)).1.log.length⟩, [], [], [], []⟩ ∧ beginL R = ledBy (forgot ⟨R.me, ⟨R.kept.view, R.kept.view, true, (pickP q0 (q0 :: qr)).1.log, min (commitP (q0 :: qr)) (pickP q0 (q0 :: qr)).1.log.length⟩, [], [], [], []⟩)) := by
      obtain ⟨b1, b2, b3⟩ := HBI.out
      have hb : begins R = true := by
        unfold begins
        rw [b1, HME.out, decide_eq_true (by simp at h2 ⊢; omega)]
        rfl
      have e : bestLog R = (pickP q0 (q0 :: qr)).1.log := by unfold bestLog; rw [b3.2]
      have er : beginR R = forgot ⟨R.me, ⟨R.kept.view, R.kept.view, true, (pickP q0 (q0 :: qr)).1.log, min (commitP (q0 :: qr)) (pickP q0 (q0 :: qr)).1.log.length⟩, [], [], [], []⟩ := by
        unfold beginR
        rw [if_pos hb, e, b2]
      refine ⟨er, ?_⟩
      unfold beginL
      rw [if_pos hb, er]
    have k3 : (2 : Int) ≤ (qr.length : Int) + 1 := by simp at h2; omega
    clear HBI h2 k2
    go_wp2_with fail
    refine (begin_any b B R L q0 qr _ w2 HT2.out (own_base HV2.out hB) (fun p hp => own_below (HLG.out p hp) HB2.out (own_lt (HLG.out p hp))) HZ.out (by have := HLN.out; simp at this; omega) hn (Nat.le_trans hB HB2.out.size)).mono ?_
    rintro e w3 ⟨rfl, ht3, hb3⟩
    have HE : Hid (TurnAt w3 b B (beginR R) (L ++ beginL R) ∧ Beside B b w w3) := by
      refine ⟨?_, (Beside.of (HB2.out.mono hB)).trans hb3⟩
      rw [HRR.out.1, HRR.out.2]
      exact ht3
    clear ht3 hb3 HRR
    go_wp2_with fail
    go_end0
    exact ⟨rfl, HE.out⟩
  · have k2 : ¬ (2 : Int) ≤ (qs.length : Int) := by omega
    have HE : Hid (TurnAt w2 b B (beginR R) (L ++ beginL R) ∧ Beside B b w w2) := by
      have hb : ¬ begins R = true := by
        unfold begins
        rw [HBI.out.1, decide_eq_false k2]
        simp
      refine ⟨?_, Beside.of (HB2.out.mono hB)⟩
      unfold beginR beginL
      rw [if_neg hb, if_neg hb, List.append_nil]
      exact HT2.out
    clear HBI h2
    go_wp2_with fail
    go_end0
    exact ⟨rfl, HE.out⟩

end Go.Proofs.YtmdgkjbiicaljagDoor
