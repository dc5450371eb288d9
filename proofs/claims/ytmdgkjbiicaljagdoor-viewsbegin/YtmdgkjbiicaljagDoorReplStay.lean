/- Replicas that may be stay so, whatever they do; and what they send may be. -/
import Derived.Test.YtmdgkjbiicaljagDoorReplProt
namespace Go.Proofs.YtmdgkjbiicaljagDoor
set_option linter.unusedVariables false
set_option linter.unusedSimpArgs false

structure ReplMay (r : ReplM) : Prop where
  me0 : 0 ≤ r.me
  me1 : r.me ≤ 2
  hl : r.hav.length = 3
  wl : r.wants.length = 3
  gl : r.gives.length = 3
  nl : r.given.length = 3
  hav : ∀ x ∈ r.hav, 0 ≤ x ∧ x ≤ r.kept.log.length
  gives : ∀ k ∈ r.gives, keptFault k = 0
  kept : keptFault r.kept = 0
theorem replMay_of (r : ReplM) (h : replFault r = 0) : ReplMay r := by
  unfold replFault at h
  split at h
  · rename_i hm
    split at h
    · rename_i hk
      unfold fours knowsIn at hk
      simp only [Bool.and_eq_true, beq_iff_eq, List.all_eq_true, decide_eq_true_eq] at hk
      exact ⟨hm.1, hm.2, hk.1.1.1, hk.1.1.2, hk.1.2.1, hk.1.2.2, hk.2.1, hk.2.2, h⟩
    · omega
  · omega
theorem replFault_of (r : ReplM) (h : ReplMay r) : replFault r = 0 := by
  unfold replFault fours knowsIn
  have h1 : (r.hav.all fun x => decide (0 ≤ x) && decide (x ≤ r.kept.log.length)) = true := by
    simp only [Bool.and_eq_true, List.all_eq_true, decide_eq_true_eq]; exact h.hav
  have h2 : (r.gives.all fun k => decide (keptFault k = 0)) = true := by
    simp only [List.all_eq_true, decide_eq_true_eq]; exact h.gives
  rw [if_pos ⟨h.me0, h.me1⟩, h1, h2, h.hl, h.wl, h.gl, h.nl]
  exact h.kept
theorem kept_calm (k : KeptM) (h : keptFault k = 0) (hc : k.calm = true) : k.normal = k.view := by
  unfold keptFault at h
  split at h
  · rename_i hi
    unfold keptIn at hi
    simp only [Bool.and_eq_true, decide_eq_true_eq, hc, Bool.not_eq_true', Bool.true_and, bne_eq_false_iff_eq] at hi
    exact hi.2.2
  · omega
theorem keptFault_of (k : KeptM) (v0 : 0 ≤ k.view) (v1 : k.view ≤ 1048576) (n0 : 0 ≤ k.normal) (n1 : k.normal ≤ k.view) (hc : k.calm = true → k.normal = k.view) (len : k.log.length ≤ 60) (c0 : 0 ≤ k.commit) (c1 : k.commit ≤ k.log.length) (log : ∀ s ∈ k.log, decE s = 0) : keptFault k = 0 := by
  have hi : keptIn k = true := by
    unfold keptIn
    simp only [Bool.and_eq_true, decide_eq_true_eq, Bool.not_eq_true', Bool.and_eq_false_iff, bne_eq_false_iff_eq]
    refine ⟨⟨v0, v1⟩, ⟨n0, n1⟩, ?_⟩
    cases e : k.calm
    · exact Or.inl rfl
    · exact Or.inr (hc e)
  unfold keptFault
  rw [if_pos hi, if_neg (by omega), if_pos ⟨c0, c1⟩]
  exact logE_zero _ log
theorem zeroKept_may : keptFault zeroKept = 0 := by decide

theorem forgot_may (r : ReplM) (h0 : 0 ≤ r.me) (h1 : r.me ≤ 2) (hk : keptFault r.kept = 0) : ReplMay (forgot r) := by
  refine ⟨h0, h1, rfl, rfl, rfl, rfl, fun x hx => ?_, fun k hx => ?_, hk⟩
  · have : x = 0 := by simpa [forgot] using hx
    subst this
    exact ⟨Int.le_refl _, by simp⟩
  · have : k = zeroKept := by simpa [forgot] using hx
    subst this
    exact zeroKept_may
theorem wantR_may (r : ReplM) (v : Int) (h : ReplMay r) (h0 : r.kept.view < v) (h1 : v ≤ 1048576) : ReplMay (wantR r v) := by
  have m := keptMay_of _ h.kept
  have hk : keptFault (wantR r v).kept = 0 := keptFault_of _ (by have := m.v0; show 0 ≤ v; omega) h1 m.n0 (by have := m.n1; show r.kept.normal ≤ v; omega) (fun e => by cases e) m.len m.c0 m.c1 m.log
  have f := forgot_may ⟨r.me, (wantR r v).kept, [], [], [], []⟩ h.me0 h.me1 hk
  exact ⟨h.me0, h.me1, rfl, by simp [wantR], rfl, rfl, f.hav, f.gives, hk⟩

theorem mem_set {α : Type} {l : List α} {i : Nat} {x y : α} (h : y ∈ l.set i x) : y ∈ l ∨ y = x := List.mem_or_eq_of_mem_set h
theorem withGive_may (r : ReplM) (i : Nat) (k : KeptM) (h : ReplMay r) (hk : keptFault k = 0) : ReplMay (withGive r i k) :=
  ⟨h.me0, h.me1, h.hl, h.wl, by simp [withGive, h.gl], by simp [withGive, h.nl], h.hav, fun x hx => by
    rcases mem_set hx with e | e
    · exact h.gives x e
    · rw [e]; exact hk, h.kept⟩
theorem ownK_may (r : ReplM) (h : ReplMay r) : keptFault (ownK r) = 0 := by
  have m := keptMay_of _ h.kept
  exact keptFault_of _ m.v0 m.v1 m.n0 m.n1 (fun e => by cases e) m.len m.c0 m.c1 m.log
theorem gives_at (r : ReplM) (h : ReplMay r) (i : Nat) : keptFault (r.gives.getD i zeroKept) = 0 := by
  by_cases hi : i < r.gives.length
  · rw [show r.gives.getD i zeroKept = r.gives[i] by simp [List.getD, hi]]
    exact h.gives _ (List.getElem_mem hi)
  · rw [show r.gives.getD i zeroKept = zeroKept by simp [List.getD, List.getElem?_eq_none (Nat.le_of_not_lt hi)]]
    exact zeroKept_may
theorem best_commit0 (r : ReplM) (h : ReplMay r) : ∀ n, 0 ≤ (bestTo r n).commit
  | 0 => Int.le_refl _
  | n + 1 => by
    have ih := best_commit0 r h n
    have := (keptMay_of _ (gives_at r h n)).c0
    unfold bestTo bestStep
    split
    · simp only
      split
      · exact this
      · exact ih
    · exact ih
theorem beginR_may (r : ReplM) (h : ReplMay r) : ReplMay (beginR r) := by
  unfold beginR
  split
  · have m := keptMay_of _ h.kept
    have g := keptMay_of _ (gives_at r h (bestTo r 3).at_.toNat)
    have b := best_commit0 r h 3
    refine forgot_may _ h.me0 h.me1 (keptFault_of _ m.v0 m.v1 m.v0 (Int.le_refl _) (fun _ => rfl) g.len ?_ ?_ g.log)
    · show 0 ≤ min (bestTo r 3).commit ((bestLog r).length : Int)
      omega
    · show min (bestTo r 3).commit ((bestLog r).length : Int) ≤ ((bestLog r).length : Int)
      omega
  · exact h

theorem leadK_may (k : KeptM) (m : MsgM) (h : keptFault k = 0) (hm : MsgMay m) (hv : ¬ m.view < k.view) : keptFault (leadK k m) = 0 := by
  have a := keptMay_of _ h
  have b := keptMay_of _ hm.kept
  have b1 : m.view ≤ 1048576 := b.v1
  have b2 : 0 ≤ m.view := b.v0
  have b3 : m.log.length ≤ 60 := b.len
  have b4 : ∀ s ∈ m.log, decE s = 0 := b.log
  have b5 : 0 ≤ m.commit := b.c0
  have a1 := a.c0
  have a2 := a.c1
  have a3 := a.n0
  have a4 := a.n1
  have a5 := a.v1
  have a6 := a.v0
  unfold leadK
  by_cases hc : m.view > k.view ∨ k.calm = false
  · rw [if_pos hc]
    refine keptFault_of _ b2 b1 b2 (Int.le_refl _) (fun _ => rfl) b3 ?_ ?_ b4
    · simp only; omega
    · simp only; omega
  · rw [if_neg hc]
    by_cases hl : m.log.length > k.log.length
    · rw [if_pos hl]
      refine keptFault_of _ a6 a5 a3 a4 (kept_calm k h) b3 ?_ ?_ b4
      · simp only; omega
      · simp only; omega
    · rw [if_neg hl]
      refine keptFault_of _ a6 a5 a3 a4 (kept_calm k h) a.len ?_ ?_ a.log
      · simp only; omega
      · simp only; omega
theorem leadR_may (r : ReplM) (m : MsgM) (h : ReplMay r) (hm : MsgMay m) (hv : ¬ m.view < r.kept.view) : ReplMay (leadR r m) := by
  have hk := leadK_may r.kept m h.kept hm hv
  unfold leadR
  by_cases hc : m.view > r.kept.view ∨ r.kept.calm = false
  · rw [if_pos hc]
    exact forgot_may _ h.me0 h.me1 hk
  · rw [if_neg hc]
    refine ⟨h.me0, h.me1, h.hl, h.wl, h.gl, h.nl, fun x hx => ?_, h.gives, hk⟩
    have := h.hav x hx
    refine ⟨this.1, ?_⟩
    have e : (r.kept.log.length : Int) ≤ (leadK r.kept m).log.length := by
      unfold leadK
      rw [if_neg hc]
      split
      · simp only; omega
      · simp only; omega
    simp only
    omega
theorem leadR_calm (r : ReplM) (m : MsgM) : (leadR r m).me = r.me ∧ (leadR r m).kept = leadK r.kept m := by
  unfold leadR
  split <;> exact ⟨rfl, rfl⟩
theorem leadK_view (k : KeptM) (m : MsgM) (hv : ¬ m.view < k.view) : (leadK k m).view = m.view ∧ (leadK k m).calm = true := by
  unfold leadK
  by_cases hc : m.view > k.view ∨ k.calm = false
  · rw [if_pos hc]; exact ⟨rfl, rfl⟩
  · rw [if_neg hc]
    have e1 : ¬ m.view > k.view := fun e => hc (Or.inl e)
    have e2 : k.calm = true := by
      cases e : k.calm
      · exact absurd (Or.inr e) hc
      · rfl
    split
    · exact ⟨by simp only; omega, e2⟩
    · exact ⟨by simp only; omega, e2⟩
theorem hasR_may (r : ReplM) (m : MsgM) (h : ReplMay r) (hm : MsgMay m) : ReplMay (hasR r m) := by
  have a := keptMay_of _ h.kept
  have a1 := a.c0
  have a2 := a.c1
  have hn := hm.n
  unfold hasR
  split
  · have hl : (min m.n r.kept.log.length : Int) ≤ r.kept.log.length := by omega
    refine ⟨h.me0, h.me1, by simp [h.hl], h.wl, h.gl, h.nl, fun x hx => ?_, h.gives, keptFault_of _ a.v0 a.v1 a.n0 a.n1 (fun e => kept_calm r.kept h.kept e) a.len (by simp only; omega) (by simp only; omega) a.log⟩
    rcases mem_set hx with e | e
    · exact h.hav x e
    · subst e
      have : 0 ≤ r.hav.getD m.frm.toNat 0 ∧ r.hav.getD m.frm.toNat 0 ≤ r.kept.log.length := by
        by_cases hi : m.frm.toNat < r.hav.length
        · rw [show r.hav.getD m.frm.toNat 0 = r.hav[m.frm.toNat] by simp [List.getD, hi]]
          exact h.hav _ (List.getElem_mem hi)
        · rw [show r.hav.getD m.frm.toNat 0 = 0 by simp [List.getD, List.getElem?_eq_none (Nat.le_of_not_lt hi)]]
          omega
      simp only
      omega
  · exact h
theorem setWant_may (r : ReplM) (i : Nat) (h : ReplMay r) : ReplMay ⟨r.me, r.kept, r.hav, r.wants.set i true, r.gives, r.given⟩ :=
  ⟨h.me0, h.me1, h.hl, by simp [h.wl], h.gl, h.nl, h.hav, h.gives, h.kept⟩
theorem wantedR_may (r : ReplM) (m : MsgM) (h : ReplMay r) : ReplMay (wantedR r m) := by
  unfold wantedR
  split
  · exact h
  · have h1 := setWant_may r m.frm.toNat h
    simp only
    split
    · exact beginR_may _ (withGive_may _ _ _ h1 (ownK_may _ h1))
    · exact h1
theorem gaveR_may (r : ReplM) (m : MsgM) (h : ReplMay r) (hm : MsgMay m) : ReplMay (gaveR r m) := by
  unfold gaveR
  split
  · exact withGive_may _ _ _ h hm.kept
  · exact withGive_may _ _ _ (withGive_may _ _ _ h (ownK_may _ h)) hm.kept
theorem giveR_may (r : ReplM) (m : MsgM) (h : ReplMay r) (hm : MsgMay m) : ReplMay (giveR r m) := by
  unfold giveR
  split
  · exact h
  · exact beginR_may _ (gaveR_may r m h hm)
theorem wishR_may (r : ReplM) (m : MsgM) (h : ReplMay r) (hm : MsgMay m) : ReplMay (wishR r m) := by
  unfold wishR
  split
  · rename_i hw
    unfold wishes at hw
    simp only [Bool.and_eq_true, decide_eq_true_eq] at hw
    exact wantR_may _ _ h hw.2 hm.view.2
  · exact h
theorem hearE_of (r : ReplM) (m : MsgM) (h : hearE r m = 0) : ReplMay r ∧ MsgMay m ∧ m.dst = r.me ∧ ¬ m.view < r.kept.view ∧ msgFault m = 0 := by
  unfold hearE at h
  split at h
  · omega
  · rename_i h1
    split at h
    · omega
    · rename_i h2
      split at h
      · omega
      · rename_i h3
        split at h
        · omega
        · rename_i h4
          exact ⟨replMay_of r (by simpa using h1), msgMay_of m (by simpa using h2), by simpa using h3, h4, by simpa using h2⟩
theorem hearR_may (r : ReplM) (m : MsgM) (h : hearE r m = 0) : ReplMay (hearR' r m) := by
  obtain ⟨h1, h2, h3, h4, _⟩ := hearE_of r m h
  unfold hearR'
  split
  · exact leadR_may _ _ h1 h2 h4
  split
  · exact hasR_may _ _ h1 h2
  split
  · exact wantedR_may _ _ (wishR_may _ _ h1 h2)
  · exact giveR_may _ _ (wishR_may _ _ h1 h2) h2
theorem takeR_may (r : ReplM) (s : List UInt8) (h : ReplMay r) (hl : r.kept.log.length < 60) (hs : decE s = 0) : ReplMay (takeR' r s) := by
  have a := keptMay_of _ h.kept
  have a1 := a.c0
  have a2 := a.c1
  refine ⟨h.me0, h.me1, h.hl, h.wl, h.gl, h.nl, fun x hx => ?_, h.gives, keptFault_of _ a.v0 a.v1 a.n0 a.n1 (fun e => kept_calm r.kept h.kept e) ?_ a1 ?_ fun x hx => ?_⟩
  · have := h.hav x hx
    simp only [takeR', List.length_append, List.length_singleton]
    omega
  · simp only [takeR', List.length_append, List.length_singleton]
    omega
  · simp only [takeR', List.length_append, List.length_singleton]
    omega
  · rcases List.mem_append.1 hx with e | e
    · exact a.log x e
    · have : x = s := by simpa using e
      rw [this]; exact hs
theorem takeE_of (r : ReplM) (s : List UInt8) (h : takeE r s = 0) : ReplMay r ∧ leads r = true ∧ r.kept.log.length < 60 ∧ decE s = 0 := by
  unfold takeE at h
  split at h
  · omega
  · rename_i h1
    split at h
    · omega
    · rename_i h2
      split at h
      · omega
      · rename_i h3
        exact ⟨replMay_of r (by simpa using h1), by simpa using h2, by omega, h⟩
theorem tickR_may (r : ReplM) (h : ReplMay r) : ReplMay (tickR' r) := by
  unfold tickR'
  split
  · exact h
  · exact setWant_may _ _ h
theorem alarmE_of (r : ReplM) (h : alarmE r = 0) : ReplMay r ∧ r.kept.view < 1048576 := by
  unfold alarmE at h
  split at h
  · omega
  · rename_i h1
    split at h
    · omega
    · exact ⟨replMay_of r (by simpa using h1), by omega⟩

/-! ### What is sent. -/
theorem msgFault_of (m : MsgM) (hk : 1 ≤ m.kind ∧ m.kind ≤ 4) (hr : msgRange m = true) (hf : msgForm m = true) (h : keptFault (msgKept m) = 0) : msgFault m = 0 := by
  unfold msgFault
  rw [if_pos hk, if_pos hr, if_pos hf]
  exact h
theorem msgRange_of (m : MsgM) (f0 : 0 ≤ m.frm) (f1 : m.frm ≤ 2) (d0 : 0 ≤ m.dst) (d1 : m.dst ≤ 2) (ne : m.frm ≠ m.dst) (v0 : 0 ≤ m.view) (v1 : m.view ≤ 1048576) (n0 : 0 ≤ m.n) (n1 : m.n ≤ 60) : msgRange m = true := by
  unfold msgRange
  simp only [Bool.and_eq_true, decide_eq_true_eq]
  exact ⟨⟨⟨f0, f1⟩, d0, d1⟩, ne, ⟨v0, v1⟩, n0, n1⟩
theorem mem_others {me i : Int} (h : i ∈ others me) : 0 ≤ i ∧ i ≤ 2 ∧ i ≠ me := by
  unfold others at h
  obtain ⟨h1, h2⟩ := List.mem_filter.1 h
  have h3 : i ≠ me := by simpa using h2
  have : i = 0 ∨ i = 1 ∨ i = 2 := by simpa using h1
  exact ⟨by omega, by omega, h3⟩
theorem ledBy_may (r : ReplM) (h : ReplMay r) (hl : leads r = true) : ∀ m ∈ ledBy r, msgFault m = 0 := by
  intro m hm
  obtain ⟨i, hi, rfl⟩ := List.mem_map.1 hm
  have o := mem_others hi
  have a := keptMay_of _ h.kept
  unfold leads at hl
  simp only [Bool.and_eq_true, decide_eq_true_eq] at hl
  refine msgFault_of _ ⟨by simp [hasMsg], by simp [hasMsg]⟩ (msgRange_of _ h.me0 h.me1 o.1 o.2.1 (Ne.symm o.2.2) a.v0 a.v1 (Int.le_refl _) (by simp)) ?_ (keptFault_of _ a.v0 a.v1 (Int.le_refl _) a.v0 (fun e => by cases e) a.len a.c0 a.c1 a.log)
  simp [msgForm, isHW, isHG, hl.2]
theorem wantAll_may (r : ReplM) (h : ReplMay r) : ∀ m ∈ toAll r 3 0 [], msgFault m = 0 := by
  intro m hm
  obtain ⟨i, hi, rfl⟩ := List.mem_map.1 hm
  have o := mem_others hi
  have a := keptMay_of _ h.kept
  refine msgFault_of _ ⟨by simp [hasMsg], by simp [hasMsg]⟩ (msgRange_of _ h.me0 h.me1 o.1 o.2.1 (Ne.symm o.2.2) a.v0 a.v1 (Int.le_refl _) (by simp)) ?_ (keptFault_of _ a.v0 a.v1 (Int.le_refl _) a.v0 (fun e => by cases e) (by simp [msgKept]) (Int.le_refl _) (by simp [msgKept]) (fun s hs => by simp [msgKept] at hs))
  simp [msgForm, isHW, isHG]
theorem tmod3 {v : Int} (h : 0 ≤ v) : 0 ≤ v.tmod 3 ∧ v.tmod 3 ≤ 2 := by
  rw [Int.tmod_eq_emod_of_nonneg h]
  omega
theorem hasMsg_may (r : ReplM) (dst : Int) (h : ReplMay r) (h1 : dst = r.kept.view.tmod 3) (h2 : dst ≠ r.me) : msgFault (hasMsg r dst) = 0 := by
  have a := keptMay_of _ h.kept
  have t := tmod3 a.v0
  have := a.len
  refine msgFault_of _ ⟨by simp [hasMsg], by simp [hasMsg]⟩ (msgRange_of _ h.me0 h.me1 (by rw [h1]; exact t.1) (by rw [h1]; exact t.2) (Ne.symm h2) a.v0 a.v1 (by simp [hasMsg]) (by simp [hasMsg]; omega)) ?_ (keptFault_of _ a.v0 a.v1 (Int.le_refl _) a.v0 (fun e => by cases e) (by simp [msgKept, hasMsg]) (Int.le_refl _) (by simp [msgKept, hasMsg]) (fun s hs => by simp [msgKept, hasMsg] at hs))
  simp [msgForm, isHW, isHG, hasMsg, h1]
theorem beginL_may (r : ReplM) (h : ReplMay r) (hl : r.kept.view.tmod 3 = r.me) : ∀ m ∈ beginL r, msgFault m = 0 := by
  intro m hm
  have hb := beginR_may r h
  unfold beginL at hm
  split at hm
  · rename_i e
    refine ledBy_may _ hb ?_ m hm
    unfold beginR
    rw [if_pos e]
    unfold leads forgot
    simp [hl]
  · simp at hm
theorem wishL_may (r : ReplM) (m : MsgM) (h : ReplMay r) (hm : MsgMay m) : ∀ x ∈ wishL r m, msgFault x = 0 := by
  intro x hx
  have hb := wishR_may r m h hm
  unfold wishL at hx
  split at hx
  · rename_i e
    unfold wishR at hb
    rw [if_pos e] at hb
    exact wantAll_may _ hb x hx
  · simp at hx
theorem wantedL_may (r : ReplM) (m : MsgM) (h : ReplMay r) : ∀ x ∈ wantedL r m, msgFault x = 0 := by
  intro x hx
  unfold wantedL at hx
  split at hx
  · simp at hx
  · have h1 := setWant_may r m.frm.toNat h
    simp only at hx
    split at hx
    · rename_i e
      exact beginL_may _ (withGive_may _ _ _ h1 (ownK_may _ h1)) e x hx
    · rename_i e
      have : x = ⟨4, r.me, r.kept.view.tmod 3, r.kept.view, r.kept.normal, r.kept.commit, 0, r.kept.log⟩ := by simpa using hx
      subst this
      have a := keptMay_of _ h.kept
      have t := tmod3 a.v0
      refine msgFault_of _ ⟨by simp [hasMsg], by simp [hasMsg]⟩ (msgRange_of _ h.me0 h.me1 t.1 t.2 (Ne.symm e) a.v0 a.v1 (Int.le_refl _) (by simp)) ?_ (keptFault_of _ a.v0 a.v1 a.n0 a.n1 (fun e => by cases e) a.len a.c0 a.c1 a.log)
      simp [msgForm, isHW, isHG]
theorem gaveR_me (r : ReplM) (m : MsgM) : (gaveR r m).me = r.me ∧ (gaveR r m).kept = r.kept := by unfold gaveR; split <;> exact ⟨rfl, rfl⟩
theorem giveL_may (r : ReplM) (m : MsgM) (h : ReplMay r) (hm : MsgMay m) (hl : r.kept.view.tmod 3 = r.me) : ∀ x ∈ giveL r m, msgFault x = 0 := by
  intro x hx
  unfold giveL at hx
  split at hx
  · simp at hx
  · exact beginL_may _ (gaveR_may r m h hm) (by rw [(gaveR_me r m).1, (gaveR_me r m).2]; exact hl) x hx
theorem wishR_me (r : ReplM) (m : MsgM) : (wishR r m).me = r.me := by unfold wishR; split <;> rfl
theorem wishR_view (r : ReplM) (m : MsgM) (hk : m.kind = 3 ∨ m.kind = 4) (hv : ¬ m.view < r.kept.view) : (wishR r m).kept.view = m.view := by
  unfold wishR wishes
  by_cases h : r.kept.view < m.view
  · rw [if_pos (by simp only [Bool.and_eq_true, Bool.or_eq_true, decide_eq_true_eq]; exact ⟨hk, h⟩)]
    rfl
  · rw [if_neg (by simp only [Bool.and_eq_true, Bool.or_eq_true, decide_eq_true_eq]; exact fun e => h e.2)]
    omega
theorem hearL_may (r : ReplM) (m : MsgM) (h : hearE r m = 0) : ∀ x ∈ hearL' r m, msgFault x = 0 := by
  obtain ⟨h1, h2, h3, h4, h5⟩ := hearE_of r m h
  intro x hx
  unfold hearL' at hx
  by_cases k1 : m.kind = 1
  · rw [if_pos k1] at hx
    have : x = hasMsg (leadR r m) m.frm := by simpa using hx
    subst this
    have e := leadR_calm r m
    refine hasMsg_may _ _ (leadR_may _ _ h1 h2 h4) ?_ ?_
    · rw [e.2, (leadK_view _ _ h4).1]
      have hf := h5
      unfold msgFault at hf
      rw [if_pos h2.kind] at hf
      split at hf
      · split at hf
        · rename_i hq
          unfold msgForm isHG at hq
          simp only [k1, Bool.and_eq_true, Bool.not_eq_true', Bool.or_eq_false_iff, Bool.and_eq_false_iff, decide_eq_false_iff_not] at hq
          obtain ⟨_, _, hq, _⟩ := hq
          rcases hq with hq | hq
          · exact absurd trivial hq
          · exact Classical.not_not.1 hq
        · omega
      · omega
    · rw [e.1, ← h3]; exact h2.ne
  · rw [if_neg k1] at hx
    by_cases k2 : m.kind = 2
    · rw [if_pos k2] at hx
      unfold hasL at hx
      split at hx
      · rename_i hl
        split at hx
        · refine ledBy_may _ (hasR_may _ _ h1 h2) ?_ x hx
          unfold hasR
          rw [if_pos hl]
          have := hl.2
          unfold leads at this ⊢
          exact this
        · simp at hx
      · simp at hx
    · rw [if_neg k2] at hx
      have hw := wishR_may r m h1 h2
      by_cases k3 : m.kind = 3
      · rw [if_pos k3] at hx
        rcases List.mem_append.1 hx with hx | hx
        · exact wishL_may r m h1 h2 x hx
        · exact wantedL_may _ m hw x hx
      · rw [if_neg k3] at hx
        have k4 : m.kind = 4 := by have := h2.kind; omega
        rcases List.mem_append.1 hx with hx | hx
        · exact wishL_may r m h1 h2 x hx
        · refine giveL_may _ m hw h2 ?_ x hx
          rw [wishR_view r m (Or.inr k4) h4, wishR_me, ← h3]
          exact (h2.give (Or.inr k4)).symm
theorem tickL_may (r : ReplM) (h : ReplMay r) : ∀ x ∈ tickL' r, msgFault x = 0 := by
  intro x hx
  unfold tickL' at hx
  split at hx
  · rename_i hl
    exact ledBy_may r h hl x hx
  · rename_i hl
    split at hx
    · rename_i hc
      have : x = hasMsg r (r.kept.view.tmod 3) := by simpa using hx
      subst this
      refine hasMsg_may r _ h rfl fun e => hl ?_
      unfold leads
      simp [hc, e]
    · exact wantAll_may r h x hx
theorem takeL_may (r : ReplM) (s : List UInt8) (h : takeE r s = 0) : ∀ x ∈ ledBy (takeR' r s), msgFault x = 0 := by
  obtain ⟨h1, h2, h3, h4⟩ := takeE_of r s h
  exact ledBy_may _ (takeR_may r s h1 h3 h4) h2
theorem alarmL_may (r : ReplM) (h : alarmE r = 0) : ∀ x ∈ wantL r (r.kept.view + 1), msgFault x = 0 := by
  obtain ⟨h1, h2⟩ := alarmE_of r h
  exact wantAll_may _ (wantR_may r _ h1 (by omega) (by omega))
theorem toAll_len (r : ReplM) (k c : Int) (l : List (List UInt8)) : (toAll r k c l).length ≤ 3 := by
  unfold toAll others
  rw [List.length_map]
  exact Nat.le_trans (List.length_filter_le _ _) (by simp)
theorem beginL_len (r : ReplM) : (beginL r).length ≤ 3 := by
  unfold beginL
  split
  · exact toAll_len ..
  · simp
theorem hearL_len (r : ReplM) (m : MsgM) : (hearL' r m).length ≤ 6 := by
  have w : (wishL r m).length ≤ 3 := by
    unfold wishL
    split
    · exact toAll_len ..
    · simp
  unfold hearL'
  split
  · simp
  split
  · unfold hasL
    split
    · split
      · exact Nat.le_trans (toAll_len ..) (by omega)
      · simp
    · simp
  split
  · rw [List.length_append]
    have : (wantedL (wishR r m) m).length ≤ 3 := by
      unfold wantedL
      split
      · simp
      · simp only
        split
        · exact beginL_len _
        · simp
    omega
  · rw [List.length_append]
    have : (giveL (wishR r m) m).length ≤ 3 := by
      unfold giveL
      split
      · simp
      · exact beginL_len _
    omega
/-- Whose they are. -/
theorem beginR_me (r : ReplM) : (beginR r).me = r.me := by unfold beginR; split <;> rfl
theorem hearR_me (r : ReplM) (m : MsgM) : (hearR' r m).me = r.me := by
  unfold hearR'
  split
  · exact (leadR_calm r m).1
  split
  · unfold hasR; split <;> rfl
  split
  · unfold wantedR
    split
    · exact wishR_me r m
    · simp only
      split
      · rw [beginR_me]; exact wishR_me r m
      · exact wishR_me r m
  · unfold giveR
    split
    · exact wishR_me r m
    · rw [beginR_me, (gaveR_me _ _).1]; exact wishR_me r m
theorem tickR_me (r : ReplM) : (tickR' r).me = r.me := by unfold tickR'; split <;> rfl

end Go.Proofs.YtmdgkjbiicaljagDoor
