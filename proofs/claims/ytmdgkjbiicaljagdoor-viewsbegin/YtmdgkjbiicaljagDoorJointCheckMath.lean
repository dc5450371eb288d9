/- The program's own stage.Check. -/
import Derived.Test.YtmdgkjbiicaljagDoorJointStageMem
import Derived.Test.YtmdgkjbiicaljagDoorMachGoDec
import Derived.Deep.DeepCutAuto
import Derived.Test.YtmdgkjbiicaljagDoorReplMath
namespace Go.Proofs.YtmdgkjbiicaljagDoor
open Go.RowKit
set_option linter.unusedVariables false
set_option linter.unusedSimpArgs false
attribute [local go_sem] app_list ext_list get_list byteAt_zero

set_option maxHeartbeats 4000000 in
theorem stageCheck_any (K : KeptM) (v : Value) (w : World) (h : KeptAt w v K) :
    Calls Tryd.prog 19 #[v] w fun e w' => e = .returned (.int .i64 (keptFault K)) ∧ Below w.heap.size w w' := by
  obtain ⟨vl, rfl, hs⟩ := h
  obtain ⟨vw, nm, cm, l, ct⟩ := K
  simp only at hs ⊢
  obtain ⟨a, c, rfl, hlx, hcx⟩ := hs
  have b0 := Box.new w 25 [.int .i64 vw, .int .i64 nm, .bool cm, .slice a l.length c, .int .i64 ct]
  have HBW : Hid (Below w.heap.size w _) := below_alloc w (.cells #[.int .i64 vw, .int .i64 nm, .bool cm, .slice a l.length c, .int .i64 ct] 25)
  obtain ⟨R, HR⟩ : ∃ R, Hid (keptFault ⟨vw, nm, cm, l, ct⟩ = R) := ⟨_, rfl⟩
  rw [HR.out]
  have HK : Hid (R = if keptIn ⟨vw, nm, cm, l, ct⟩ = true then (if 60 < l.length then 1 else if 0 ≤ ct ∧ ct ≤ l.length then logE l else 2) else 2) := HR.out.symm
  have bad : keptIn ⟨vw, nm, cm, l, ct⟩ = false → Hid (R = 2) := fun e => by unfold Hid; rw [HK.out, e]; rfl
  by_cases h1 : vw < 0
  · have HE := bad (by unfold keptIn; simp; omega)
    clear bad HK
    go_enter Tryd.func19, Tryd.ntmps19
    go_wp2_with fail
    go_ret
    exact ⟨by rw [HE.out]; rfl, HBW.out⟩
  by_cases h2 : 1048576 < vw
  · have HE := bad (by unfold keptIn; simp; omega)
    clear bad HK
    go_enter Tryd.func19, Tryd.ntmps19
    go_wp2_with fail
    go_ret
    exact ⟨by rw [HE.out]; rfl, HBW.out⟩
  by_cases h3 : nm < 0
  · have HE := bad (by unfold keptIn; simp; omega)
    clear bad HK
    go_enter Tryd.func19, Tryd.ntmps19
    go_wp2_with fail
    go_ret
    exact ⟨by rw [HE.out]; rfl, HBW.out⟩
  by_cases h4 : vw < nm
  · have HE := bad (by unfold keptIn; simp; omega)
    clear bad HK
    go_enter Tryd.func19, Tryd.ntmps19
    go_wp2_with fail
    go_ret
    exact ⟨by rw [HE.out]; rfl, HBW.out⟩
  by_cases h5 : cm = true ∧ nm ≠ vw
  · obtain ⟨rfl, h5⟩ := h5
    have HE := bad (by unfold keptIn; simp; omega)
    have t1 : (nm == vw) = false := by simpa using h5
    have t2 : (nm != vw) = true := by simpa using h5
    clear bad HK
    go_enter Tryd.func19, Tryd.ntmps19
    go_wp2_with fail
    go_ret
    exact ⟨by rw [HE.out]; rfl, HBW.out⟩
  have t5 : (cm && (nm != vw)) = false := by
    cases cm
    · rfl
    · simp at h5; simp [h5]
  have HG : Hid (R = if 60 < l.length then 1 else if 0 ≤ ct ∧ ct ≤ l.length then logE l else 2) := by
    have hk : keptIn ⟨vw, nm, cm, l, ct⟩ = true := by
      unfold keptIn
      rw [t5]
      simp
      omega
    unfold Hid
    rw [HK.out, if_pos hk]
  clear HK bad HR h5
  by_cases h6 : 60 < l.length
  · have HE : Hid (R = 1) := by unfold Hid; rw [HG.out, if_pos h6]
    have q6 : decide ((60 : Int) < (l.length : Int)) = true := by simp; omega
    clear HG h6
    go_enter Tryd.func19, Tryd.ntmps19
    cases cm
    · go_wp2_with fail
      go_ret
      exact ⟨by rw [HE.out]; rfl, HBW.out⟩
    · have t6 : (nm == vw) = true := by simpa using t5
      have t7 : (nm != vw) = false := by simpa using t5
      go_wp2_with fail
      go_ret
      exact ⟨by rw [HE.out]; rfl, HBW.out⟩
  have q6 : decide ((60 : Int) < (l.length : Int)) = false := by simp; omega
  by_cases h7 : ct < 0
  · have HE : Hid (R = 2) := by unfold Hid; rw [HG.out, if_neg h6, if_neg (by omega)]
    clear HG h6
    go_enter Tryd.func19, Tryd.ntmps19
    cases cm
    · go_wp2_with fail
      go_ret
      exact ⟨by rw [HE.out]; rfl, HBW.out⟩
    · have t6 : (nm == vw) = true := by simpa using t5
      have t7 : (nm != vw) = false := by simpa using t5
      go_wp2_with fail
      go_ret
      exact ⟨by rw [HE.out]; rfl, HBW.out⟩
  by_cases h8 : (l.length : Int) < ct
  · have HE : Hid (R = 2) := by unfold Hid; rw [HG.out, if_neg h6, if_neg (by omega)]
    clear HG h6
    go_enter Tryd.func19, Tryd.ntmps19
    cases cm
    · go_wp2_with fail
      go_ret
      exact ⟨by rw [HE.out]; rfl, HBW.out⟩
    · have t6 : (nm == vw) = true := by simpa using t5
      have t7 : (nm != vw) = false := by simpa using t5
      go_wp2_with fail
      go_ret
      exact ⟨by rw [HE.out]; rfl, HBW.out⟩
  have HE : Hid (R = logE l) := by unfold Hid; rw [HG.out, if_neg h6, if_pos (by omega)]
  have hl60 : l.length ≤ 60 := by omega
  clear HG h6
  obtain ⟨w0, hw0⟩ : ∃ w0, w0 = w.alloc (.cells #[.int .i64 vw, .int .i64 nm, .bool cm, .slice a l.length c, .int .i64 ct] 25) := ⟨_, rfl⟩
  go_enter Tryd.func19, Tryd.ntmps19
  go_upto_region 1 with fail
  rw [← hw0] at b0 HBW ⊢
  clear hw0
  have x0 := b0.cell 0 _ rfl
  have x1 := b0.cell 1 _ rfl
  have x2 := b0.cell 2 _ rfl
  have x3 := b0.cell 3 _ rfl
  have x4 := b0.cell 4 _ rfl
  clear b0
  have hcm : cm = false ∨ (cm = true ∧ (nm == vw) = true ∧ (nm != vw) = false) := by
    cases cm
    · exact Or.inl rfl
    · exact Or.inr ⟨rfl, by simpa using t5, by simpa using t5⟩
  clear t5
  rcases hcm with rfl | ⟨rfl, t6, t7⟩
  all_goals
    go_wp2_with fail
    go_loopw [55] (fun i wr => ∃ k : Nat, k ≤ l.length ∧ i = .int .i64 k ∧ logE (l.take k) = 0 ∧ Below w.heap.size w wr) (fun i wr => l.length - (intOf i).toNat)
    case atStart => exact ⟨0, by omega, rfl, rfl, HBW.out⟩
    case round =>
      clear x0 x1 x2 x3 x4 HBW
      obtain ⟨k, hk, rfl, hg, hbr⟩ := hrel
      by_cases hlt : k < l.length
      · obtain ⟨b, o, rfl, hc1, hc2⟩ := hcx k hlt
        have t0 := (hbr.cell (p := ⟨b, _, none⟩) (lt_of_cell hc1)).trans hc1
        have HL : Hid (logE (l.take (k + 1)) = decE (l.getD k [])) := by
          unfold Hid
          rw [List.take_succ_eq_append_getElem hlt, logE_snoc, if_pos hg, show l.getD k [] = l[k] by simp [List.getD, hlt]]
        have HST : Hid (logE (l.take (k + 1)) ≠ 0 → logE l = logE (l.take (k + 1))) := logE_stop l (k + 1)
        have HBR : Hid (Below w.heap.size w wr) := hbr
        have k0 : (0 : Int) ≤ (k : Int) := by omega
        have k1 : (k : Int) < (l.length : Int) := by omega
        have HEN : Hid (∀ w, Calls _ _ _ w _) := fun w => machDec_any (l.getD k []) w (by omega)
        clear hc1 hc2 hcx hbr hg
        generalize l.getD k [] = s at *
        generalize decR s = r at HEN
        obtain ⟨D, HD⟩ : ∃ D, Hid (decE s = D) := ⟨_, rfl⟩
        rw [HD.out] at HEN HL
        obtain ⟨c', n', k', p', sn', d'⟩ := r
        unfold reqVal at HEN
        by_cases hd : D = 0
        · subst hd
          go_wp2_with fail
          refine (HEN.out _).mono ?_
          rintro e w2 ⟨rfl, hb2⟩
          have HN : Hid (Below w.heap.size w _) := Below.up (Below.far HBR.out hb2) (.cells #[.int .i64 c', .int .i64 n', .int .i64 k', .int .i64 p', .int .i64 sn', .string ⟨d'.toArray⟩] 58)
          clear hb2 t0 HEN
          go_wp2_with fail
          go_roundw
          case rel => exact ⟨k + 1, by omega, by go_num, HL.out, HN.out⟩
          case measure => simp [intOf]; omega
        · have t1 : (D == 0) = false := by simpa using hd
          have t2 : (D != 0) = true := by simpa using hd
          have HF : Hid (logE l = D) := by
            have := HST.out (by rw [HL.out]; exact hd)
            unfold Hid
            rw [this, HL.out]
          go_wp2_with fail
          refine (HEN.out _).mono ?_
          rintro e w2 ⟨rfl, hb2⟩
          have HN : Hid (Below w.heap.size w _) := Below.up (Below.far HBR.out hb2) (.cells #[.int .i64 c', .int .i64 n', .int .i64 k', .int .i64 p', .int .i64 sn', .string ⟨d'.toArray⟩] 58)
          clear hb2 t0 HEN hd
          go_wp2_with fail
          go_ret
          exact ⟨by rw [HE.out, HF.out]; rfl, HN.out⟩
      · obtain rfl : k = l.length := by omega
        have HL : Hid (logE l = 0) := by unfold Hid; rw [List.take_length] at hg; exact hg
        have HBR : Hid (Below w.heap.size w wr) := hbr
        clear hcx hg hbr
        go_wp2_with fail
        go_ret
        exact ⟨by rw [HE.out, HL.out]; rfl, HBR.out⟩

end Go.Proofs.YtmdgkjbiicaljagDoor

/- Small mathematics of a replica's fault. -/
namespace Go.Proofs.YtmdgkjbiicaljagDoor

def lens4 (R : ReplM) : List Int := [(R.hav.length : Int), R.wants.length, R.gives.length, R.given.length]
theorem fours_bad (R : ReplM) (k : Nat) (hk : k < 4) (h : (lens4 R).getD k 0 ≠ 3) : fours R = false := by
  match k, hk with
  | 0, _ => simp [lens4] at h; simp [fours]; omega
  | 1, _ => simp [lens4] at h; simp [fours]; omega
  | 2, _ => simp [lens4] at h; simp [fours]; omega
  | 3, _ => simp [lens4] at h; simp [fours]; omega
theorem fours_good (R : ReplM) (h : ∀ j, j < 4 → (lens4 R).getD j 0 = 3) : R.hav.length = 3 ∧ R.wants.length = 3 ∧ R.gives.length = 3 ∧ R.given.length = 3 ∧ fours R = true := by
  have h0 := h 0 (by omega)
  have h1 := h 1 (by omega)
  have h2 := h 2 (by omega)
  have h3 := h 3 (by omega)
  simp [lens4] at h0 h1 h2 h3
  refine ⟨by omega, by omega, by omega, by omega, ?_⟩
  simp [fours]
  omega

theorem all_take_next {α : Type} (p : α → Bool) (l : List α) (k : Nat) (d : α) (h : (l.take k).all p = true) (hk : k < l.length) (hp : p (l.getD k d) = true) : (l.take (k + 1)).all p = true := by
  rw [List.take_succ_eq_append_getElem hk, List.all_append, h]
  have : l.getD k d = l[k] := by simp [List.getD, hk]
  rw [this] at hp
  simp [hp]
theorem all_bad {α : Type} (p : α → Bool) (l : List α) (k : Nat) (d : α) (hk : k < l.length) (hp : p (l.getD k d) = false) : l.all p = false := by
  have e : l.getD k d = l[k] := by simp [List.getD, hk]
  rw [e] at hp
  rw [List.all_eq_false]
  exact ⟨_, List.getElem_mem hk, by simp [hp]⟩

end Go.Proofs.YtmdgkjbiicaljagDoor
