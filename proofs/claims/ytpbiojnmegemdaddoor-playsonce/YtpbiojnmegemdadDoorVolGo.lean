/- What the program's own package volume does: its contracts. -/
import Derived.Test.YtpbiojnmegemdadDoorVolMem
import Derived.BigQuiet
import Derived.Laws.EntriesVeiled
import Derived.Laws.CopyOwn
import Derived.Deep.QuietTactic
namespace Go.Proofs.YtpbiojnmegemdadDoor
open Go.RowKit
set_option linter.unusedVariables false
set_option linter.unusedSimpArgs false
attribute [local go_sem] app_list ext_list get_list byteAt_zero

set_option maxHeartbeats 1000000 in
theorem volCheckOp_any (o : OpM) (w : World) (hl : o.data.length ≤ 281474976710656) :
    Calls Tryd.prog 26 #[.agg (opCells o).toArray] w fun e w' => e = .returned (.int .i64 (opFault o)) ∧ Below w.heap.size w w' := by
  unfold opCells
  obtain ⟨k, p, s, d⟩ := o
  have hd : d = [] ∨ ∃ c r, d = c :: r := by cases d; exact Or.inl rfl; exact Or.inr ⟨_, _, rfl⟩
  rcases hd with rfl | ⟨c, r, rfl⟩
  all_goals
    go_enter Tryd.func26, Tryd.ntmps26
    go_wp2
  all_goals
    go_ret
    refine ⟨ret_eq (congrArg (Value.int .i64) ?_), below_alloc _ _⟩
    show _ = opFaultN _ _ _ _
    simp only [List.length_nil, List.length_cons, Bool.not_eq_true', Bool.not_eq_false', decide_eq_true_eq, decide_eq_false_iff_not, beq_iff_eq, bne_iff_ne, ne_eq, beq_eq_false_iff_ne, bne_eq_false_iff_eq] at *
    unfold opFaultN
    repeat' split
    all_goals first | rfl | (exfalso; omega)

set_option maxHeartbeats 1000000 in
theorem indexLong_any (x : List (List UInt8)) (v : Value) (w : World) (hx : Strs w v x) :
    Calls Tryd.prog 43 #[v, .func (.func 34) #[] #[]] w fun e w' => ∃ n : Int, e = .returned (.int .i64 n) ∧ decide (0 ≤ n) = !(x.all (fun s => decide (s.length ≤ 8))) ∧ w' = w := by
  obtain ⟨a, c, rfl, hlx, hcx⟩ := hx
  go_enter Tryd.func43, Tryd.ntmps43
  go_wp2
  go_loop [8] (fun i => ∃ k : Nat, k ≤ x.length ∧ i = .int .i64 k ∧ (x.take k).all (fun s => decide (s.length ≤ 8)) = true) (fun i => x.length - (intOf i).toNat)
  case atStart => exact ⟨0, by omega, rfl, rfl⟩
  case round =>
    obtain ⟨k, hk, rfl, he⟩ := hrel
    have He : Hid ((x.take k).all (fun s => decide (s.length ≤ 8)) = true) := he
    clear he
    by_cases hlt : k < x.length
    · obtain ⟨b, o, rfl, h1, h2⟩ := hcx k hlt
      have hg : x.getD k [] = x[k] := by simp [List.getD, hlt]
      by_cases e : (x.getD k []).length ≤ 8
      · have HE : Hid ((x.take (k + 1)).all (fun s => decide (s.length ≤ 8)) = true) := by
          unfold Hid
          rw [List.take_succ_eq_append_getElem hlt, List.all_append, He.out, ← hg]
          simpa using e
        clear hg hcx
        generalize x.getD k [] = s at *
        go_wp2
        exact ⟨⟨k + 1, by omega, by go_num, HE.out⟩, by simp [intOf]; omega⟩
      · have HE : Hid (x.all (fun s => decide (s.length ≤ 8)) = false) := by
          apply List.all_eq_false.2
          exact ⟨x[k], List.getElem_mem hlt, by rw [← hg]; simpa using e⟩
        clear hg hcx
        generalize x.getD k [] = s at *
        go_wp2
        go_ret
        exact ⟨_, rfl, by rw [HE.out]; simp, rfl⟩
    · have HE : Hid (x.all (fun s => decide (s.length ≤ 8)) = true) := by
        have := He.out
        rw [List.take_of_length_le (by omega)] at this
        exact this
      go_wp2
      go_ret
      exact ⟨_, rfl, by rw [HE.out]; rfl, rfl⟩

set_option maxHeartbeats 1000000 in
theorem wrong_any (x : List (List UInt8)) (v : Value) (w : World) (hx : Strs w v x) (b : Nat) (hb : w.cell? ⟨b, 0, none⟩ = some (.func (.func 34) #[] #[])) :
    Calls Tryd.prog 35 #[v, .pointer (some ⟨b, 0, none⟩)] w fun e w' => e = .returned (.bool (!(secMay x))) ∧ w' = w := by
  have hx' := hx
  obtain ⟨a, c, rfl, hlx, _⟩ := hx'
  by_cases h6 : (x.length : Int) = 6
  · have HE : Hid (secMay x = x.all (fun s => decide (s.length ≤ 8))) := by
      unfold Hid secMay
      have : x.length = 6 := by omega
      rw [this]; simp
    have q : ((x.length : Int) != 6) = false := by simp [h6]
    clear h6
    go_enter Tryd.func35, Tryd.ntmps35
    go_wp2_with (first
      | (go_at_call 43; refine (indexLong_any _ _ _ hx).mono ?_; rintro e w1 ⟨n, rfl, HN, rfl⟩; have HN' : Hid (_ = _) := HN; clear HN)
      | go_in)
    go_ret
    exact ⟨by rw [HE.out, ← HN'.out]; rfl, rfl⟩
  · have HE : Hid (secMay x = false) := by
      unfold Hid secMay
      have : ¬ x.length = 6 := by omega
      simp [this]
    have q : ((x.length : Int) != 6) = true := by simp [h6]
    clear h6
    go_enter Tryd.func35, Tryd.ntmps35
    go_wp2_with fail
    go_ret
    exact ⟨by rw [HE.out]; rfl, rfl⟩

set_option maxHeartbeats 1000000 in
theorem indexWrong_any (x : List (List (List UInt8))) (v : Value) (w : World) (hx : Strss w v x) (b : Nat) (hb : w.cell? ⟨b, 0, none⟩ = some (.func (.func 34) #[] #[])) :
    Calls Tryd.prog 44 #[v, .func (.func 35) #[] #[.pointer (some ⟨b, 0, none⟩)]] w fun e w' => ∃ n : Int, e = .returned (.int .i64 n) ∧ decide (0 ≤ n) = !(x.all secMay) ∧ w' = w := by
  obtain ⟨a, c, rfl, hlx, hcx⟩ := hx
  go_enter Tryd.func44, Tryd.ntmps44
  go_wp2_with fail
  go_loop [8] (fun i => ∃ k : Nat, k ≤ x.length ∧ i = .int .i64 k ∧ (x.take k).all secMay = true) (fun i => x.length - (intOf i).toNat)
  case atStart => exact ⟨0, by omega, rfl, rfl⟩
  case round =>
    obtain ⟨k, hk, rfl, he⟩ := hrel
    have He : Hid ((x.take k).all secMay = true) := he
    clear he
    by_cases hlt : k < x.length
    · obtain ⟨b', o, u, rfl, h1, h2⟩ := hcx k hlt
      have hg : x.getD k [] = x[k] := by simp [List.getD, hlt]
      rcases Bool.eq_false_or_eq_true (secMay (x.getD k [])) with e | e
      · have HE : Hid ((x.take (k + 1)).all secMay = true) := by
          unfold Hid
          rw [List.take_succ_eq_append_getElem hlt, List.all_append, He.out, ← hg]
          simpa using e
        have HW : Hid (Calls _ _ _ _ _) := wrong_any (x.getD k []) u w h2 b hb
        rw [e] at HW
        clear hg hcx e h2
        go_wp2_with (go_at_call 35; refine HW.out.mono ?_; rintro e w1 ⟨rfl, rfl⟩)
        exact ⟨⟨k + 1, by omega, by go_num, HE.out⟩, by simp [intOf]; omega⟩
      · have HE : Hid (x.all secMay = false) := by
          apply List.all_eq_false.2
          exact ⟨x[k], List.getElem_mem hlt, by rw [← hg]; simpa using e⟩
        have HW : Hid (Calls _ _ _ _ _) := wrong_any (x.getD k []) u w h2 b hb
        rw [e] at HW
        clear hg hcx e h2
        go_wp2_with (go_at_call 35; refine HW.out.mono ?_; rintro e w1 ⟨rfl, rfl⟩)
        go_ret
        exact ⟨_, rfl, by rw [HE.out]; simp, rfl⟩
    · have HE : Hid (x.all secMay = true) := by
        have := He.out
        rw [List.take_of_length_le (by omega)] at this
        exact this
      go_wp2_with fail
      go_ret
      exact ⟨_, rfl, by rw [HE.out]; rfl, rfl⟩

set_option maxHeartbeats 1000000 in
theorem volCheck_any (V : VolM) (v : Value) (w : World) (h : VolAt w v V) :
    Calls Tryd.prog 24 #[v] w fun e w' => e = .returned (.int .i64 (volFault V)) ∧ Below w.heap.size w w' := by
  obtain ⟨vn, vs, rfl, hn, hs⟩ := h
  have hmf : ∀ (fn : Fn) (first cap : Array Value) (w : World), (Instr.makeFunc fn first cap).run Tryd.prog w = .ok (.func fn first cap) w := fun _ _ _ _ => rfl
  obtain ⟨bA, bB, hb⟩ := boxes2 w 40 82 [vn, vs] [.func (.func 34) #[] #[]]
  have hn' := hn.below hb
  have hs' := hs.below hb
  have HW : Hid (Calls _ _ _ _ _) := wrong_any V.now vn _ hn' (w.heap.size + 1) (bB.cell 0 _ rfl)
  have HI : Hid (Calls _ _ _ _ _) := indexWrong_any V.snaps vs _ hs' (w.heap.size + 1) (bB.cell 0 _ rfl)
  have HB : Hid (Below _ _ _) := hb
  obtain ⟨a, c, rfl, hla, _⟩ := hs
  clear hn' hs' hn bA bB hb
  rcases Bool.eq_false_or_eq_true (secMay V.now) with e | e
  · rw [e] at HW
    by_cases hl : (V.snaps.length : Int) ≤ 3
    · have HF : Hid (volFault V = if V.snaps.all secMay = true then 0 else 8) := by
        unfold Hid volFault volMay
        rw [e]
        have : V.snaps.length ≤ 3 := by omega
        simp [this]
      clear e
      have hB : V.snaps.all secMay = true ∨ V.snaps.all secMay = false := by cases V.snaps.all secMay <;> simp
      rcases hB with hB | hB
      all_goals
        rw [hB] at HF HI
        clear hB
        go_enter Tryd.func24, Tryd.ntmps24
        go_wp2_with (first
          | (go_at_call 35; refine HW.out.mono ?_; rintro e w1 ⟨rfl, rfl⟩)
          | (go_at_call 44; refine HI.out.mono ?_; rintro e w1 ⟨n, rfl, HN, rfl⟩; simp only [Bool.not_true, Bool.not_false, decide_eq_true_eq, decide_eq_false_iff_not] at HN)
          | go_in)
        go_ret
        exact ⟨by rw [HF.out]; rfl, HB.out⟩
    · have HF : Hid (volFault V = 8) := by
        unfold Hid volFault volMay
        have : ¬ V.snaps.length ≤ 3 := by omega
        simp [this]
      clear e
      go_enter Tryd.func24, Tryd.ntmps24
      go_wp2_with (first
        | (go_at_call 35; refine HW.out.mono ?_; rintro e w1 ⟨rfl, rfl⟩))
      go_ret
      exact ⟨by rw [HF.out]; rfl, HB.out⟩
  · rw [e] at HW
    have HF : Hid (volFault V = 8) := by
      unfold Hid volFault volMay
      simp [e]
    clear e
    go_enter Tryd.func24, Tryd.ntmps24
    go_wp2_with (first
      | (go_at_call 35; refine HW.out.mono ?_; rintro e w1 ⟨rfl, rfl⟩))
    go_ret
    exact ⟨by rw [HF.out]; rfl, HB.out⟩

theorem goMakeStrs6 (w : World) : (Instr.makeSlice 36 (.int .i64 6) (.int .i64 6)).run Tryd.prog w = .ok (.slice (some ⟨w.heap.size, 0, none⟩) 6 6) (w.alloc (.cells #[.string ⟨#[]⟩, .string ⟨#[]⟩, .string ⟨#[]⟩, .string ⟨#[]⟩, .string ⟨#[]⟩, .string ⟨#[]⟩] 9)) := by kernel_rfl

set_option maxHeartbeats 1000000 in
theorem volNew_any (w : World) :
    Calls Tryd.prog 28 #[] w fun e w' => ∃ v', e = .returned v' ∧ VolNew w' w.heap.size v' newVol ∧ Below w.heap.size w w' := by
  have k1 := goMakeStrs6
  go_enter Tryd.func28, Tryd.ntmps28
  go_wp2_with fail
  clear k1
  obtain ⟨b0, b1, hb⟩ := boxes2 w 40 9 [.slice (some ⟨w.heap.size + 1, 0, none⟩) 6 6, .slice none 0 0] [.string ⟨#[]⟩, .string ⟨#[]⟩, .string ⟨#[]⟩, .string ⟨#[]⟩, .string ⟨#[]⟩, .string ⟨#[]⟩]
  have HV : Hid (VolNew _ _ _ _) := newVol_at b1 (B := w.heap.size) (by omega)
  have HB : Hid (Below _ _ _) := hb
  clear b0 b1 hb
  refine bodyPost_ret (v := .agg #[.slice (some ⟨w.heap.size + 1, 0, none⟩) 6 6, .slice none 0 0]) ?_ rfl ?_
  · clear HV HB
    simp [results, Tryd.results28, go_sem]
  · exact ⟨_, rfl, HV.out, HB.out⟩

/-- The cells of a new list of strings. -/
theorem made_one (z : Value) (n : Nat) : (madeCells #[z] n).toList = List.replicate n z := by
  unfold madeCells
  apply List.ext_getElem
  · simp
  · intro i h1 h2
    simp [Nat.mod_one]

set_option maxHeartbeats 1000000 in
theorem copySectors_any (x : List (List UInt8)) (v : Value) (w : World) (hx : Strs w v x) (hz : x.length * 16 ≤ 140737488355328) :
    Calls Tryd.prog 46 #[v] w fun e w' => ∃ v', e = .returned v' ∧ w'.ownsRow w.heap.size 9 1 v' x.length (x.map enc) ∧ Below w.heap.size w w' := by
  have hx0 : Hid (Strs w v x) := hx
  obtain ⟨a, c, rfl, hlx, hcx⟩ := hx
  go_enter Tryd.func46, Tryd.ntmps46
  go_wp2_with (at_make; refine wpList_make_full _ rfl _ _ 36 rfl w.heap.size 9 Tryd.t9 _ 1 Tryd.underlying36 infoStr zeroStr sizeStr .i64 .i64 x.length x.length x.length rfl rfl rfl rfl (by rw [bytesStr]; omega) (by unfold maxLen; omega) (Nat.le_refl _) ?_)
  intro w1 hown hg
  rw [made_one] at hown
  obtain ⟨g, cap, cur, hv, hb, hgc, _, hm, hcur, hcc⟩ := hown.2.resolve_left (by rintro ⟨h, _⟩; cases h)
  cases hv
  have hb1 : Below w.heap.size w w1 := (Below.refl _ _).grown hg (Nat.le_refl _) (fun _ h => by cases h)
  have Hr1 : Hid (RowAt w1 (.slice a x.length c) x.length 1 (x.map enc)) := (hx0.out.below hb1).row
  have hcs : cur.size = x.length := by simpa using hcur
  have HG : Hid (w1.heap[w.heap.size]? = some (.cells cur.toList.toArray 9 (0, 0))) := by unfold Hid; simpa using hgc
  have HL : Hid (cur.size = x.length) := hcs
  have HZ : Hid (0 + (x.map enc).length ≤ cur.toList.length) := by unfold Hid; simp; omega
  have HC : Hid (0 < (x.map enc).length → ∃ ad, a = some ad ∧ ∀ j u, (x.map enc)[j]? = some u → w1.cell? (ad.add j) = some u) := by
    intro h0
    obtain ⟨a', c', hv, hl, hc⟩ := Hr1.out
    cases hv
    obtain ⟨ad, had, _⟩ := hc 0 _ (List.getElem?_eq_getElem h0)
    refine ⟨ad, had, fun j u hj => ?_⟩
    obtain ⟨ad', had', h2⟩ := hc j u hj
    rw [had] at had'
    cases had'
    exact h2
  have HM : Hid (x.length ≤ maxLen) := hm
  clear hx0 hcs hgc hm hcur hcc hown hg hcx
  go_wp2_with (refine show wpList _ _ _ ({ dst := _, op := .call { callee := .builtin .copy, args := _, argTypes := _ }, type := _, pos := _, after := _, guard := _ } :: _) _ _ from ?_; refine wpList_copy_splice rfl _ _ 36 36 rfl 9 Tryd.underlying36 (by kernel_rfl) _ _ _ _ _ _ rfl rfl w.heap.size 0 cur.toList 9 HG.out (x.map enc) (by rw [List.length_map]; exact (Nat.min_self _).symm) (fun h0 => ⟨rfl, HC.out h0⟩) HZ.out (enc_one _) w.heap.size w hb1 (Nat.le_refl _) ?_)
  intro w2 HW2 hb2
  have HO : Hid (World.ownsRow w2 w.heap.size 9 1 (.slice (some ⟨w.heap.size, 0, none⟩) x.length x.length) x.length (x.map enc)) := by
    refine ⟨by simp, Or.inr ⟨_, _, _, rfl, Nat.le_refl _, HW2.out, Nat.le_refl _, HM.out, ?_, ?_⟩⟩
    · have := HL.out
      simp [splice]; omega
    · have := HL.out
      simp [splice]
  clear HW2 HG Hr1
  go_wp2_with fail
  go_ret
  exact ⟨_, rfl, HO.out, hb2⟩

end Go.Proofs.YtpbiojnmegemdadDoor
