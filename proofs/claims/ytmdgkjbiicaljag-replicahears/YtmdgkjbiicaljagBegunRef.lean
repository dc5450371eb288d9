/- The document's begun: a view begins, if enough gave. -/
import Derived.Test.YtmdgkjbiicaljagOwnRef
import Derived.Test.YtmdgkjbiicaljagJointHearLd
import Derived.Test.YtmdgkjbiicaljagJointNumIs
namespace Go.Proofs.Ytmdgkjbiicaljag
open Go.RowKit
set_option linter.unusedVariables false
set_option linter.unusedSimpArgs false

theorem best_at (R : ReplM) : ∀ k : Nat, (bestTo R k).at_ < k ∧ -1 ≤ (bestTo R k).at_ ∧ 0 ≤ (bestTo R k).many ∧ (bestTo R k).many ≤ k ∧ (0 < (bestTo R k).many → 0 ≤ (bestTo R k).at_)
  | 0 => ⟨by show (-1 : Int) < 0; omega, by show (-1 : Int) ≤ -1; omega, by show (0 : Int) ≤ 0; omega, by show (0 : Int) ≤ 0; omega, fun h => absurd h (by show ¬ (0 : Int) < 0; omega)⟩
  | k + 1 => by
    obtain ⟨h1, h2, h3, h4, h5⟩ := best_at R k
    unfold bestTo bestStep
    split
    · by_cases hb : better R (bestTo R k) k = true
      · rw [if_pos hb]
        exact ⟨by simp only; omega, by simp only; omega, by simp only; omega, by simp only; omega, fun _ => by simp only; omega⟩
      · rw [if_neg hb]
        have h6 : ¬ (bestTo R k).at_ < 0 := fun h => hb (by unfold better; rw [decide_eq_true h, Bool.true_or])
        exact ⟨by simp only; omega, by simp only; omega, by simp only; omega, by simp only; omega, fun _ => by simp only; omega⟩
    · exact ⟨by omega, h2, h3, by omega, h5⟩

/-- Begun, or as it was. -/
def BegunTo (b B : Nat) (R : ReplM) (w : World) (e : Ending) (w' : World) : Prop :=
  ∃ v, e = .returned v ∧ HeldAt w' b B (beginR R) ∧ MsgsNew w' w.heap.size v (beginL R) ∧ Beside w.heap.size b w w'

set_option maxRecDepth 4000 in
set_option maxHeartbeats 16000000 in
theorem begunOf_any (b B : Nat) (R : ReplM) (w : World) (h : HeldAt w b B R) (h3 : R.gives.length = 3) (h3' : R.given.length = 3) (hme : 0 ≤ R.me) (hme' : R.me < 3) (hz : ∀ k ∈ R.gives, TextsIn k.log) (hB : B ≤ w.heap.size) :
    Calls Try.prog 58 #[.pointer (some ⟨b, 0, none⟩)] w (BegunTo b B R w) := by
  have HT : Hid (HeldAt w b B R) := h
  obtain ⟨vl, vh, vw, vg, vn, ps, hx, ho⟩ := h
  have hpl : ps.length = 3 := by rw [← h3, ho.1, List.length_map]
  obtain ⟨al, cl, ah, ch, aw, cw, ag, cg, an, cn, rfl, rfl, rfl, rfl, rfl⟩ := ho.forms
  have hgv := ho.2.2.2.2.1.1
  have hgn := ho.2.2.2.2.2.1
  obtain ⟨g, cg', hvg, _, _, _, _⟩ := own_cellN hgv (by decide) 0 (by omega)
  obtain ⟨gn, cn', hvn, _, _, _, _⟩ := own_cell hgn 0 (by omega)
  simp only [Value.slice.injEq] at hvg hvn
  obtain ⟨rfl, _, rfl⟩ := hvg
  obtain ⟨rfl, _, rfl⟩ := hvn
  have HGN : Hid (∀ k, k < 3 → w.cell? ⟨gn, k, none⟩ = some (.bool (R.given.getD k false))) := fun k hk => by
    obtain ⟨g', c', hv, _, _, hc, _⟩ := own_cell hgn k (by omega)
    simp only [Value.slice.injEq, Option.some.injEq, Addr.mk.injEq, and_true] at hv
    obtain ⟨rfl, _, _⟩ := hv
    rw [hc]
    have : k < R.given.length := by omega
    simp [encB, List.getD, this]
  have HCL : Hid (∀ k, k < 3 → ∃ ap cp, w.ownsRow B 9 1 (.slice ap (R.gives.getD k zeroKept).log.length cp) (R.gives.getD k zeroKept).log.length ((R.gives.getD k zeroKept).log.map enc) ∧
      w.cell? ⟨g, k * 5, none⟩ = some (.int .i64 (R.gives.getD k zeroKept).view) ∧ w.cell? ⟨g, k * 5 + 1, none⟩ = some (.int .i64 (R.gives.getD k zeroKept).normal) ∧ w.cell? ⟨g, k * 5 + 2, none⟩ = some (.bool (R.gives.getD k zeroKept).calm) ∧
      w.cell? ⟨g, k * 5 + 3, none⟩ = some (.slice ap (R.gives.getD k zeroKept).log.length cp) ∧ w.cell? ⟨g, k * 5 + 4, none⟩ = some (.int .i64 (R.gives.getD k zeroKept).commit)) := fun k hk => by
    have hkp : k < ps.length := by omega
    have ek : R.gives.getD k zeroKept = ps[k].1 := by rw [ho.1]; simp [List.getD, hkp]
    have hl := ho.2.2.2.2.1.2 ps[k] (List.getElem_mem hkp)
    obtain ⟨ap, cp, hpk⟩ := own_form hl
    have hc : ∀ j, j < 5 → w.cell? ⟨g, k * 5 + j, none⟩ = (keptRow ps[k])[j]? := fun j hj => by
      obtain ⟨g', c', hv, _, _, hc, _⟩ := own_cellN hgv (by decide) (k * 5 + j) (by omega)
      simp only [Value.slice.injEq, Option.some.injEq, Addr.mk.injEq, and_true] at hv
      obtain ⟨rfl, _, _⟩ := hv
      rw [hc, flat_get keptRow 5 keptRow_len ps k j ps[k] (List.getElem?_eq_getElem hkp) hj]
    rw [ek]
    refine ⟨ap, cp, by rw [← hpk]; exact hl, ?_, ?_, ?_, ?_, ?_⟩
    · have := hc 0 (by omega); rw [Nat.add_zero] at this; rw [this]; rfl
    · rw [hc 1 (by omega)]; rfl
    · rw [hc 2 (by omega)]; rfl
    · rw [hc 3 (by omega), ← hpk]; rfl
    · rw [hc 4 (by omega)]; rfl
  have HZ : Hid (∀ k, k < 3 → TextsIn (R.gives.getD k zeroKept).log) := fun k hk => by
    have hkp : k < R.gives.length := by omega
    have : R.gives.getD k zeroKept = R.gives[k] := by simp [List.getD, hkp]
    rw [this]; exact hz _ (List.getElem_mem hkp)
  have HX : Hid (Box w b _ _) := hx
  have HG3 : Hid (R.gives.length = 3 ∧ R.given.length = 3 ∧ 0 ≤ R.me ∧ R.me < 3) := ⟨h3, h3', hme, hme'⟩
  clear hx ho hgv hgn hpl h3 h3' hme hme' hz
  go_enter Try.func58, Try.ntmps58
  go_wp2_with fail
  go_loopw [3, 4, 5, 6] (fun s3 s4 s5 i wr => ∃ k : Nat, k ≤ 3 ∧ i = .int .i64 k ∧ s3 = .int .i64 (bestTo R k).many ∧ s4 = .int .i64 (bestTo R k).at_ ∧ s5 = .int .i64 (bestTo R k).commit ∧ Below w.heap.size w wr) (fun s3 s4 s5 i wr => 3 - (intOf i).toNat)
  case atStart => exact ⟨0, by omega, rfl, rfl, rfl, rfl, Below.refl _ _⟩
  case round =>
    obtain ⟨k, hk, rfl, rfl, rfl, rfl, hbr⟩ := hrel
    have HBR : Hid (Below w.heap.size w wr) := hbr
    clear hbr
    obtain ⟨bt, hbt⟩ : ∃ bt, bt = bestTo R k := ⟨_, rfl⟩
    have hba := best_at R k
    rw [← hbt] at hba ⊢
    have HBT : Hid (bt = bestTo R k) := hbt
    clear hbt
    obtain ⟨mn, bat, cm⟩ := bt
    simp only at hba ⊢
    obtain ⟨a1, a2, a3, a4, a5⟩ := hba
    have bx := HX.out.below HBR.out HX.out.lt
    have HXR : Hid (Box wr b _ _) := bx
    by_cases hlt : k < 3
    · have k0 : (0 : Int) ≤ (k : Int) := by omega
      have k1 : (k : Int) < (R.gives.length : Int) := by have := HG3.out.1; omega
      have k2 : (k : Int) < (R.given.length : Int) := by have := HG3.out.2.1; omega
      have k3 : (k : Int) < 3 := by omega
      have gk := keep_cell9 HBR.out (HGN.out k hlt)
      have HST : Hid (bestTo R (k + 1) = bestStep R ⟨mn, bat, cm⟩ k) := by unfold Hid; rw [HBT.out]; rfl
      have x0 := bx.cell 0 _ rfl
      have x1 := bx.cell 1 _ rfl
      have x2 := bx.cell 2 _ rfl
      have x3 := bx.cell 3 _ rfl
      have x4 := bx.cell 4 _ rfl
      have x5 := bx.cell 5 _ rfl
      have x6 := bx.cell 6 _ rfl
      have x7 := bx.cell 7 _ rfl
      have x8 := bx.cell 8 _ rfl
      have x9 := bx.cell 9 _ rfl
      clear bx
      by_cases hgk : R.given.getD k false = true
      · obtain ⟨ap, cp, hpo, d0, d1, d2, d3, d4⟩ := HCL.out k hlt
        have d0 := keep_cell9 HBR.out d0
        have d1 := keep_cell9 HBR.out d1
        have d2 := keep_cell9 HBR.out d2
        have d3 := keep_cell9 HBR.out d3
        have d4 := keep_cell9 HBR.out d4
        obtain ⟨X, hX⟩ : ∃ X, X = R.gives.getD k zeroKept := ⟨_, rfl⟩
        rw [← hX] at d0 d1 d2 d3 d4
        have HSX : Hid (bestTo R (k + 1) = ⟨mn + 1, if better R ⟨mn, bat, cm⟩ k = true then k else bat, if cm < X.commit then X.commit else cm⟩) := by
          unfold Hid; rw [HST.out]; unfold bestStep; rw [if_pos hgk, ← hX]
        have HBX : Hid (better R ⟨mn, bat, cm⟩ k = (decide (bat < 0) || (decide ((R.gives.getD bat.toNat zeroKept).normal < X.normal) || (decide (X.normal = (R.gives.getD bat.toNat zeroKept).normal) && decide ((R.gives.getD bat.toNat zeroKept).log.length < X.log.length))))) := by
          unfold Hid better; rw [← hX]
        rw [hgk] at gk
        have bp := Box.new wr 24 [.int .i64 X.view, .int .i64 X.normal, .bool X.calm, .slice ap X.log.length cp, .int .i64 X.commit]
        have hb2 := below_alloc wr (.cells #[.int .i64 X.view, .int .i64 X.normal, .bool X.calm, .slice ap X.log.length cp, .int .i64 X.commit] 24)
        obtain ⟨w2, hw2⟩ : ∃ w2, w2 = wr.alloc (.cells #[.int .i64 X.view, .int .i64 X.normal, .bool X.calm, .slice ap X.log.length cp, .int .i64 X.commit] 24) := ⟨_, rfl⟩
        clear hX HST hgk hpo
        go_upto_region 10 with fail
        rw [← hw2] at bp hb2 ⊢
        have HB2 : Hid (Below w.heap.size w w2) := Below.far HBR.out hb2
        have HX2 : Hid (Box w2 b _ _) := HXR.out.below hb2 HXR.out.lt
        have y0 := bp.cell 0 _ rfl
        have y1 := bp.cell 1 _ rfl
        have y2 := bp.cell 2 _ rfl
        have y3 := bp.cell 3 _ rfl
        have y4 := bp.cell 4 _ rfl
        clear hw2 x0 x1 x2 x3 x4 x5 x6 x7 x8 x9 d0 d1 d2 d3 d4 gk bp hb2
        have bx := HX2.out
        have x0 := bx.cell 0 _ rfl
        have x1 := bx.cell 1 _ rfl
        have x2 := bx.cell 2 _ rfl
        have x3 := bx.cell 3 _ rfl
        have x4 := bx.cell 4 _ rfl
        have x5 := bx.cell 5 _ rfl
        have x6 := bx.cell 6 _ rfl
        have x7 := bx.cell 7 _ rfl
        have x8 := bx.cell 8 _ rfl
        have x9 := bx.cell 9 _ rfl
        clear bx
        by_cases hcm : cm < X.commit
        · by_cases hat : bat < 0
          · have HSN : Hid (bestTo R (k + 1) = ⟨mn + 1, k, X.commit⟩) := by
              unfold Hid; rw [HSX.out, HBX.out]
              rw [decide_eq_true hat, Bool.true_or]
              simp only [if_true, if_pos hcm]
            clear HSX HBX HBT
            go_upto_region 12 with fail
            go_big_region
            clear x0 x1 x2 x3 x4 x5 x6 x7 x8 x9 y0 y1 y2 y3 y4
            go_wp2_with fail
            go_roundw
            case rel => exact ⟨k + 1, by omega, by go_num, by rw [HSN.out], by rw [HSN.out], by rw [HSN.out], below_drewN _ HB2.out⟩
            case measure => simp [intOf]; omega
          · obtain ⟨ai, hai⟩ : ∃ ai : Nat, bat = (ai : Int) := ⟨bat.toNat, by omega⟩
            have hai3 : ai < 3 := by omega
            have eai : bat.toNat = ai := by omega
            obtain ⟨aq, cq, _, _, e1, _, e3, _⟩ := HCL.out ai hai3
            have e1 := keep_cell9 HB2.out e1
            have e3 := keep_cell9 HB2.out e3
            rw [eai] at HBX
            generalize R.gives.getD ai zeroKept = Y at HBX e1 e3
            have c0 : (0 : Int) ≤ (ai : Int) := by omega
            have c1 : (ai : Int) < (R.gives.length : Int) := by have := HG3.out.1; omega
            subst hai
            by_cases hn1 : Y.normal < X.normal
            · have HSN : Hid (bestTo R (k + 1) = ⟨mn + 1, k, X.commit⟩) := by
                unfold Hid; rw [HSX.out, HBX.out]
                rw [decide_eq_false hat, Bool.false_or]
                rw [decide_eq_true hn1, Bool.true_or]
                simp only [if_true, if_pos hcm]
              clear HSX HBX HBT
              go_upto_region 12 with fail
              go_big_region
              clear x0 x1 x2 x3 x4 x5 x6 x7 x8 x9 y0 y1 y2 y3 y4
              go_wp2_with fail
              go_roundw
              case rel => exact ⟨k + 1, by omega, by go_num, by rw [HSN.out], by rw [HSN.out], by rw [HSN.out], below_drewN _ HB2.out⟩
              case measure => simp [intOf]; omega
            · by_cases hn2 : X.normal = Y.normal
              · by_cases hn3 : (Y.log.length : Int) < (X.log.length : Int)
                · have HSN : Hid (bestTo R (k + 1) = ⟨mn + 1, k, X.commit⟩) := by
                    unfold Hid; rw [HSX.out, HBX.out]
                    rw [decide_eq_false hat, Bool.false_or]
                    rw [decide_eq_false hn1, decide_eq_true hn2, decide_eq_true (show Y.log.length < X.log.length by omega), Bool.false_or, Bool.true_and]
                    simp only [if_true, if_pos hcm]
                  clear HSX HBX HBT
                  go_upto_region 12 with fail
                  go_big_region
                  clear x0 x1 x2 x3 x4 x5 x6 x7 x8 x9 y0 y1 y2 y3 y4
                  go_wp2_with fail
                  go_roundw
                  case rel => exact ⟨k + 1, by omega, by go_num, by rw [HSN.out], by rw [HSN.out], by rw [HSN.out], below_drewN _ HB2.out⟩
                  case measure => simp [intOf]; omega
                · have HSN : Hid (bestTo R (k + 1) = ⟨mn + 1, (ai : Int), X.commit⟩) := by
                    unfold Hid; rw [HSX.out, HBX.out]
                    rw [decide_eq_false hat, Bool.false_or]
                    rw [decide_eq_false hn1, decide_eq_true hn2, decide_eq_false (show ¬ Y.log.length < X.log.length by omega), Bool.false_or, Bool.true_and]
                    simp only [if_true, if_pos hcm] <;> simp [hcm]
                  clear HSX HBX HBT
                  go_upto_region 12 with fail
                  go_big_region
                  clear x0 x1 x2 x3 x4 x5 x6 x7 x8 x9 y0 y1 y2 y3 y4
                  go_wp2_with fail
                  go_roundw
                  case rel => exact ⟨k + 1, by omega, by go_num, by rw [HSN.out], by rw [HSN.out], by rw [HSN.out], below_drewN _ HB2.out⟩
                  case measure => simp [intOf]; omega
              · have HSN : Hid (bestTo R (k + 1) = ⟨mn + 1, (ai : Int), X.commit⟩) := by
                  unfold Hid; rw [HSX.out, HBX.out]
                  rw [decide_eq_false hat, Bool.false_or]
                  rw [decide_eq_false hn1, decide_eq_false hn2, Bool.false_or, Bool.false_and]
                  simp only [if_true, if_pos hcm] <;> simp [hcm]
                clear HSX HBX HBT
                have hn4 : (X.normal == Y.normal) = false := beq_eq_false_iff_ne.2 hn2
                go_upto_region 12 with fail
                go_big_region
                clear x0 x1 x2 x3 x4 x5 x6 x7 x8 x9 y0 y1 y2 y3 y4
                go_wp2_with fail
                go_roundw
                case rel => exact ⟨k + 1, by omega, by go_num, by rw [HSN.out], by rw [HSN.out], by rw [HSN.out], below_drewN _ HB2.out⟩
                case measure => simp [intOf]; omega
        · by_cases hat : bat < 0
          · have HSN : Hid (bestTo R (k + 1) = ⟨mn + 1, k, cm⟩) := by
              unfold Hid; rw [HSX.out, HBX.out]
              rw [decide_eq_true hat, Bool.true_or]
              simp only [if_true, if_neg hcm]
            clear HSX HBX HBT
            go_upto_region 12 with fail
            go_big_region
            clear x0 x1 x2 x3 x4 x5 x6 x7 x8 x9 y0 y1 y2 y3 y4
            go_wp2_with fail
            go_roundw
            case rel => exact ⟨k + 1, by omega, by go_num, by rw [HSN.out], by rw [HSN.out], by rw [HSN.out], below_drewN _ HB2.out⟩
            case measure => simp [intOf]; omega
          · obtain ⟨ai, hai⟩ : ∃ ai : Nat, bat = (ai : Int) := ⟨bat.toNat, by omega⟩
            have hai3 : ai < 3 := by omega
            have eai : bat.toNat = ai := by omega
            obtain ⟨aq, cq, _, _, e1, _, e3, _⟩ := HCL.out ai hai3
            have e1 := keep_cell9 HB2.out e1
            have e3 := keep_cell9 HB2.out e3
            rw [eai] at HBX
            generalize R.gives.getD ai zeroKept = Y at HBX e1 e3
            have c0 : (0 : Int) ≤ (ai : Int) := by omega
            have c1 : (ai : Int) < (R.gives.length : Int) := by have := HG3.out.1; omega
            subst hai
            by_cases hn1 : Y.normal < X.normal
            · have HSN : Hid (bestTo R (k + 1) = ⟨mn + 1, k, cm⟩) := by
                unfold Hid; rw [HSX.out, HBX.out]
                rw [decide_eq_false hat, Bool.false_or]
                rw [decide_eq_true hn1, Bool.true_or]
                simp only [if_true, if_neg hcm]
              clear HSX HBX HBT
              go_upto_region 12 with fail
              go_big_region
              clear x0 x1 x2 x3 x4 x5 x6 x7 x8 x9 y0 y1 y2 y3 y4
              go_wp2_with fail
              go_roundw
              case rel => exact ⟨k + 1, by omega, by go_num, by rw [HSN.out], by rw [HSN.out], by rw [HSN.out], below_drewN _ HB2.out⟩
              case measure => simp [intOf]; omega
            · by_cases hn2 : X.normal = Y.normal
              · by_cases hn3 : (Y.log.length : Int) < (X.log.length : Int)
                · have HSN : Hid (bestTo R (k + 1) = ⟨mn + 1, k, cm⟩) := by
                    unfold Hid; rw [HSX.out, HBX.out]
                    rw [decide_eq_false hat, Bool.false_or]
                    rw [decide_eq_false hn1, decide_eq_true hn2, decide_eq_true (show Y.log.length < X.log.length by omega), Bool.false_or, Bool.true_and]
                    simp only [if_true, if_neg hcm]
                  clear HSX HBX HBT
                  go_upto_region 12 with fail
                  go_big_region
                  clear x0 x1 x2 x3 x4 x5 x6 x7 x8 x9 y0 y1 y2 y3 y4
                  go_wp2_with fail
                  go_roundw
                  case rel => exact ⟨k + 1, by omega, by go_num, by rw [HSN.out], by rw [HSN.out], by rw [HSN.out], below_drewN _ HB2.out⟩
                  case measure => simp [intOf]; omega
                · have HSN : Hid (bestTo R (k + 1) = ⟨mn + 1, (ai : Int), cm⟩) := by
                    unfold Hid; rw [HSX.out, HBX.out]
                    rw [decide_eq_false hat, Bool.false_or]
                    rw [decide_eq_false hn1, decide_eq_true hn2, decide_eq_false (show ¬ Y.log.length < X.log.length by omega), Bool.false_or, Bool.true_and]
                    simp only [if_true, if_neg hcm] <;> simp [hcm]
                  clear HSX HBX HBT
                  go_upto_region 12 with fail
                  go_big_region
                  clear x0 x1 x2 x3 x4 x5 x6 x7 x8 x9 y0 y1 y2 y3 y4
                  go_wp2_with fail
                  go_roundw
                  case rel => exact ⟨k + 1, by omega, by go_num, by rw [HSN.out], by rw [HSN.out], by rw [HSN.out], below_drewN _ HB2.out⟩
                  case measure => simp [intOf]; omega
              · have HSN : Hid (bestTo R (k + 1) = ⟨mn + 1, (ai : Int), cm⟩) := by
                  unfold Hid; rw [HSX.out, HBX.out]
                  rw [decide_eq_false hat, Bool.false_or]
                  rw [decide_eq_false hn1, decide_eq_false hn2, Bool.false_or, Bool.false_and]
                  simp only [if_true, if_neg hcm] <;> simp [hcm]
                clear HSX HBX HBT
                have hn4 : (X.normal == Y.normal) = false := beq_eq_false_iff_ne.2 hn2
                go_upto_region 12 with fail
                go_big_region
                clear x0 x1 x2 x3 x4 x5 x6 x7 x8 x9 y0 y1 y2 y3 y4
                go_wp2_with fail
                go_roundw
                case rel => exact ⟨k + 1, by omega, by go_num, by rw [HSN.out], by rw [HSN.out], by rw [HSN.out], below_drewN _ HB2.out⟩
                case measure => simp [intOf]; omega
      · have hgk' : R.given.getD k false = false := by simpa using hgk
        have HE : Hid (bestTo R (k + 1) = ⟨mn, bat, cm⟩) := by
          unfold Hid; rw [HST.out]; unfold bestStep; rw [if_neg hgk]
        rw [hgk'] at gk
        clear hgk hgk' HST
        go_wp2_with fail
        go_roundw
        case rel => exact ⟨k + 1, by omega, by go_num, by rw [HE.out], by rw [HE.out], by rw [HE.out], HBR.out⟩
        case measure => simp [intOf]; omega
    · have hk3 : k = 3 := by omega
      subst hk3
      have HRR : Hid (begins R = (decide (2 ≤ mn) && R.given.getD R.me.toNat false)) := by unfold Hid begins; rw [← HBT.out]
      obtain ⟨mi, hmi⟩ : ∃ mi : Nat, R.me = (mi : Int) := ⟨R.me.toNat, by have := HG3.out; omega⟩
      have emi : R.me.toNat = mi := by omega
      have hmi3 : mi < 3 := by have := HG3.out; omega
      have gm := keep_cell9 HBR.out (HGN.out mi hmi3)
      rw [emi] at HRR
      have x0 := bx.cell 0 _ rfl
      have x1 := bx.cell 1 _ rfl
      have x2 := bx.cell 2 _ rfl
      have x3 := bx.cell 3 _ rfl
      have x4 := bx.cell 4 _ rfl
      have x5 := bx.cell 5 _ rfl
      have x6 := bx.cell 6 _ rfl
      have x7 := bx.cell 7 _ rfl
      have x8 := bx.cell 8 _ rfl
      have x9 := bx.cell 9 _ rfl
      rw [hmi] at x0
      have k0 : (0 : Int) ≤ (mi : Int) := by omega
      have k1 : (mi : Int) < (R.given.length : Int) := by have := HG3.out.2.1; omega
      clear bx hlt hk
      by_cases hbg : begins R = true
      · rw [hbg] at HRR
        have hand := HRR.out
        simp only [Bool.and_eq_true, decide_eq_true_eq, eq_comm (a := true)] at hand
        obtain ⟨hm2, hgm⟩ := hand
        have hm2' : ¬ mn < 2 := by omega
        have hat : 0 ≤ bat := a5 (by omega)
        obtain ⟨ai, hai⟩ : ∃ ai : Nat, bat = (ai : Int) := ⟨bat.toNat, by omega⟩
        have hai3 : ai < 3 := by omega
        have eai : bat.toNat = ai := by omega
        obtain ⟨aq, cq, hlo, _, _, _, e3, _⟩ := HCL.out ai hai3
        have HE3 : Hid (w.cell? ⟨g, ai * 5 + 3, none⟩ = _) := e3
        clear e3
        have HBL : Hid (bestLog R = (R.gives.getD ai zeroKept).log) := by unfold Hid bestLog; rw [← HBT.out]; simp only [eai]
        have HBC : Hid ((bestTo R 3).commit = cm) := by unfold Hid; rw [← HBT.out]
        have hyz := HZ.out ai hai3
        generalize R.gives.getD ai zeroKept = Y at HBL hlo HE3 hyz
        have HLO : Hid (w.ownsRow B 9 1 (.slice aq Y.log.length cq) Y.log.length (Y.log.map enc)) := hlo
        have HLZ : Hid (TextsIn Y.log) := hyz
        have hln := hyz.1
        have c0 : (0 : Int) ≤ (ai : Int) := by omega
        have c1 : (ai : Int) < (R.gives.length : Int) := by have := HG3.out.1; omega
        have HBG : Hid (begins R = true) := hbg
        subst hai
        rw [hgm] at gm
        clear hlo hyz HRR hbg hgm hat eai hai3 a1 a2 a3 a4 a5 HBT
        go_upto_region 14 with fail
        go_big_region
        go_upto_region 16 with fail
        have hbA : Below w.heap.size w wr.drew := below_drewN 1 HBR.out
        generalize wr.drew = wA at hbA ⊢
        have HBA : Hid (Below w.heap.size w wA) := hbA
        have HRW : Hid (RowAt wA (.slice aq Y.log.length cq) Y.log.length 1 (Y.log.map enc)) := rowAt_own (own_below HLO.out hbA (own_lt HLO.out)) (by simp)
        have e3 := keep_cell9 hbA HE3.out
        have bx := HX.out.below hbA HX.out.lt
        clear x0 x1 x2 x3 x4 x5 x6 x7 x8 x9 gm k0 k1 hmi emi hmi3
        have x8 := bx.cell 8 _ rfl
        clear bx hbA
        go_wp2_with (at_builtin; refine wpList_append_row _ rfl _ _ 22 rfl wA.heap.size 9 Try.t9 _ 1 16 Try.underlying22 infoStrR zeroStrR sizeStrR bytesStrR rfl (by decide) _ 0 [] rfl (World.ownsRow_nil _ _ _ _) _ Y.log.length (Y.log.map enc) rfl HRW.out (by intro u hu; obtain ⟨x, _, rfl⟩ := List.mem_map.1 hu; rfl) (by unfold maxLen; omega) (by omega) (Nat.le_refl _) ?_)
        intro v5 wB hownB hgB hatB
        try rw [Nat.zero_add, List.nil_append] at hownB
        have hbB : Below wA.heap.size wA wB := (Below.refl _ _).grown hgB (Nat.le_refl _) (fun k e => by cases e)
        obtain ⟨a5, c5, rfl⟩ := own_formN hownB
        have HBB : Hid (Below w.heap.size w wB) := Below.far HBA.out hbB
        have HXB : Hid (Box wB b _ _) := HX.out.below HBB.out HX.out.lt
        have HOB : Hid (wB.ownsRow B _ _ _ _ _) := own_base hownB (by have := HBA.out.size; omega)
        have bx := HXB.out
        clear hownB hgB hatB hbB x8 e3 HRW
        have x0 := bx.cell 0 _ rfl
        have x1 := bx.cell 1 _ rfl
        have x2 := bx.cell 2 _ rfl
        have x3 := bx.cell 3 _ rfl
        have x4 := bx.cell 4 _ rfl
        have x5 := bx.cell 5 _ rfl
        have x6 := bx.cell 6 _ rfl
        have x7 := bx.cell 7 _ rfl
        have x8 := bx.cell 8 _ rfl
        have x9 := bx.cell 9 _ rfl
        have f0 := bx.frozen 0
        have f1 := bx.frozen 1
        have f2 := bx.frozen 2
        have f3 := bx.frozen 3
        have f4 := bx.frozen 4
        have f5 := bx.frozen 5
        have f6 := bx.frozen 6
        have f7 := bx.frozen 7
        have f8 := bx.frozen 8
        have f9 := bx.frozen 9
        clear bx c0 c1
        by_cases hcl : (Y.log.length : Int) < cm
        · have HCM : Hid ((Y.log.length : Int) = min cm Y.log.length) := by unfold Hid; omega
          clear hm2 hm2'
          go_upto_region 19 with fail
          refine wp_region_two [0, 0, 0, 0, 0, 0, 0, 0, 0, 0, 0, 0, 0, 0, 1, 1, 1] (by kernel_rfl) (by kernel_rfl) ?_
          simp only [sel, ↓reduceIte, Nat.reduceEqDiff]
          repeat (go_big_quiet_step (fail))
          refine wpQuiet_nil ?_
          intro w9 hw9
          obtain ⟨nq, rfl⟩ := hw9
          have HXN : Hid (Box (setAll (wB.drewN nq) b 1 [.int .i64 R.kept.view, .int .i64 R.kept.view, .bool true, .slice a5 Y.log.length c5, .int .i64 ((Y.log.length : Int))]) b 29 [.int .i64 R.me, .int .i64 R.kept.view, .int .i64 R.kept.view, .bool true, .slice a5 Y.log.length c5, .int .i64 ((Y.log.length : Int)), .slice ah R.hav.length ch, .slice aw R.wants.length cw, .slice (some ⟨g, 0, none⟩) R.gives.length cg, .slice (some ⟨gn, 0, none⟩) R.given.length cn]) := setAll_put _ _ _ 1 (HXB.out.drewN nq)
          have HON : Hid (World.ownsRow (setAll (wB.drewN nq) b 1 [.int .i64 R.kept.view, .int .i64 R.kept.view, .bool true, .slice a5 Y.log.length c5, .int .i64 ((Y.log.length : Int))]) B 9 1 (.slice a5 Y.log.length c5) Y.log.length (Y.log.map enc)) := setAll_own _ _ _ (own_drewN nq HOB.out) (own_type (own_drewN nq HOB.out) (HXB.out.drewN nq) (by decide))
          have HBN : Hid (Beside w.heap.size b w (setAll (wB.drewN nq) b 1 [.int .i64 R.kept.view, .int .i64 R.kept.view, .bool true, .slice a5 Y.log.length c5, .int .i64 ((Y.log.length : Int))])) := setAll_beside _ _ _ _ (Beside.of (below_drewN nq HBB.out))
          simp only [setAll, Nat.reduceAdd] at HXN HON HBN
          go_upto_region 20 with fail
          generalize hw5 : World.setCell _ ⟨b, 5, none⟩ _ = w5 at HXN HON HBN ⊢
          clear hw5 x0 x1 x2 x3 x4 x5 x6 x7 x8 x9 f0 f1 f2 f3 f4 f5 f6 f7 f8 f9 HXB HOB HBB
          go_wp2_with fail
          refine (forgotten_any b _ _ _ _ _ _ _ _ _ _ w5 HXN.out).mono ?_
          rintro e w6 ⟨bh, bw, bg, bn, rfl, hF, hx6, hb6⟩
          have hsz5 := HBN.out.size
          have hl6 : w6.ownsRow B 9 1 (.slice a5 Y.log.length c5) Y.log.length (Y.log.map enc) := own_beside HON.out hb6 fun k hk => ⟨own_lt HON.out k hk, fun e => own_type HON.out HXN.out (by decide) (by rw [← e]; exact hk)⟩
          have ho6 := four_own (hF.base (B' := B) (by omega)) R.me ⟨R.kept.view, R.kept.view, true, Y.log, (Y.log.length : Int)⟩ _ hl6 [] [] [] []
          have HB6 : Hid (Beside w.heap.size b w w6) := HBN.out.trans (hb6.mono (by omega))
          have hx6 : Box w6 b 29 [.int .i64 R.me, .int .i64 R.kept.view, .int .i64 R.kept.view, .bool true, .slice a5 Y.log.length c5, .int .i64 ((Y.log.length : Int)), row3 bh, row3 bw, row3 bg, row3 bn] := hx6
          have HFT : Hid (ReplFits (forgot ⟨R.me, ⟨R.kept.view, R.kept.view, true, Y.log, (Y.log.length : Int)⟩, [], [], [], []⟩)) := forgot_fits ⟨R.me, ⟨R.kept.view, R.kept.view, true, Y.log, (Y.log.length : Int)⟩, [], [], [], []⟩ HLZ.out
          have HA6 : Hid (ReplAt w6 (.agg #[.int .i64 R.me, .int .i64 R.kept.view, .int .i64 R.kept.view, .bool true, .slice a5 Y.log.length c5, .int .i64 ((Y.log.length : Int)), .slice (some ⟨bh, 0, none⟩) 3 3, .slice (some ⟨bw, 0, none⟩) 3 3, .slice (some ⟨bg, 0, none⟩) 3 3, .slice (some ⟨bn, 0, none⟩) 3 3]) (forgot ⟨R.me, ⟨R.kept.view, R.kept.view, true, Y.log, (Y.log.length : Int)⟩, [], [], [], []⟩)) := ho6.at HFT.out
          have HH6 : Hid (HeldAt w6 b B (forgot ⟨R.me, ⟨R.kept.view, R.kept.view, true, Y.log, (Y.log.length : Int)⟩, [], [], [], []⟩)) := ⟨_, _, _, _, _, _, hx6, ho6⟩
          have HEQ : Hid (beginR R = forgot ⟨R.me, ⟨R.kept.view, R.kept.view, true, Y.log, (Y.log.length : Int)⟩, [], [], [], []⟩ ∧ beginL R = ledBy (forgot ⟨R.me, ⟨R.kept.view, R.kept.view, true, Y.log, (Y.log.length : Int)⟩, [], [], [], []⟩)) := by
            have er : beginR R = forgot ⟨R.me, ⟨R.kept.view, R.kept.view, true, Y.log, (Y.log.length : Int)⟩, [], [], [], []⟩ := by
              unfold beginR
              rw [if_pos HBG.out, HBL.out, HBC.out, ← HCM.out]
            refine ⟨er, ?_⟩
            unfold beginL
            rw [if_pos HBG.out, er]
          simp only [row3] at hx6
          have x0 := hx6.cell 0 _ rfl
          have x1 := hx6.cell 1 _ rfl
          have x2 := hx6.cell 2 _ rfl
          have x3 := hx6.cell 3 _ rfl
          have x4 := hx6.cell 4 _ rfl
          have x5 := hx6.cell 5 _ rfl
          have x6 := hx6.cell 6 _ rfl
          have x7 := hx6.cell 7 _ rfl
          have x8 := hx6.cell 8 _ rfl
          have x9 := hx6.cell 9 _ rfl
          clear hx6 ho6 hl6 hF hb6 hsz5 HXN HON HBN
          go_wp2_with fail
          refine (ledByOf_any (forgot ⟨R.me, ⟨R.kept.view, R.kept.view, true, Y.log, (Y.log.length : Int)⟩, [], [], [], []⟩) _ w6 HA6.out HFT.out).mono ?_
          rintro e w7 ⟨v7, rfl, hm7, hb7⟩
          obtain ⟨a7, c7, rfl⟩ := hm7.form
          have HE : Hid (BegunTo b B R w (.returned (.slice a7 (ledBy (forgot ⟨R.me, ⟨R.kept.view, R.kept.view, true, Y.log, (Y.log.length : Int)⟩, [], [], [], []⟩)).length c7)) w7) := by
            refine ⟨_, rfl, ?_, ?_, HB6.out.far (Nat.le_refl _) hb7⟩
            · rw [HEQ.out.1]; exact HH6.out.below hb7
            · rw [HEQ.out.2]; exact hm7.base HB6.out.size
          clear hm7 hb7 x0 x1 x2 x3 x4 x5 x6 x7 x8 x9
          go_wp2_with fail
          go_ret
          exact HE.out
        · have HCM : Hid (cm = min cm Y.log.length) := by unfold Hid; omega
          clear hm2 hm2'
          go_upto_region 19 with fail
          refine wp_region_two [0, 0, 0, 0, 0, 0, 0, 0, 0, 0, 0, 0, 0, 0, 1, 1, 1] (by kernel_rfl) (by kernel_rfl) ?_
          simp only [sel, ↓reduceIte, Nat.reduceEqDiff]
          repeat (go_big_quiet_step (fail))
          refine wpQuiet_nil ?_
          intro w9 hw9
          obtain ⟨nq, rfl⟩ := hw9
          have HXN : Hid (Box (setAll (wB.drewN nq) b 1 [.int .i64 R.kept.view, .int .i64 R.kept.view, .bool true, .slice a5 Y.log.length c5, .int .i64 (cm)]) b 29 [.int .i64 R.me, .int .i64 R.kept.view, .int .i64 R.kept.view, .bool true, .slice a5 Y.log.length c5, .int .i64 (cm), .slice ah R.hav.length ch, .slice aw R.wants.length cw, .slice (some ⟨g, 0, none⟩) R.gives.length cg, .slice (some ⟨gn, 0, none⟩) R.given.length cn]) := setAll_put _ _ _ 1 (HXB.out.drewN nq)
          have HON : Hid (World.ownsRow (setAll (wB.drewN nq) b 1 [.int .i64 R.kept.view, .int .i64 R.kept.view, .bool true, .slice a5 Y.log.length c5, .int .i64 (cm)]) B 9 1 (.slice a5 Y.log.length c5) Y.log.length (Y.log.map enc)) := setAll_own _ _ _ (own_drewN nq HOB.out) (own_type (own_drewN nq HOB.out) (HXB.out.drewN nq) (by decide))
          have HBN : Hid (Beside w.heap.size b w (setAll (wB.drewN nq) b 1 [.int .i64 R.kept.view, .int .i64 R.kept.view, .bool true, .slice a5 Y.log.length c5, .int .i64 (cm)])) := setAll_beside _ _ _ _ (Beside.of (below_drewN nq HBB.out))
          simp only [setAll, Nat.reduceAdd] at HXN HON HBN
          go_upto_region 20 with fail
          generalize hw5 : World.setCell _ ⟨b, 5, none⟩ _ = w5 at HXN HON HBN ⊢
          clear hw5 x0 x1 x2 x3 x4 x5 x6 x7 x8 x9 f0 f1 f2 f3 f4 f5 f6 f7 f8 f9 HXB HOB HBB
          go_wp2_with fail
          refine (forgotten_any b _ _ _ _ _ _ _ _ _ _ w5 HXN.out).mono ?_
          rintro e w6 ⟨bh, bw, bg, bn, rfl, hF, hx6, hb6⟩
          have hsz5 := HBN.out.size
          have hl6 : w6.ownsRow B 9 1 (.slice a5 Y.log.length c5) Y.log.length (Y.log.map enc) := own_beside HON.out hb6 fun k hk => ⟨own_lt HON.out k hk, fun e => own_type HON.out HXN.out (by decide) (by rw [← e]; exact hk)⟩
          have ho6 := four_own (hF.base (B' := B) (by omega)) R.me ⟨R.kept.view, R.kept.view, true, Y.log, cm⟩ _ hl6 [] [] [] []
          have HB6 : Hid (Beside w.heap.size b w w6) := HBN.out.trans (hb6.mono (by omega))
          have hx6 : Box w6 b 29 [.int .i64 R.me, .int .i64 R.kept.view, .int .i64 R.kept.view, .bool true, .slice a5 Y.log.length c5, .int .i64 (cm), row3 bh, row3 bw, row3 bg, row3 bn] := hx6
          have HFT : Hid (ReplFits (forgot ⟨R.me, ⟨R.kept.view, R.kept.view, true, Y.log, cm⟩, [], [], [], []⟩)) := forgot_fits ⟨R.me, ⟨R.kept.view, R.kept.view, true, Y.log, cm⟩, [], [], [], []⟩ HLZ.out
          have HA6 : Hid (ReplAt w6 (.agg #[.int .i64 R.me, .int .i64 R.kept.view, .int .i64 R.kept.view, .bool true, .slice a5 Y.log.length c5, .int .i64 (cm), .slice (some ⟨bh, 0, none⟩) 3 3, .slice (some ⟨bw, 0, none⟩) 3 3, .slice (some ⟨bg, 0, none⟩) 3 3, .slice (some ⟨bn, 0, none⟩) 3 3]) (forgot ⟨R.me, ⟨R.kept.view, R.kept.view, true, Y.log, cm⟩, [], [], [], []⟩)) := ho6.at HFT.out
          have HH6 : Hid (HeldAt w6 b B (forgot ⟨R.me, ⟨R.kept.view, R.kept.view, true, Y.log, cm⟩, [], [], [], []⟩)) := ⟨_, _, _, _, _, _, hx6, ho6⟩
          have HEQ : Hid (beginR R = forgot ⟨R.me, ⟨R.kept.view, R.kept.view, true, Y.log, cm⟩, [], [], [], []⟩ ∧ beginL R = ledBy (forgot ⟨R.me, ⟨R.kept.view, R.kept.view, true, Y.log, cm⟩, [], [], [], []⟩)) := by
            have er : beginR R = forgot ⟨R.me, ⟨R.kept.view, R.kept.view, true, Y.log, cm⟩, [], [], [], []⟩ := by
              unfold beginR
              rw [if_pos HBG.out, HBL.out, HBC.out, ← HCM.out]
            refine ⟨er, ?_⟩
            unfold beginL
            rw [if_pos HBG.out, er]
          simp only [row3] at hx6
          have x0 := hx6.cell 0 _ rfl
          have x1 := hx6.cell 1 _ rfl
          have x2 := hx6.cell 2 _ rfl
          have x3 := hx6.cell 3 _ rfl
          have x4 := hx6.cell 4 _ rfl
          have x5 := hx6.cell 5 _ rfl
          have x6 := hx6.cell 6 _ rfl
          have x7 := hx6.cell 7 _ rfl
          have x8 := hx6.cell 8 _ rfl
          have x9 := hx6.cell 9 _ rfl
          clear hx6 ho6 hl6 hF hb6 hsz5 HXN HON HBN
          go_wp2_with fail
          refine (ledByOf_any (forgot ⟨R.me, ⟨R.kept.view, R.kept.view, true, Y.log, cm⟩, [], [], [], []⟩) _ w6 HA6.out HFT.out).mono ?_
          rintro e w7 ⟨v7, rfl, hm7, hb7⟩
          obtain ⟨a7, c7, rfl⟩ := hm7.form
          have HE : Hid (BegunTo b B R w (.returned (.slice a7 (ledBy (forgot ⟨R.me, ⟨R.kept.view, R.kept.view, true, Y.log, cm⟩, [], [], [], []⟩)).length c7)) w7) := by
            refine ⟨_, rfl, ?_, ?_, HB6.out.far (Nat.le_refl _) hb7⟩
            · rw [HEQ.out.1]; exact HH6.out.below hb7
            · rw [HEQ.out.2]; exact hm7.base HB6.out.size
          clear hm7 hb7 x0 x1 x2 x3 x4 x5 x6 x7 x8 x9
          go_wp2_with fail
          go_ret
          exact HE.out
      · have HNB : Hid (¬ begins R = true) := hbg
        have HE : Hid (∀ n, BegunTo b B R w (.returned (.slice none 0 0)) (wr.drewN n)) := fun n => by
          have hb : Below w.heap.size w (wr.drewN n) := below_drewN n HBR.out
          refine ⟨_, rfl, ?_, ?_, Beside.of hb⟩
          · unfold beginR; rw [if_neg HNB.out]; exact HT.out.below hb
          · unfold beginL; rw [if_neg HNB.out]; exact msgsNil _ _
        by_cases hm2 : mn < 2
        · clear HRR hbg gm HBT
          go_upto_region 14 with fail
          go_big_region
          go_wp2_with fail
          go_ret
          exact HE.out _
        · have hgm : R.given.getD mi false = false := by
            rw [HRR.out, decide_eq_true (by omega), Bool.true_and] at hbg
            simpa using hbg
          rw [hgm] at gm
          clear HRR hbg hgm HBT
          go_upto_region 14 with fail
          go_big_region
          go_wp2_with fail
          go_ret
          exact HE.out _

end Go.Proofs.Ytmdgkjbiicaljag
