/- The walk of the document's answer VolumeCopy: a copy in new memory. -/
import Derived.Test.YtpbiojnmegemdacVolRef
import Derived.Deep.RegionLaw
import Derived.BigRegion
namespace Go.Proofs.Ytpbiojnmegemdac
open Go.RowKit
set_option linter.unusedVariables false
set_option linter.unusedSimpArgs false
attribute [local go_sem] app_list ext_list get_list byteAt_zero

/-- What holds after k rounds of the copy's loop. -/
structure CopyInv (w : World) (N bo : Nat) (V : VolM) (vn v1 va : Value) (k : Nat) (vs : Value) (us : List Value) (wr : World) : Prop where
  below : Below N w wr
  arg : Box wr N 37 [vn, va]
  res : Box wr (N + 1) 37 [.slice none 0 0, .slice none 0 0]
  out : Box wr bo 37 [v1, vs]
  now : wr.ownsRow (N + 2) 9 1 v1 V.now.length (V.now.map enc)
  snaps : wr.ownsRow (bo + 1) 34 1 vs k us
  many : us.length = k
  each : ∀ i u, us[i]? = some u → wr.ownsRow (bo + 1) 9 1 u (V.snaps.getD i []).length ((V.snaps.getD i []).map enc) ∧ Apart vs u

theorem copy_step {w wr wA wB : World} {N bo : Nat} {V : VolM} {vn v1 va : Value} {k : Nat} {vs vs' u : Value} {us : List Value} {sk : List (List UInt8)}
    (I : CopyInv w N bo V vn v1 va k vs us wr) (hN : N + 2 ≤ bo) (h1lt : ∀ g, v1.ownBlock = some g → g < bo) (hk : V.snaps.getD k [] = sk) (hA : Below wr.heap.size wr wA)
    (hownA : wA.ownsRow wr.heap.size 9 1 u sk.length (sk.map enc)) (hgB : (wA.alloc (.cells #[u] 34)).grownBy wB vs.ownBlock)
    (hownB : wB.ownsRow (bo + 1) 34 1 vs' (k + 1) (us ++ [u])) (hat : vs'.ownBlock = vs.ownBlock ∨ vs'.ownBlock = some (wA.heap.size + 1)) :
    CopyInv w N bo V vn v1 va (k + 1) vs' (us ++ [u]) (wB.setCell ⟨bo, 1, none⟩ vs') := by
  have lo := I.out.lt
  have hAs := hA.size
  have hBs : wA.heap.size + 1 ≤ wB.heap.size := by have := hgB.size; simpa using this
  have hA1 : Below wr.heap.size wr (wA.alloc (.cells #[u] 34)) := hA.alloc hAs _
  have far : ∀ b, b < bo + 1 → vs.ownBlock ≠ some b := fun b hb e => own_far I.snaps b hb e.symm
  have hB : Below (bo + 1) wr wB := (hA1.mono (by omega)).trans ⟨hgB.os, hgB.tape, hgB.output, hgB.size, fun b hb => hgB.block b (by simp; omega) (fun e => far b hb e.symm)⟩
  have keepR : ∀ (e : TypeId) (x : Value) (m : Nat) (xs : List Value), wr.ownsRow (bo + 1) e 1 x m xs → Apart vs x → wB.ownsRow (bo + 1) e 1 x m xs := by
    intro e x m xs h ha
    refine (own_below h hA1 (own_lt h)).kept hgB ?_
    cases hx : x.ownBlock with
    | none => exact Or.inl rfl
    | some g => exact Or.inr (fun e => ha g e.symm hx)
  have setR : ∀ (e : TypeId) (x : Value) (m : Nat) (xs : List Value), wB.ownsRow (bo + 1) e 1 x m xs → (wB.setCell ⟨bo, 1, none⟩ vs').ownsRow (bo + 1) e 1 x m xs :=
    fun e x m xs h => ownsRow_setCell_below h (by simp) _
  refine ⟨((I.below.trans (hB.mono (by omega))).setCell (by simp; omega) _), ?_, ?_, ?_, ?_, setR _ _ _ _ hownB, by simp [I.many], ?_⟩
  · exact (I.arg.below hB (by omega)).other _ (by simp; omega)
  · exact (I.res.below hB (by omega)).other _ (by simp; omega)
  · exact (I.out.below hB (by omega)).set 1 vs'
  · refine own_below (own_below I.now hB (fun g hg => by have := h1lt g hg; omega)) (B := bo) ((Below.refl bo wB).setCell (by simp) _) h1lt
  · intro i x hx
    by_cases hi : i < us.length
    · rw [List.getElem?_append_left hi] at hx
      obtain ⟨h2, h3⟩ := I.each i x hx
      refine ⟨setR _ _ _ _ (keepR _ _ _ _ h2 h3), fun g hg hxg => ?_⟩
      rcases hat with e | e
      · exact h3 g (e ▸ hg) hxg
      · rw [e] at hg
        have := own_lt h2 g hxg
        cases hg
        omega
    · rw [List.getElem?_append_right (by omega)] at hx
      have hi2 : i = us.length := by
        have := (List.getElem?_eq_some_iff.1 hx).1
        simp at this
        omega
      subst hi2
      simp at hx
      subst hx
      rw [I.many, hk]
      have hu2 : (wA.alloc (.cells #[u] 34)).ownsRow wr.heap.size 9 1 u sk.length (sk.map enc) := own_below hownA (below_alloc wA _) (own_lt hownA)
      have hap : Apart vs u := fun g hg hug => by
        have h5 := own_lt I.snaps g hg
        have h6 := own_ge hownA g hug
        omega
      have hu3 : wB.ownsRow wr.heap.size 9 1 u sk.length (sk.map enc) := by
        refine hu2.kept hgB ?_
        cases hx : u.ownBlock with
        | none => exact Or.inl rfl
        | some g => exact Or.inr (fun e => hap g e.symm hx)
      refine ⟨setR _ _ _ _ (own_base hu3 (by omega)), fun g hg hug => ?_⟩
      rcases hat with e | e
      · exact hap g (e ▸ hg) hug
      · rw [e] at hg
        have := own_lt hownA g hug
        cases hg
        omega

theorem copy_done {w wr : World} {N bo : Nat} {V : VolM} {vn v1 va vs : Value} {us : List Value} (I : CopyInv w N bo V vn v1 va V.snaps.length vs us wr) (hN : N + 2 ≤ bo) (h1lt : ∀ g, v1.ownBlock = some g → g < bo) :
    VolNew ((wr.setCell ⟨N + 1, 0, none⟩ v1).setCell ⟨N + 1, 1, none⟩ vs) N (.agg #[v1, vs]) V ∧ Below N w ((wr.setCell ⟨N + 1, 0, none⟩ v1).setCell ⟨N + 1, 1, none⟩ vs) := by
  have setR : ∀ (B : Nat) (e : TypeId) (x : Value) (m : Nat) (xs : List Value), N + 1 < B → wr.ownsRow B e 1 x m xs → ((wr.setCell ⟨N + 1, 0, none⟩ v1).setCell ⟨N + 1, 1, none⟩ vs).ownsRow N e 1 x m xs :=
    fun B e x m xs hB h => own_base (ownsRow_setCell_below (ownsRow_setCell_below h (by simpa using hB) _) (by simpa using hB) _) (by omega)
  have apN : ∀ x, (∀ (B : Nat) (e : TypeId) (m : Nat) (xs : List Value), wr.ownsRow (bo + 1) e 1 x m xs → Apart v1 x) := fun x B e m xs h g hg hx => by
    have := h1lt g hg
    have := own_ge h g hx
    omega
  refine ⟨⟨v1, vs, us, rfl, setR _ _ _ _ _ (by omega) I.now, setR _ _ _ _ _ (by omega) I.snaps, ⟨I.many, fun i u hu => ?_⟩, ⟨I.many, fun i u hu => ?_⟩, ?_⟩, ?_⟩
  · obtain ⟨h2, h3⟩ := I.each i u hu
    exact ⟨setR _ _ _ _ _ (by omega) h2, apN u 0 _ _ _ h2⟩
  · obtain ⟨h2, h3⟩ := I.each i u hu
    exact ⟨setR _ _ _ _ _ (by omega) h2, h3⟩
  · exact apN vs 0 _ _ _ I.snaps
  · exact (I.below.setCell (by simp) _).setCell (by simp) _

set_option maxHeartbeats 2000000 in
theorem volumeCopy_any (V : VolM) (v : Value) (w : World) (h : VolAt w v V) (hz : VolFits V) :
    Calls Try.prog 20 #[v] w fun e w' => ∃ v', e = .returned v' ∧ VolNew w' w.heap.size v' V ∧ Below w.heap.size w w' := by
  obtain ⟨vn, vs, rfl, hn, hs⟩ := h
  obtain ⟨a, c, rfl, hla, hca⟩ := hs
  have Hrow : Hid (∀ o1 o2, RowAt ((w.alloc o1).alloc o2) vn V.now.length 1 (V.now.map enc)) := fun o1 o2 => (hn.below (below_alloc2 w o1 o2)).row
  go_enter Try.func20, Try.ntmps20
  go_wp2_with (at_builtin; refine wpList_copy_row _ rfl _ _ 34 rfl 9 Try.t9 _ 1 16 Try.underlying34 infoStr zeroStr sizeStr bytesStr rfl (by decide) (by decide) rfl _ V.now.length (V.now.map enc) rfl (Hrow.out _ _) (enc_one _) hz.now ?_)
  intro v1 w1 hown1 hb1
  have hB1 : Box w1 w.heap.size 37 [vn, .slice a V.snaps.length c] := ((Box.new w 37 [vn, .slice a V.snaps.length c]).alloc _).below hb1 (by omega)
  have hB2 : Box w1 (w.heap.size + 1) 37 [.slice none 0 0, .slice none 0 0] := by
    have := Box.new (w.alloc (.cells #[vn, .slice a V.snaps.length c] 37)) 37 [.slice none 0 0, .slice none 0 0]
    simp at this
    exact this.below hb1 (by simp)
  obtain ⟨a1, c1, rfl⟩ := own_form hown1
  have hc0 := hB1.cell 0 _ rfl
  have hc1 := hB1.cell 1 _ rfl
  have hsz : w.heap.size + 2 ≤ w1.heap.size := by have := hb1.size; simp at this; omega
  have hbw : Below w.heap.size w w1 := (below_alloc2 w _ _).trans (hb1.mono (by omega))
  have hlt1 : ∀ k, (Value.slice a1 V.now.length c1).ownBlock = some k → k < w1.heap.size := own_lt hown1
  have HI : Hid (CopyInv w w.heap.size w1.heap.size V vn (.slice a1 V.now.length c1) (.slice a V.snaps.length c) 0 (.slice none 0 0) [] (w1.alloc (.cells #[.slice a1 V.now.length c1, .slice none 0 0] 37))) :=
    ⟨hbw.alloc (by omega) _, hB1.alloc _, hB2.alloc _, Box.new w1 _ _, own_below hown1 (below_alloc w1 _) hlt1, World.ownsRow_nil _ _ _ _, rfl, fun i u h => by simp at h⟩
  go_wp2_with fail
  clear hB1 hB2 hc0 hc1 hown1 hb1 Hrow
  go_loopw [4] (fun i wr => ∃ (k : Nat) (vs : Value) (us : List Value), k ≤ V.snaps.length ∧ i = .int .i64 k ∧ CopyInv w w.heap.size w1.heap.size V vn (.slice a1 V.now.length c1) (.slice a V.snaps.length c) k vs us wr) (fun i wr => V.snaps.length - (intOf i).toNat)
  case atStart => exact ⟨0, _, _, by omega, rfl, HI.out⟩
  case round =>
    clear HI
    obtain ⟨k, vs, us, hk, rfl, I⟩ := hrel
    have hc1 := I.arg.cell 1 _ rfl
    by_cases hlt : k < V.snaps.length
    · obtain ⟨sk, HSK⟩ : ∃ sk, Hid (V.snaps.getD k [] = sk) := ⟨_, rfl⟩
      have hmem : sk ∈ V.snaps := by
        rw [← HSK.out, show V.snaps.getD k [] = V.snaps[k] by simp [List.getD, hlt]]; exact List.getElem_mem hlt
      obtain ⟨b, o, u, rfl, h1, h2⟩ := hca k hlt
      rw [HSK.out] at h2
      obtain ⟨a2, c2, rfl⟩ := own_form I.snaps
      have hb := lt_of_cell h1
      have h2r := h2.below I.below
      obtain ⟨a3, c3, rfl, hl3, hcells3⟩ := id h2r
      have h1r : wr.cell? ⟨b, o + k, none⟩ = some (.slice a3 sk.length c3) := (I.below.cell (p := ⟨b, o + k, none⟩) hb).trans h1
      have ho1 := I.out.cell 1 _ rfl
      have lo := I.out.lt
      have k0 : (0 : Int) ≤ (k : Int) := by omega
      have k1 : (k : Int) < (V.snaps.length : Int) := by omega
      have HR : Hid (RowAt wr (.slice a3 sk.length c3) sk.length 1 (sk.map enc)) := h2r.row
      have HZ : Hid (sk.length * 16 ≤ 140737488355328) := hz.each _ hmem
      have HII : Hid (CopyInv w w.heap.size w1.heap.size V vn (.slice a1 V.now.length c1) (.slice (some ⟨b, o, none⟩) V.snaps.length c) k (.slice a2 k c2) us wr) := I
      clear hcells3 h2r h2 hca I hmem h1
      go_wp2_with fail
      go_region_law
        ((first
          | (refine step_copy_row _ (by rfl) (.const (.slice none 0 0)) _ 34 (by rfl) 9 Try.t9 _ 1 16 Try.underlying34 infoStr zeroStr sizeStr bytesStr rfl (by decide) (by decide) (by rfl) _ sk.length (sk.map enc) (by rfl) HR.out (enc_one _) HZ.out ?_
             intro u' wA hownA hbA
             obtain ⟨a4, c4, hu4⟩ := own_form hownA
             subst hu4
             have q1 := (hbA.cell (p := ⟨w.heap.size, 1, none⟩) (by simp; omega)).trans hc1
             have q2 := (hbA.cell (p := ⟨w1.heap.size, 1, none⟩) lo).trans ho1
             have q3 := (hbA.cell (p := ⟨b, o + k, none⟩) (by simp; omega)).trans h1r
             have q4 : wr.heap.size ≤ wA.heap.size := hbA.size
             have q5 : w.heap.size < wA.heap.size := by omega
             have q6 : w1.heap.size < wA.heap.size := by omega
             have q7 : b < wA.heap.size := by omega
             have hbA2 : Below wr.heap.size wr wA := ((Below.refl _ _).drew).trans hbA)
          | (refine step_append_row _ (by rfl) _ _ 35 (by rfl) (w1.heap.size + 1) 34 Try.t34 _ 1 24 Try.underlying35 infoStrs zeroStrs sizeStrs bytesStrs rfl (by decide) _ k us (by rfl) (own_below HII.out.snaps (hbA2.alloc (by omega) _) (own_lt HII.out.snaps)) _ 1 [.slice a4 sk.length c4] (by rfl) (RowAt.one _ _ _) (by simp [Value.oneCell']) (by unfold maxLen; have := hz.snaps; omega) (by have := hz.snaps; omega) (by simp; omega) ?_
             intro u3 wB hownB hgB hatB
             obtain ⟨a5, c5, hu5⟩ := own_form hownB
             subst hu5
             have BO : Box wB w1.heap.size _ _ := ((HII.out.out.below hbA2 lo).alloc _).grown hgB (fun e => own_far HII.out.snaps _ (by omega) e.symm)
             have BA : Box wB w.heap.size _ _ := ((HII.out.arg.below hbA2 (by omega)).alloc _).grown hgB (fun e => own_far HII.out.snaps _ (by omega) e.symm)
             have p1 := BA.cell 1 _ rfl
             have p2 := BO.cell 1 _ rfl
             have p5 := BO.frozen 1
             have p3 := (hgB.cell_far ⟨b, o + k, none⟩ (by simp; omega) (own_far HII.out.snaps b (by omega))).trans ((cell?_alloc_below _ _ _ q7).trans q3)
             have p6 : ¬ w1.heap.size = w.heap.size := by omega
             have p7 : ¬ w1.heap.size = b := by omega
             have p4 : wA.heap.size + 1 ≤ wB.heap.size := by have := hgB.size; simpa using this)))
      all_goals
        have HC : Hid (CopyInv _ _ _ _ _ _ _ _ _ _ _) := copy_step HII.out hsz hlt1 HSK.out hbA2 hownA hgB hownB (by simpa using hatB)
        clear hownA hownB HR HZ hgB BO BA hbA hbA2
        go_wp2_with fail
        go_roundw
        case rel => exact ⟨k + 1, _, _, by omega, by go_num, HC.out⟩
        case measure => simp [intOf]; omega
    · obtain rfl : k = V.snaps.length := by omega
      obtain ⟨a2, c2, rfl⟩ := own_form I.snaps
      have ho0 := I.out.cell 0 _ rfl
      have ho1 := I.out.cell 1 _ rfl
      have hr0 := I.res.cell 0 _ rfl
      have hr1 := I.res.cell 1 _ rfl
      have hf0 := I.res.frozen 0
      have hf1 := I.res.frozen 1
      have HC : Hid (VolNew _ _ _ _ ∧ Below _ _ _) := copy_done I hsz hlt1
      clear I hca
      go_wp2_with fail
      exact bodyPost_ret (v := .agg #[.slice a1 V.now.length c1, .slice a2 V.snaps.length c2]) (by simp [results, Try.results20, go_sem, hr0, hr1]) rfl ⟨_, rfl, HC.out.1, HC.out.2⟩
end Go.Proofs.Ytpbiojnmegemdac
