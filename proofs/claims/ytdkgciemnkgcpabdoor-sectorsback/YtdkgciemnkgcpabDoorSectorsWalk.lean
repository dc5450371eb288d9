/- The walk of the law SectorsBack. -/
import Derived.Test.YtdkgciemnkgcpabDoorVolDevD
import Derived.BigQuiet
import Derived.Deep.QuietTactic
namespace Go.Proofs.YtdkgciemnkgcpabDoor
open Go.RowKit
set_option linter.unusedVariables false
set_option linter.unusedSimpArgs false
attribute [local go_sem] app_list ext_list get_list byteAt_zero

theorem makeStrs6 (w : World) : (Instr.makeSlice 23 (.int .i64 6) (.int .i64 6)).run Tryd.prog w = .ok (.slice (some ⟨w.heap.size, 0, none⟩) 6 6) (w.alloc (.cells #[.string ⟨#[]⟩, .string ⟨#[]⟩, .string ⟨#[]⟩, .string ⟨#[]⟩, .string ⟨#[]⟩, .string ⟨#[]⟩] 9)) := by kernel_rfl

/-- What holds in the loop: the volume V, what the law itself keeps (L the sectors, S the snapshots). -/
structure SecInv (w : World) (N bv gn : Nat) (V : VolM) (L : List (List UInt8)) (S : List (List (List UInt8))) (vn vs sn : Value) (us : List Value) (wr : World) : Prop where
  below : Below N w wr
  may : volFault V = 0
  box : Box wr bv 26 [vn, vs]
  vol : VolOff (fun g => g ≠ gn ∧ g ≠ bv ∧ sn.ownBlock ≠ some g) wr (.agg #[vn, vs]) V
  now : wr.ownsRow gn 9 1 (.slice (some ⟨gn, 0, none⟩) 6 6) 6 (L.map enc)
  snaps : wr.ownsRow (gn + 1) 23 1 sn S.length us
  each : OwnEach wr (gn + 1) sn us S

theorem SecInv.grow {w : World} {N bv gn : Nat} {V : VolM} {L : List (List UInt8)} {S : List (List (List UInt8))} {vn vs sn : Value} {us : List Value} {wr w' : World} (I : SecInv w N bv gn V L S vn vs sn us wr) (hb : Below wr.heap.size wr w') (hN : N ≤ wr.heap.size) :
    SecInv w N bv gn V L S vn vs sn us w' :=
  ⟨I.below.trans (hb.mono hN), I.may, I.box.below hb I.box.lt, I.vol.below hb, own_below I.now hb (own_lt I.now), own_below I.snaps hb (own_lt I.snaps), I.each.map fun _ _ _ _ r => own_below r hb (own_lt r)⟩

/-- The volume is another one, in new memory. -/
theorem SecInv.turn {w : World} {N bv gn B : Nat} {V V' : VolM} {L : List (List UInt8)} {S : List (List (List UInt8))} {vn vs vn' vs' sn : Value} {us : List Value} {wr : World} (I : SecInv w N bv gn V L S vn vs sn us wr)
    (hN : N ≤ bv) (hbg : bv < gn) (hB : gn < B) (hsn : ∀ g, sn.ownBlock = some g → g < B) (hV : VolNew wr B (.agg #[vn', vs']) V') (hm : volFault V' = 0) :
    SecInv w N bv gn V' L S vn' vs' sn us ((wr.setCell ⟨bv, 0, none⟩ vn').setCell ⟨bv, 1, none⟩ vs') := by
  have hk : ∀ g, g ≠ bv → ((wr.setCell ⟨bv, 0, none⟩ vn').setCell ⟨bv, 1, none⟩ vs').heap[g]? = wr.heap[g]? := fun g hg => by
    rw [Below.heap_setCell _ _ _ _ hg, Below.heap_setCell _ _ _ _ hg]
  refine ⟨(I.below.setCell hN _).setCell hN _, hm, ?_, ?_, ?_, ?_, ?_⟩
  · exact (I.box.set 0 vn').set 1 vs'
  · refine ((hV.off (fun g => B ≤ g) (fun g h _ => h)).stays fun g hg _ => hk g (by omega)).mono fun g hg _ => ⟨by omega, by omega, fun e => by have := hsn g e; omega⟩
  · exact own_other (own_other I.now (fun e => by cases e; omega) _) (fun e => by cases e; omega) _
  · exact ownsRow_setCell_below (ownsRow_setCell_below I.snaps (by simp; omega) _) (by simp; omega) _
  · exact I.each.map fun _ _ _ _ r => ownsRow_setCell_below (ownsRow_setCell_below r (by simp; omega) _) (by simp; omega) _

theorem SecInv.cast {w : World} {N bv gn : Nat} {V : VolM} {L L' : List (List UInt8)} {S S' : List (List (List UInt8))} {vn vs sn : Value} {us : List Value} {wr : World} (I : SecInv w N bv gn V L S vn vs sn us wr) (h1 : L = L') (h2 : S = S') :
    SecInv w N bv gn V L' S' vn vs sn us wr := by
  subst h1
  subst h2
  exact I

/-- A sector of the law's own list is written. -/
theorem SecInv.write {w : World} {N bv gn : Nat} {V : VolM} {L : List (List UInt8)} {S : List (List (List UInt8))} {vn vs sn : Value} {us : List Value} {wr : World} (I : SecInv w N bv gn V L S vn vs sn us wr)
    (hN : N ≤ bv) (hbg : bv < gn) (q : Nat) (s : List UInt8) : SecInv w N bv gn V (L.set q s) S vn vs sn us (wr.setCell ⟨gn, q, none⟩ (.string ⟨s.toArray⟩)) := by
  refine ⟨I.below.setCell (by simp; omega) _, I.may, I.box.other _ (by simp; omega), I.vol.stays (fun g hg _ => Below.heap_setCell _ _ _ _ hg.1), ?_, ?_, ?_⟩
  · have := own_set I.now q (.string ⟨s.toArray⟩)
    rw [List.map_set]
    exact this
  · exact ownsRow_setCell_below I.snaps (by simp) _
  · exact I.each.map fun _ _ _ _ r => ownsRow_setCell_below r (by simp) _

/-- A snapshot more in the law's own list. -/
theorem SecInv.snap {w : World} {N bv gn : Nat} {V : VolM} {L : List (List UInt8)} {S : List (List (List UInt8))} {vn vs sn sn' u : Value} {us : List Value} {wr wA wB : World} {O : Obj} (I : SecInv w N bv gn V L S vn vs sn us wr)
    (hN : N ≤ wr.heap.size) (hNb : N ≤ gn) (hgw : gn < wr.heap.size) (hbg : bv < gn) (hA : Below wr.heap.size wr wA) (hu : wA.ownsRow wr.heap.size 9 1 u L.length (L.map enc))
    (hgB : (wA.alloc O).grownBy wB sn.ownBlock) (hB : wB.ownsRow (gn + 1) 23 1 sn' (S.length + 1) (us ++ [u])) (hat : sn'.ownBlock = sn.ownBlock ∨ sn'.ownBlock = some (wA.heap.size + 1)) :
    SecInv w N bv gn V L (S ++ [L]) vn vs sn' (us ++ [u]) wB := by
  have hA1 : Below wr.heap.size wr (wA.alloc O) := hA.alloc hA.size _
  have hk : ∀ g, g < wr.heap.size → sn.ownBlock ≠ some g → wB.heap[g]? = wr.heap[g]? := fun g hg hs => (hgB.block g (by simp; have := hA.size; omega) (fun e => hs e.symm)).trans (hA1.block g hg)
  have keepR : ∀ (e : TypeId) (x : Value) (m : Nat) (xs : List Value) (B : Nat), wr.ownsRow B e 1 x m xs → Apart sn x → wB.ownsRow B e 1 x m xs := by
    intro e x m xs B h ha
    have hlt := own_lt h
    refine ⟨h.1, ?_⟩
    rcases h.2 with h4 | ⟨g, cap, cur, rfl, h5, hg, r⟩
    · exact Or.inl h4
    · exact Or.inr ⟨g, cap, cur, rfl, h5, by rw [hk g (hlt g rfl) (fun e => ha g e rfl)]; exact hg, r⟩
  have far : ∀ g, g < gn + 1 → sn.ownBlock ≠ some g := fun g hg e => own_far I.snaps g hg e.symm
  have hgu := own_ge hu
  have hlu := own_lt hu
  have hapu : Apart sn u := fun g hg hug => by
    have := own_lt I.snaps g hg
    have := hgu g hug
    omega
  refine ⟨I.below.trans ⟨hgB.os.trans hA1.os, hgB.tape.trans hA1.tape, hgB.output.trans hA1.output, Nat.le_trans hA1.size hgB.size, fun g hg => hk g (by omega) (far g (by omega))⟩, I.may, ?_, ?_, ?_, by simpa using hB, ⟨by simp [I.each.1], ?_⟩⟩
  · unfold Box
    rw [hk bv (by omega) (far bv (by omega))]
    exact I.box
  · have I2 : VolOff (fun g => g < wr.heap.size ∧ g ≠ gn ∧ g ≠ bv ∧ sn.ownBlock ≠ some g) wr (.agg #[vn, vs]) V := I.vol.mono fun g hg hl => ⟨hl, hg⟩
    refine (I2.stays fun g hg hl => hk g hl hg.2.2.2).mono fun g hg hl => ⟨hg.2.1, hg.2.2.1, fun e => ?_⟩
    rcases hat with h | h
    · exact hg.2.2.2 (h ▸ e)
    · rw [h] at e
      have e2 : wA.heap.size + 1 = g := by simpa using e
      have := hA.size
      omega
  · refine keepR _ _ _ _ _ I.now (fun g hg hx => ?_)
    have e2 : gn = g := by simpa [Value.ownBlock] using hx
    exact far g (by omega) hg
  · intro i x hx
    by_cases hi : i < us.length
    · rw [List.getElem?_append_left hi] at hx
      have hi2 : i < S.length := by rw [← I.each.1]; exact hi
      rw [show (S ++ [L]).getD i [] = S.getD i [] by simp [List.getD, List.getElem?_append_left hi2]]
      obtain ⟨h2, h3⟩ := I.each.2 i x hx
      refine ⟨keepR _ _ _ _ _ h2 h3, fun g hg hxg => ?_⟩
      rcases hat with e | e
      · exact h3 g (e ▸ hg) hxg
      · have := own_lt h2 g hxg
        have := hA.size
        rw [e] at hg
        cases hg
        omega
    · rw [List.getElem?_append_right (by omega)] at hx
      have hi2 : i = us.length := by
        have := (List.getElem?_eq_some_iff.1 hx).1
        simp at this
        omega
      subst hi2
      simp at hx
      subst hx
      rw [show (S ++ [L]).getD us.length [] = L by rw [I.each.1]; simp [List.getD]]
      refine ⟨?_, fun g hg hug => ?_⟩
      · refine own_base ((own_below hu (below_alloc wA O) hlu).kept hgB ?_) (by omega)
        cases hx : u.ownBlock with
        | none => exact Or.inl rfl
        | some g => exact Or.inr (fun e => hapu g e.symm hx)
      · rcases hat with e | e
        · exact hapu g (e ▸ hg) hug
        · have := hlu g hug
          rw [e] at hg
          cases hg
          omega

theorem map_enc_get (X : List (List UInt8)) (q : Nat) (h : q < X.length) : (X.map enc)[q]? = some (.string ⟨(X.getD q []).toArray⟩) := by simp [List.getD, h, enc]

set_option maxRecDepth 4000 in
set_option maxHeartbeats 8000000 in
theorem sectorsBack_walk (w : World) (l : List RawM) {v : Value} (h : Raws w v l) (ht : Tab w) :
    Calls Tryd.prog 3 #[v] w fun e w' => e = .returned (.bool true) ∧ Below w.heap.size w w' := by
  obtain ⟨a, c, rfl, hl, hc⟩ := h
  have k6 := makeStrs6
  go_enter Tryd.func3, Tryd.ntmps3
  go_wp2_with fail
  refine (volNew_any _).mono ?_
  rintro e w1 ⟨v1, rfl, hn1, hb1⟩
  obtain ⟨a1, c1, a2, c2, rfl⟩ := hn1.form
  have hs1 := hb1.size
  have I0 : SecInv w w.heap.size w1.heap.size (w1.heap.size + 1) newVol newVol.now newVol.snaps (.slice a1 newVol.now.length c1) (.slice a2 newVol.snaps.length c2) (.slice none 0 0) [] ((w1.alloc (.cells #[.slice a1 newVol.now.length c1, .slice a2 newVol.snaps.length c2] 26)).alloc (.cells #[.string ⟨#[]⟩, .string ⟨#[]⟩, .string ⟨#[]⟩, .string ⟨#[]⟩, .string ⟨#[]⟩, .string ⟨#[]⟩] 9)) := by
    have ab := below_alloc2 w1 (.cells #[.slice a1 newVol.now.length c1, .slice a2 newVol.snaps.length c2] 26) (.cells #[.string ⟨#[]⟩, .string ⟨#[]⟩, .string ⟨#[]⟩, .string ⟨#[]⟩, .string ⟨#[]⟩, .string ⟨#[]⟩] 9)
    refine ⟨hb1.trans (ab.mono hs1), newVol_may, (Box.new w1 _ _).alloc _, ?_, ?_, World.ownsRow_nil _ _ _ _, ⟨rfl, fun i u hu => by simp at hu⟩⟩
    · exact ((hn1.off (fun g => g < w1.heap.size) (fun g _ h => h)).below ab).mono (fun g hg _ => ⟨by omega, by omega, by simp [Value.ownBlock]⟩)
    · have := Box.new (w1.alloc (.cells #[.slice a1 newVol.now.length c1, .slice a2 newVol.snaps.length c2] 26)) 9 [.string ⟨#[]⟩, .string ⟨#[]⟩, .string ⟨#[]⟩, .string ⟨#[]⟩, .string ⟨#[]⟩, .string ⟨#[]⟩]
      simp at this
      exact own_box this (Nat.le_refl _) 6 1 rfl (by decide)
  have HI : Hid (SecInv _ _ _ _ _ _ _ _ _ _ _ _) := I0
  clear I0 hn1
  go_wp2_with fail
  go_loopw [5, 6] (fun sn i wr => ∃ (k : Nat) (V : VolM) (vn vs : Value) (us : List Value), k ≤ l.length ∧ i = .int .i64 k ∧ SecInv w w.heap.size w1.heap.size (w1.heap.size + 1) V V.now V.snaps vn vs sn us wr) (fun sn i wr => l.length - (intOf i).toNat)
  case atStart => exact ⟨0, _, _, _, _, by omega, rfl, HI.out⟩
  case round =>
    clear HI k6
    obtain ⟨k, V, vn, vs, us, hk, rfl, I⟩ := hrel
    obtain ⟨sa, sc, rfl⟩ := own_form I.snaps
    obtain ⟨a3, c3, a4, c4, hvv⟩ := I.vol.form
    cases hvv
    by_cases hend : k < l.length ∧ k < 40
    · obtain ⟨b, o, rfl, hr, c0, c1, c2, c3⟩ := hc k hend.1
      have ht1 := ht.below I.below
      have hlt := lt_of_cell c0
      have hs := I.below.size
      have x0 := (I.below.cell (p := ⟨b, _, none⟩) hlt).trans c0
      have x1 := (I.below.cell (p := ⟨b, _, none⟩) hlt).trans c1
      have x2 := (I.below.cell (p := ⟨b, _, none⟩) hlt).trans c2
      have x3 := (I.below.cell (p := ⟨b, _, none⟩) hlt).trans c3
      obtain ⟨r, HR⟩ : ∃ r, Hid (l.getD k ⟨0, 0, 0, 0⟩ = r) := ⟨_, rfl⟩
      rw [HR.out] at x0 x1 x2 x3 hr
      have hk1 := hend.1
      have hk2 := hend.2
      clear c0 c1 c2 c3 hc hend
      have HI : Hid (SecInv _ _ _ _ _ _ _ _ _ _ _ _) := I
      clear I
      go_wp2_with fail
      refine (keepOp_any r _ hr ht1).mono ?_
      rintro e w2 ⟨rfl, hb2⟩
      have hof := opOf_ok r
      have hom := opMay_of _ hof
      obtain ⟨op, HO⟩ : ∃ op, Hid (opOf r = op) := ⟨_, rfl⟩
      rw [HO.out]
      rw [HO.out] at hof hom
      have l1 : w1.heap.size + 1 < wr.heap.size := own_lt HI.out.now _ rfl
      have I2 := HI.out.grow (hb2.alloc hb2.size (.cells #[.int .i64 op.kind, .int .i64 op.place, .int .i64 op.snap, .string ⟨op.data.toArray⟩] 29)) hs
      have B2 := Box.new w2 29 [.int .i64 op.kind, .int .i64 op.place, .int .i64 op.snap, .string ⟨op.data.toArray⟩]
      have y0 := I2.box.cell 0 _ rfl
      have y1 := I2.box.cell 1 _ rfl
      have hv2 := I2.vol.at I2.may
      have HI2 : Hid (SecInv _ _ _ _ _ _ _ _ _ _ _ _) := I2
      have HB2 : Hid (Box _ _ _ _) := B2
      clear I2 B2 HI x0 x1 x2 x3
      go_wp2_with fail
      refine (volDo_any V op _ _ hv2 (by omega)).mono ?_
      rintro e w3 ⟨v3, rfl, hn3, hb3⟩
      have hE : doE V op = 0 := by unfold doE; rw [if_pos HI2.out.may]; exact hof
      have hV : doV V op = didV V op := by unfold doV; rw [if_pos hE]
      have hR : doR V op = didR V op := by unfold doR; rw [if_pos hE]
      rw [hV] at hn3
      rw [hE, hR]
      have hm3 := didV_may V op HI2.out.may hof
      obtain ⟨V', HV⟩ : ∃ V', Hid (didV V op = V') := ⟨_, rfl⟩
      obtain ⟨ρ, HRR⟩ : ∃ ρ, Hid (didR V op = ρ) := ⟨_, rfl⟩
      rw [HV.out] at hn3 hm3
      rw [HRR.out]
      obtain ⟨a5, c5, a6, c6, rfl⟩ := hn3.form
      unfold repVal
      have l2 : w2.heap.size < w3.heap.size := by have := hb3.size; simp at this; omega
      have hb4 := below_alloc2 w3 (.cells #[.slice a5 V'.now.length c5, .slice a6 V'.snaps.length c6] 26) (.cells #[.int .i64 ρ.code, .int .i64 ρ.n, .string ⟨ρ.data.toArray⟩] 35)
      have X4 := (Box.new w3 26 [.slice a5 V'.now.length c5, .slice a6 V'.snaps.length c6]).alloc (.cells #[.int .i64 ρ.code, .int .i64 ρ.n, .string ⟨ρ.data.toArray⟩] 35)
      have R4 := Box.new (w3.alloc (.cells #[.slice a5 V'.now.length c5, .slice a6 V'.snaps.length c6] 26)) 35 [.int .i64 ρ.code, .int .i64 ρ.n, .string ⟨ρ.data.toArray⟩]
      have n4 := hn3.below hb4
      have v4 := (n4.off (fun _ => True) (fun _ _ _ => trivial)).at hm3
      have x0 := X4.cell 0 _ rfl
      have x1 := X4.cell 1 _ rfl
      have HN4 : Hid (VolNew _ _ _ _) := n4
      have HX4 : Hid (Box _ _ _ _) := X4
      have HR4 : Hid (Box _ _ _ _) := R4
      have HB4 : Hid (Below _ _ _) := Below.seq hb3 hb4
      clear n4 X4 R4 hb4 hb3 hn3
      go_wp2_with fail
      refine (volCheck_any V' _ _ v4).mono ?_
      rintro e w5 ⟨rfl, hb5⟩
      rw [hm3]
      have s2 := hb2.size
      have s4 := HB4.out.size
      have s5 := hb5.size
      simp at s4 s5
      have O5 : Box w5 w2.heap.size 29 [.int .i64 op.kind, .int .i64 op.place, .int .i64 op.snap, .string ⟨op.data.toArray⟩] := (HB2.out.below HB4.out HB2.out.lt).below hb5 (by simp; omega)
      have R5 := HR4.out.below hb5 HR4.out.lt
      have X5 := HX4.out.below hb5 HX4.out.lt
      have N5 := HN4.out.below hb5
      have I5 := (HI2.out.grow (Below.seq HB4.out hb5) (by simp; omega)).turn (by omega) (by omega) (B := w2.heap.size + 1) (by omega) (fun g hg => by have := own_lt HI2.out.snaps g hg; simp at this; omega) (by have := HN4.out.below hb5; simp at this; exact this) hm3
      have l5 := I5.box.lt
      have z0 := (HI2.out.grow (Below.seq HB4.out hb5) (by simp; omega)).box
      have z1 := z0.frozen 0
      have z2 := z0.frozen 1
      have z3 := z0.cell 0 _ rfl
      have z4 := z0.cell 1 _ rfl
      have u0 := X5.cell 0 _ rfl
      have u1 := X5.cell 1 _ rfl
      have HI5 : Hid (SecInv _ _ _ _ _ _ _ _ _ _ _ _) := I5
      simp at R5
      have o0 := O5.cell 0 _ rfl
      have o1 := O5.cell 1 _ rfl
      have o2 := O5.cell 2 _ rfl
      have o3 := O5.cell 3 _ rfl
      have r0 := R5.cell 0 _ rfl
      have r1 := R5.cell 1 _ rfl
      have r2 := R5.cell 2 _ rfl
      have l6 : w1.heap.size < w2.heap.size := by omega
      have l7 : w1.heap.size < w3.heap.size + 1 := by omega
      have l8 : w1.heap.size < w5.heap.size := by omega
      clear I5 O5 R5 X5 N5 z0 hE hV hR y0 hv2 v4 x0 x1 hb2 hb1 l5 y1
      have hlen := volMay_len (volMay_of _ HI2.out.may)
      obtain ⟨q, hq⟩ := Int.eq_ofNat_of_zero_le hom.2.1.1
      have hq6 : q < 6 := by omega
      obtain ⟨g9, cap9, hv9, _, _, hc9a, hf9⟩ := own_cell (HI2.out.grow (Below.seq HB4.out hb5) (by simp; omega)).now q hq6
      cases hv9
      obtain ⟨sec, HSEC⟩ : ∃ sec, Hid (V.now.getD q [] = sec) := ⟨_, rfl⟩
      have hc9 : w5.cell? ⟨w1.heap.size + 1, q, none⟩ = some (.string ⟨sec.toArray⟩) := by
        rw [hc9a, ← HSEC.out]
        exact map_enc_get _ q (by omega)
      clear hc9a
      have HLEN : Hid (_ ∧ _) := hlen
      clear hlen
      have HIG := HI2.out.grow (Below.seq HB4.out hb5) (by simp; omega)
      have HG : Hid (SecInv _ _ _ _ _ _ _ _ _ _ _ _) := HIG
      have HSN : Hid (∀ g, (Value.slice sa V.snaps.length sc).ownBlock = some g → g < w2.heap.size + 1) := fun g hg => by have := own_lt HI2.out.snaps g hg; simpa using this
      have HRB : Hid (Box w5 (w3.heap.size + 1) 35 [.int .i64 ρ.code, .int .i64 ρ.n, .string ⟨ρ.data.toArray⟩]) := by have := HR4.out.below hb5 HR4.out.lt; simp at this; exact this
      clear hb5 HIG HB4 HN4 HX4 HR4 HI2 HB2
      rw [hq] at o1
      have hkind : op.kind = 1 ∨ op.kind = 2 ∨ op.kind = 3 ∨ op.kind = 4 := by omega
      rcases hkind with hkd | hkd | hkd | hkd
      · rw [hkd] at o0
        have hVV : V'.now = V.now.set q op.data ∧ V'.snaps = V.snaps := by
          rw [← HV.out]; unfold didV; rw [if_pos hkd, hq]; exact ⟨rfl, rfl⟩
        have HVV : Hid (_ ∧ _) := hVV
        clear hVV
        go_wp2_with fail
        go_roundw
        case rel =>
          exact ⟨k + 1, V', _, _, us, by omega, by go_num, (HI5.out.write (by omega) (by omega) q op.data).cast HVV.out.1.symm HVV.out.2.symm⟩
        case measure => simp [intOf]; omega
      · have hdt : op.data = [] := by
          have := hof
          unfold opFault opFaultN at this
          repeat' split at this
          all_goals first | omega | skip
          apply List.eq_nil_of_length_eq_zero
          omega
        rw [hkd] at o0
        rw [hdt] at o3
        have hVV : V'.now = V.now.set q [] ∧ V'.snaps = V.snaps := by
          rw [← HV.out]; unfold didV; rw [if_neg (by omega), if_pos hkd, hq]; exact ⟨rfl, rfl⟩
        have HVV : Hid (_ ∧ _) := hVV
        clear hVV
        go_wp2_with fail
        go_roundw
        case rel =>
          exact ⟨k + 1, V', _, _, us, by omega, by go_num, (HI5.out.write (by omega) (by omega) q []).cast HVV.out.1.symm HVV.out.2.symm⟩
        case measure => simp [intOf]; omega
      · have eV : V' = V := by rw [← HV.out]; unfold didV; rw [if_neg (by omega), if_neg (by omega), if_pos hkd]
        subst eV
        rw [hkd] at o0
        obtain ⟨p, hp⟩ := Int.eq_ofNat_of_zero_le hom.2.2.1.1
        rw [hp] at o2
        by_cases hp0 : p = 0
        · subst hp0
          have hρ : ρ = ⟨0, 0, sec⟩ := by
            rw [← HRR.out, ← HSEC.out]; unfold didR; rw [if_pos hkd, if_neg (by omega), if_neg (by omega), hq]; simp
          subst hρ
          have g1 : ¬ (V'.snaps.length : Int) < 0 := by omega
          go_wp2_with fail
          go_quiet (fail)
          go_wp2_with fail
          go_quiet (fail)
          go_wp2_with fail
          go_roundw
          case rel => exact ⟨k + 1, V', _, _, us, by omega, by go_num, HI5.out.grow (below_drew_n _ _) (by simp; omega)⟩
          case measure => simp [intOf]; omega
        · by_cases hpl : V'.snaps.length < p
          · have hρ : ρ = ⟨6, 0, []⟩ := by
              rw [← HRR.out]; unfold didR; rw [if_pos hkd, if_pos (by omega)]
            subst hρ
            have g1 : (V'.snaps.length : Int) < (p : Int) := by omega
            have g2 : ((p : Int) == 0) = false := by simp; omega
            have g3 : (0 : Int) < (p : Int) := by omega
            have g4 : decide ((p : Int) ≤ (V'.snaps.length : Int)) = false := by simp; omega
            have g5 : 0 < p := by omega
            have g6 : decide (p ≤ V'.snaps.length) = false := by simp; omega
            clear hp0 hpl
            go_wp2_with fail
            go_quiet (fail)
            go_wp2_with fail
            go_quiet (fail)
            go_wp2_with fail
            go_roundw
            case rel => exact ⟨k + 1, V', _, _, us, by omega, by go_num, HI5.out.grow (below_drew_n _ _) (by simp; omega)⟩
            case measure => simp [intOf]; omega
          · obtain ⟨m, rfl⟩ : ∃ m, p = m + 1 := ⟨p - 1, by omega⟩
            have hm1 : m < V'.snaps.length := by omega
            obtain ⟨g8, cap8, hv8, hg8, _, hc8, _⟩ := own_cell HG.out.snaps m hm1
            cases hv8
            have hus : m < us.length := by rw [HG.out.each.1]; exact hm1
            obtain ⟨u, hu⟩ : ∃ u, us[m]? = some u := ⟨_, List.getElem?_eq_getElem hus⟩
            have hown := (HG.out.each.2 m u hu).1
            have hsl : (V'.snaps.getD m []).length = 6 := by
              have e : V'.snaps.getD m [] = V'.snaps[m] := by simp [List.getD, hm1]
              rw [e]; exact HLEN.out.2.2 _ (List.getElem_mem hm1)
            obtain ⟨g7, cap7, hv7, hg7, _, hc7a, _⟩ := own_cell hown q (by omega)
            subst hv7
            rw [hu] at hc8
            obtain ⟨sec2, HSEC2⟩ : ∃ sec2, Hid ((V'.snaps.getD m []).getD q [] = sec2) := ⟨_, rfl⟩
            have hc7 : w5.cell? ⟨g7, q, none⟩ = some (.string ⟨sec2.toArray⟩) := by
              rw [hc7a, ← HSEC2.out]
              exact map_enc_get _ q (by omega)
            clear hc7a
            have hρ : ρ = ⟨0, 0, sec2⟩ := by
              rw [← HRR.out, ← HSEC2.out]; unfold didR; rw [if_pos hkd, if_neg (by omega), if_pos (by omega), hq, hp]; simp
            subst hρ
            rw [hsl] at hc8
            have g1 : ¬ (V'.snaps.length : Int) < (m : Int) + 1 := by omega
            have g2 : ((m : Int) + 1 == 0) = false := by simp; omega
            have g3 : (0 : Int) < (m : Int) + 1 := by omega
            have g4 : (m : Int) + 1 ≤ (V'.snaps.length : Int) := by omega
            have g5 : m + 1 ≤ V'.snaps.length := by omega
            have g6 : w1.heap.size < g8 := by omega
            have g7 : w1.heap.size < g7 := by omega
            clear hp0 hpl hown hu hsl
            go_wp2_with fail
            go_quiet (fail)
            go_wp2_with fail
            go_quiet (fail)
            go_wp2_with fail
            go_roundw
            case rel => exact ⟨k + 1, V', _, _, us, by omega, by go_num, HI5.out.grow (below_drew_n _ _) (by simp; omega)⟩
            case measure => simp [intOf]; omega
      · rw [hkd] at o0
        by_cases hs3 : V.snaps.length < 3
        · have eV : V' = { V with snaps := V.snaps ++ [V.now] } := by rw [← HV.out]; unfold didV; rw [if_neg (by omega), if_neg (by omega), if_neg (by omega), if_pos hs3]
          have hρ : ρ = ⟨0, V.snaps.length + 1, []⟩ := by rw [← HRR.out]; unfold didR; rw [if_neg (by omega), if_pos hkd, if_pos hs3]
          subst hρ
          have HEV : Hid (_ = _) := eV
          have g1 : (V.snaps.length : Int) < 3 := by omega
          have hcl := Tryd.slices_Clone_string (w1.heap.size + 1) 0 6 6 (V.now.map fun s => (⟨s.toArray⟩ : ByteArray)) ((w5.setCell ⟨w1.heap.size, 0, none⟩ (.slice a5 V'.now.length c5)).setCell ⟨w1.heap.size, 1, none⟩ (.slice a6 V'.snaps.length c6)) (by simp; have := HLEN.out.1; omega) (by omega) (by
            intro j hj
            have hj6 : j < V.now.length := by simpa using hj
            obtain ⟨g, cap, hv, _, _, hcx, _⟩ := own_cell HI5.out.now j (by have := HLEN.out.1; omega)
            cases hv
            rw [Nat.zero_add, hcx, map_enc_get _ j hj6]
            simp [List.getD, hj6])
          have hz : ((V.now.map fun s => (⟨s.toArray⟩ : ByteArray)).take 6).map Value.string = V.now.map enc := by
            rw [List.take_of_length_le (by simp; have := HLEN.out.1; omega)]
            simp [enc]
          rw [hz] at hcl
          have HCL : Hid (Calls _ _ _ _ _) := hcl
          clear eV hs3 hcl hz
          go_wp2_with fail
          refine HCL.out.mono ?_
          rintro e w6 ⟨v6, rfl, hown6, _, hb6⟩
          have HUS : Hid (us.length = V.snaps.length) := HG.out.each.1
          have HI6 : Hid (SecInv _ _ _ _ _ _ _ _ _ _ _ _) := HI5.out.grow hb6 (by simp; omega)
          obtain ⟨a9, c9, rfl⟩ := own_form hown6
          have s6 := hb6.size
          simp at s6
          have HOWN6 : Hid (World.ownsRow _ _ _ _ _ _ _) := hown6
          have HB6 : Hid (Below _ _ _) := hb6
          clear hown6 hb6 HCL
          have HB7 := (((HRB.out.other (a := ⟨w1.heap.size, 0, none⟩) (.slice a5 V'.now.length c5) (by simp; omega)).other (a := ⟨w1.heap.size, 1, none⟩) (.slice a6 V'.snaps.length c6) (by simp; omega)).below HB6.out (by simp; omega)).alloc (.cells #[.slice a9 6 c9] 23)
          have HB8 : Hid (Box _ _ _ _) := HB7
          clear HB7
          go_wp2_with (at_builtin; refine wpList_append_row _ (by rfl) _ _ 24 (by rfl) (w1.heap.size + 1 + 1) 23 Tryd.t23 _ 1 24 Tryd.underlying24 infoStrs zeroStrs sizeStrs bytesStrs rfl (by decide) _ V.snaps.length us (by rfl) (own_below HI6.out.snaps (below_alloc _ _) (own_lt HI6.out.snaps)) _ 1 [.slice a9 6 c9] (by rfl) (RowAt.one _ _ _) (by simp [Value.oneCell']) (by unfold maxLen; omega) (by omega) (by simp; omega) ?_; intro v7 w7 hown7 hg7 hat7; obtain ⟨a7, c7, hv7⟩ := own_form hown7; subst hv7; have p1 := (HB8.out.grown hg7 (fun e => by have := HSN.out _ e; omega)).cell 1 _ rfl)
          have J := HI5.out.snap (by simp; omega) (by omega) (by simp; omega) (by omega) HB6.out (by rw [HLEN.out.1]; exact HOWN6.out) hg7 hown7 (by simpa using hat7)
          go_roundw
          case rel => exact ⟨k + 1, V', _, _, us ++ [.slice a9 6 c9], by omega, by go_num, J.cast (by rw [HEV.out]) (by rw [HEV.out])⟩
          case measure => simp [intOf]; omega
        · have eV : V' = V := by rw [← HV.out]; unfold didV; rw [if_neg (by omega), if_neg (by omega), if_neg (by omega), if_neg hs3]
          have hρ : ρ = ⟨7, 0, []⟩ := by rw [← HRR.out]; unfold didR; rw [if_neg (by omega), if_pos hkd, if_neg hs3]
          subst eV
          subst hρ
          have g1 : decide ((V'.snaps.length : Int) < 3) = false := by simp; omega
          have g2 : ¬ (V'.snaps.length : Int) < 3 := by omega
          clear hs3
          go_wp2_with fail
          go_quiet (fail)
          go_wp2_with fail
          go_quiet (fail)
          go_wp2_with fail
          go_roundw
          case rel => exact ⟨k + 1, V', _, _, us, by omega, by go_num, HI5.out.grow (below_drew_n _ _) (by simp; omega)⟩
          case measure => simp [intOf]; omega
    · have HB : Hid (Below _ _ _) := I.below
      clear I
      by_cases h1 : k < l.length
      · have h2 : ¬ k < 40 := by omega
        go_wp2_with fail
        go_ret
        exact ⟨rfl, HB.out⟩
      · go_wp2_with fail
        go_ret
        exact ⟨rfl, HB.out⟩
end Go.Proofs.YtdkgciemnkgcpabDoor
