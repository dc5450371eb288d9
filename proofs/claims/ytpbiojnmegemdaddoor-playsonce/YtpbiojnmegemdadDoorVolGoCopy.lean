/- The program's own copy of a volume: its contract. -/
import Derived.Test.YtpbiojnmegemdadDoorVolGo
namespace Go.Proofs.YtpbiojnmegemdadDoor
open Go.RowKit
set_option linter.unusedVariables false
set_option linter.unusedSimpArgs false
attribute [local go_sem] app_list ext_list get_list byteAt_zero

/-- What holds after k rounds of the copy's loop. -/
structure GoCopyInv (w : World) (N : Nat) (V : VolM) (vn va : Value) (k : Nat) (us : List Value) (wr : World) : Prop where
  below : Below N w wr
  arg : Box wr N 40 [vn, va]
  res : Box wr (N + 1) 40 [.slice none 0 0, .slice none 0 0]
  snaps : wr.ownsRow (N + 2) 36 1 (.slice (some ⟨N + 2, 0, none⟩) V.snaps.length V.snaps.length) V.snaps.length (us ++ List.replicate (V.snaps.length - k) (.slice none 0 0))
  many : us.length = k
  each : ∀ i u, us[i]? = some u → wr.ownsRow (N + 3) 9 1 u (V.snaps.getD i []).length ((V.snaps.getD i []).map enc)

theorem set_next (us : List Value) (z u : Value) (n k : Nat) (hk : k < n) (hu : us.length = k) : (us ++ List.replicate (n - k) z).set k u = (us ++ [u]) ++ List.replicate (n - (k + 1)) z := by
  obtain ⟨m, rfl⟩ : ∃ m, n = k + 1 + m := ⟨n - (k + 1), by omega⟩
  have e1 : k + 1 + m - k = m + 1 := by omega
  have e2 : k + 1 + m - (k + 1) = m := by omega
  rw [e1, e2, List.set_append_right _ _ (by omega), hu, List.replicate_succ]
  simp

theorem gocopy_step {w wr wA : World} {N : Nat} {V : VolM} {vn va : Value} {k : Nat} {u : Value} {us : List Value} {sk : List (List UInt8)}
    (I : GoCopyInv w N V vn va k us wr) (hlt : k < V.snaps.length) (hk : V.snaps.getD k [] = sk) (hA : Below wr.heap.size wr wA)
    (hownA : wA.ownsRow wr.heap.size 9 1 u sk.length (sk.map enc)) :
    GoCopyInv w N V vn va (k + 1) (us ++ [u]) (wA.setCell ⟨N + 2, k, none⟩ u) := by
  have l2 := own_lt I.snaps (N + 2) rfl
  have hlow : ∀ (e : TypeId) (x : Value) (m : Nat) (xs : List Value) (B : Nat), N + 3 ≤ B → wA.ownsRow B e 1 x m xs → (wA.setCell ⟨N + 2, k, none⟩ u).ownsRow B e 1 x m xs :=
    fun e x m xs B hB h => ownsRow_setCell_below h (by simp; omega) _
  refine ⟨((I.below.trans (hA.mono (by omega))).setCell (by simp) _), (I.arg.below hA (by omega)).other _ (by simp), (I.res.below hA (by omega)).other _ (by simp), ?_, by simp [I.many], ?_⟩
  · have := own_set (own_below I.snaps hA (own_lt I.snaps)) k u
    rw [set_next us _ u _ k hlt I.many] at this
    exact this
  · intro i x hx
    by_cases hi : i < us.length
    · rw [List.getElem?_append_left hi] at hx
      have h2 := I.each i x hx
      exact hlow _ _ _ _ _ (Nat.le_refl _) (own_below h2 hA (own_lt h2))
    · rw [List.getElem?_append_right (by omega)] at hx
      have hi2 : i = us.length := by
        have := (List.getElem?_eq_some_iff.1 hx).1
        simp at this
        omega
      subst hi2
      simp at hx
      subst hx
      rw [I.many, hk]
      exact hlow _ _ _ _ _ (Nat.le_refl _) (own_base hownA (by omega))

theorem gocopy_done {w wr wA : World} {N : Nat} {V : VolM} {vn va v1 : Value} {us : List Value} (I : GoCopyInv w N V vn va V.snaps.length us wr) (hA : Below wr.heap.size wr wA)
    (hownA : wA.ownsRow wr.heap.size 9 1 v1 V.now.length (V.now.map enc)) (x y : Value) :
    VolNew ((wA.setCell ⟨N + 1, 0, none⟩ x).setCell ⟨N + 1, 1, none⟩ y) N (.agg #[v1, .slice (some ⟨N + 2, 0, none⟩) V.snaps.length V.snaps.length]) V ∧ Below N w ((wA.setCell ⟨N + 1, 0, none⟩ x).setCell ⟨N + 1, 1, none⟩ y) := by
  have l2 := own_lt I.snaps (N + 2) rfl
  have setR : ∀ (B : Nat) (e : TypeId) (z : Value) (m : Nat) (xs : List Value), N + 1 < B → wA.ownsRow B e 1 z m xs → ((wA.setCell ⟨N + 1, 0, none⟩ x).setCell ⟨N + 1, 1, none⟩ y).ownsRow N e 1 z m xs :=
    fun B e x m xs hB h => own_base (ownsRow_setCell_below (ownsRow_setCell_below h (by simpa using hB) _) (by simpa using hB) _) (by omega)
  have hs := I.snaps
  rw [Nat.sub_self, List.replicate_zero, List.append_nil] at hs
  refine ⟨⟨_, _, us, rfl, setR _ _ _ _ _ (by omega) hownA, setR _ _ _ _ _ (by omega) (own_below hs hA (own_lt hs)), ⟨I.many, fun i u hu => ?_⟩, ⟨I.many, fun i u hu => ?_⟩, ?_⟩, ((I.below.trans (hA.mono (by omega))).setCell (by simp) _).setCell (by simp) _⟩
  · have h2 := I.each i u hu
    refine ⟨setR _ _ _ _ _ (by omega) (own_below h2 hA (own_lt h2)), fun g hg hug => ?_⟩
    have := own_ge hownA g hg
    have := own_lt h2 g hug
    omega
  · have h2 := I.each i u hu
    refine ⟨setR _ _ _ _ _ (by omega) (own_below h2 hA (own_lt h2)), fun g hg hug => ?_⟩
    have := own_ge h2 g hug
    obtain rfl : N + 2 = g := Option.some.inj hg
    omega
  · intro g hg hug
    have := own_ge hownA g hg
    obtain rfl : N + 2 = g := Option.some.inj hug
    omega

set_option maxHeartbeats 2000000 in
theorem volCopy_any (V : VolM) (v : Value) (w : World) (h : VolAt w v V) (hz : VolFits V) :
    Calls Tryd.prog 40 #[v] w fun e w' => ∃ v', e = .returned v' ∧ VolNew w' w.heap.size v' V ∧ Below w.heap.size w w' := by
  obtain ⟨vn, vs, rfl, hn, hs⟩ := h
  have HS0 : Hid (Strs w vn V.now) := hn
  obtain ⟨a, c, rfl, hla, hca⟩ := hs
  obtain ⟨an, cn, rfl, hln, _⟩ := hn
  obtain ⟨bA, bB, hb⟩ := boxes2 w 40 40 [.slice an V.now.length cn, .slice a V.snaps.length c] [.slice none 0 0, .slice none 0 0]
  have HZ1 : Hid (Tryd.t36.bytes * V.snaps.length ≤ 281474976710656) := by unfold Hid; rw [bytesStrs]; have := hz.snaps; omega
  have HZ2 : Hid (V.snaps.length ≤ maxLen) := by unfold Hid maxLen; omega
  have HZ3 : Hid (w.heap.size + 2 ≤ ((w.alloc (Obj.cells #[.slice an V.now.length cn, .slice a V.snaps.length c] 40)).alloc (Obj.cells #[.slice none 0 0, .slice none 0 0] 40)).heap.size) := by unfold Hid; simp
  go_enter Tryd.func40, Tryd.ntmps40
  go_wp2_with (at_make; refine wpList_make_full _ rfl _ _ 38 rfl (w.heap.size + 2) 36 Tryd.t36 _ 1 Tryd.underlying38 infoStrs zeroStrs sizeStrs .i64 .i64 V.snaps.length V.snaps.length V.snaps.length rfl rfl rfl rfl HZ1.out HZ2.out HZ3.out ?_)
  intro w1 hown hg
  simp only [Value.cells, made_one, Nat.mul_one] at hown
  have hb1 : Below (w.heap.size + 2) ((w.alloc (Obj.cells #[.slice an V.now.length cn, .slice a V.snaps.length c] 40)).alloc (Obj.cells #[.slice none 0 0, .slice none 0 0] 40)) w1 := (Below.refl _ _).grown hg HZ3.out (fun _ h => by cases h)
  have HI : Hid (GoCopyInv w w.heap.size V (.slice an V.now.length cn) (.slice a V.snaps.length c) 0 [] w1) :=
    ⟨hb.trans (hb1.mono (by omega)), bA.below hb1 (by omega), bB.below hb1 (by omega), by simpa using hown, rfl, fun i u h => by simp at h⟩
  have hc1 := HI.out.arg.cell 1 _ rfl
  clear hown hg hb1 bA bB hb HZ1 HZ2 HZ3
  go_wp2_with fail
  clear hc1
  go_loopw [13] (fun i wr => ∃ (k : Nat) (us : List Value), k ≤ V.snaps.length ∧ i = .int .i64 k ∧ GoCopyInv w w.heap.size V (.slice an V.now.length cn) (.slice a V.snaps.length c) k us wr) (fun i wr => V.snaps.length - (intOf i).toNat)
  case atStart => exact ⟨0, _, by omega, rfl, HI.out⟩
  case round =>
    clear HI
    obtain ⟨k, us, hk, rfl, I⟩ := hrel
    have hc0 := I.arg.cell 0 _ rfl
    have hc1 := I.arg.cell 1 _ rfl
    by_cases hlt : k < V.snaps.length
    · obtain ⟨sk, HSK⟩ : ∃ sk, Hid (V.snaps.getD k [] = sk) := ⟨_, rfl⟩
      have hmem : sk ∈ V.snaps := by
        rw [← HSK.out, show V.snaps.getD k [] = V.snaps[k] by simp [List.getD, hlt]]; exact List.getElem_mem hlt
      obtain ⟨b, o, u, rfl, h1, h2⟩ := hca k hlt
      rw [HSK.out] at h2
      have hb := lt_of_cell h1
      have h2r := h2.below I.below
      have h1r : wr.cell? ⟨b, o + k, none⟩ = some u := (I.below.cell (p := ⟨b, o + k, none⟩) hb).trans h1
      have k0 : (0 : Int) ≤ (k : Int) := by omega
      have k1 : (k : Int) < (V.snaps.length : Int) := by omega
      have HC : Hid (Calls _ _ _ _ _) := copySectors_any sk u wr h2r (hz.each _ hmem)
      have HII : Hid (GoCopyInv w w.heap.size V (.slice an V.now.length cn) (.slice (some ⟨b, o, none⟩) V.snaps.length c) k us wr) := I
      obtain ⟨a3, c3, rfl, hl3, _⟩ := h2r
      clear h2 hca I hmem h1
      go_wp2_with (go_at_call 46; refine HC.out.mono ?_)
      rintro e wA ⟨u', rfl, hownA, hbA⟩
      have hs := own_below HII.out.snaps hbA (own_lt HII.out.snaps)
      obtain ⟨g, _, hv, _, _, hcell, hfroz⟩ := own_cell hs k hlt
      cases hv
      have hcell' : wA.cell? ⟨w.heap.size + 2, k, none⟩ = some (.slice none 0 0) := by
        rw [hcell, List.getElem?_append_right (by have := HII.out.many; omega)]
        rw [List.getElem?_replicate, if_pos (by have := HII.out.many; omega)]
      have HS : Hid (GoCopyInv _ _ _ _ _ _ _ _) := gocopy_step HII.out hlt HSK.out hbA hownA
      obtain ⟨a4, c4, rfl⟩ := own_form hownA
      clear hs hcell hownA hbA HII HC hc0 hc1 h1r
      go_wp2_with fail
      go_roundw
      case rel => exact ⟨k + 1, _, by omega, by go_num, HS.out⟩
      case measure => simp [intOf]; omega
    · obtain rfl : k = V.snaps.length := by omega
      have HII : Hid (GoCopyInv w w.heap.size V (.slice an V.now.length cn) (.slice a V.snaps.length c) V.snaps.length us wr) := I
      have HC : Hid (Calls _ _ _ _ _) := copySectors_any V.now (.slice an V.now.length cn) wr (HS0.out.below I.below) hz.now
      clear hca I
      go_wp2_with (go_at_call 46; refine HC.out.mono ?_)
      rintro e wA ⟨u', rfl, hownA, hbA⟩
      have BR := HII.out.res.below hbA HII.out.res.lt
      have hr0 := BR.cell 0 _ rfl
      have hr1 := BR.cell 1 _ rfl
      have hf0 := BR.frozen 0
      have hf1 := BR.frozen 1
      obtain ⟨a4, c4, rfl⟩ := own_form hownA
      have HD : Hid (VolNew _ _ _ _ ∧ Below _ _ _) := gocopy_done HII.out hbA hownA (.slice a4 V.now.length c4) (.slice (some ⟨w.heap.size + 2, 0, none⟩) V.snaps.length V.snaps.length)
      clear HII HC BR hbA hownA hc0 hc1
      go_wp2_with fail
      exact bodyPost_ret (v := .agg #[.slice a4 V.now.length c4, .slice (some ⟨w.heap.size + 2, 0, none⟩) V.snaps.length V.snaps.length]) (by simp [results, Tryd.results40, go_sem, hr0, hr1]) rfl ⟨_, rfl, HD.out.1, HD.out.2⟩

end Go.Proofs.YtpbiojnmegemdadDoor
