/- The program's own 'Do': its contract. -/
import Derived.Test.YtmdgkjbiicaljahGreatDoorJointVolGoDo
import Derived.Deep.DeepCutAuto
set_option linter.unusedVariables false
set_option linter.unusedSimpArgs false
namespace Go.Proofs.YtmdgkjbiicaljahGreatDoor
open Go.RowKit
attribute [local go_sem] app_list ext_list get_list byteAt_zero

/-- What holds behind 'next, look := Copy(v), lookInto(v)'. -/
structure DoMid (w2 : World) (V : VolM) (vn vs : Value) (b9 bL : Nat) (v1 v2 : Value) (wx : World) : Prop where
  below : Below w2.heap.size w2 wx
  look : Box wx bL 69 [vn, vs]
  next : Box wx b9 69 [v1, v2]
  vol : VolNew wx w2.heap.size (.agg #[v1, v2]) V
  ge9 : w2.heap.size ≤ b9

theorem mid_after {w2 wA : World} {V : VolM} {vn vs v1 v2 : Value} {B : Nat} (hb : Below w2.heap.size w2 wA) (hv : VolNew wA B (.agg #[v1, v2]) V) (hB : w2.heap.size ≤ B) :
    DoMid w2 V vn vs (wA.heap.size + 1) wA.heap.size v1 v2 ((wA.alloc (.cells #[vn, vs] 69)).alloc (.cells #[v1, v2] 69)) := by
  obtain ⟨h0, h1, h2⟩ := boxes2 wA 69 69 [vn, vs] [v1, v2]
  exact ⟨hb.trans (h2.mono hb.size), h0, h1, (hv.below h2).base hB, by have := hb.size; omega⟩
theorem mid_after' {w2 wA : World} {V : VolM} {vn vs v1 v2 : Value} {B : Nat} (hb : Below w2.heap.size w2 wA) (hv : VolNew wA B (.agg #[v1, v2]) V) (hB : w2.heap.size ≤ B) :
    DoMid w2 V vn vs wA.heap.size (wA.heap.size + 1) v1 v2 ((wA.alloc (.cells #[v1, v2] 69)).alloc (.cells #[vn, vs] 69)) := by
  obtain ⟨h0, h1, h2⟩ := boxes2 wA 69 69 [v1, v2] [vn, vs]
  exact ⟨hb.trans (h2.mono hb.size), h1, h0, (hv.below h2).base hB, hb.size⟩
theorem mid_look {w2 wA : World} {V : VolM} {vn vs v1 v2 : Value} {B bL : Nat} (hb : Below w2.heap.size w2 wA) (hL : Box wA bL 69 [vn, vs]) (hv : VolNew wA B (.agg #[v1, v2]) V) (hB : w2.heap.size ≤ B) :
    DoMid w2 V vn vs wA.heap.size bL v1 v2 (wA.alloc (.cells #[v1, v2] 69)) :=
  ⟨hb.trans ((below_alloc wA _).mono hb.size), hL.alloc _, Box.new wA _ [v1, v2], (hv.below (below_alloc wA _)).base hB, hb.size⟩
theorem mid_both {w2 wA : World} {V : VolM} {vn vs v1 v2 y0 y1 : Value} {B bL b9 : Nat} (hb : Below w2.heap.size w2 wA) (hL : Box wA bL 69 [vn, vs]) (h9 : Box wA b9 69 [y0, y1]) (hne : bL ≠ b9) (h29 : w2.heap.size ≤ b9) (hv : VolNew wA B (.agg #[v1, v2]) V) (hB : w2.heap.size ≤ B) :
    DoMid w2 V vn vs b9 bL v1 v2 ((wA.setCell ⟨b9, 0, none⟩ v1).setCell ⟨b9, 1, none⟩ v2) :=
  ⟨(hb.setCell (by simpa using h29) _).setCell (by simpa using h29) _, (hL.other _ (by simpa using hne)).other _ (by simpa using hne), (h9.set 0 v1).set 1 v2,
    ((hv.type h9 (by decide) (by decide) 0 v1).type (h9.set 0 v1) (by decide) (by decide) 1 v2).base hB, h29⟩
theorem mid_next {w2 wA : World} {V : VolM} {vn vs v1 v2 y0 y1 : Value} {B b9 : Nat} (hb : Below w2.heap.size w2 wA) (h9 : Box wA b9 69 [y0, y1]) (h29 : w2.heap.size ≤ b9) (hv : VolNew wA B (.agg #[v1, v2]) V) (hB : w2.heap.size ≤ B) :
    DoMid w2 V vn vs b9 wA.heap.size v1 v2 (((wA.setCell ⟨b9, 0, none⟩ v1).setCell ⟨b9, 1, none⟩ v2).alloc (.cells #[vn, vs] 69)) := by
  have hb' : Below w2.heap.size w2 ((wA.setCell ⟨b9, 0, none⟩ v1).setCell ⟨b9, 1, none⟩ v2) := (hb.setCell (by simpa using h29) _).setCell (by simpa using h29) _
  have hz : ((wA.setCell ⟨b9, 0, none⟩ v1).setCell ⟨b9, 1, none⟩ v2).heap.size = wA.heap.size := by simp [World.setCell]
  have hN := Box.new ((wA.setCell ⟨b9, 0, none⟩ v1).setCell ⟨b9, 1, none⟩ v2) 69 [vn, vs]
  rw [hz] at hN
  exact ⟨Below.up hb' _, hN, ((h9.set 0 v1).set 1 v2).alloc _, (((hv.type h9 (by decide) (by decide) 0 v1).type (h9.set 0 v1) (by decide) (by decide) 1 v2).base hB).below (below_alloc _ _), h29⟩

/-- The five stores of 'return next, reply, OK'. -/
theorem do_fin {w wS : World} {B : Nat} {v : Value} {V : VolM} (hv : VolNew wS B v V) (hB : w.heap.size + 3 < B) (hb : Below w.heap.size w wS) (x0 x1 y0 y1 y2 : Value) :
    VolNew (((((wS.setCell ⟨w.heap.size + 1 + 1, 0, none⟩ x0).setCell ⟨w.heap.size + 1 + 1, 1, none⟩ x1).setCell ⟨w.heap.size + 1 + 1 + 1, 0, none⟩ y0).setCell ⟨w.heap.size + 1 + 1 + 1, 1, none⟩ y1).setCell ⟨w.heap.size + 1 + 1 + 1, 2, none⟩ y2) w.heap.size v V ∧
    Below w.heap.size w (((((wS.setCell ⟨w.heap.size + 1 + 1, 0, none⟩ x0).setCell ⟨w.heap.size + 1 + 1, 1, none⟩ x1).setCell ⟨w.heap.size + 1 + 1 + 1, 0, none⟩ y0).setCell ⟨w.heap.size + 1 + 1 + 1, 1, none⟩ y1).setCell ⟨w.heap.size + 1 + 1 + 1, 2, none⟩ y2) :=
  ⟨(((((hv.other (by simp <;> omega) x0).other (by simp <;> omega) x1).other (by simp <;> omega) y0).other (by simp <;> omega) y1).other (by simp <;> omega) y2).base (by omega),
    ((((hb.setCell (by simp <;> omega) x0).setCell (by simp <;> omega) x1).setCell (by simp <;> omega) y0).setCell (by simp <;> omega) y1).setCell (by simp <;> omega) y2⟩

theorem volMay_texts {V : VolM} (h : volMay V = true) : (∀ s ∈ V.now, s.length ≤ 8) ∧ ∀ l ∈ V.snaps, ∀ s ∈ l, s.length ≤ 8 := by
  unfold volMay at h
  simp only [Bool.and_eq_true, decide_eq_true_eq, List.all_eq_true] at h
  exact ⟨(secMay_len h.1.1).2, fun l hl => (secMay_len (h.2 l hl)).2⟩

theorem VolNew.snapsForm {w : World} {B : Nat} {vn vs : Value} {V : VolM} (h : VolNew w B (.agg #[vn, vs]) V) : ∃ a c, vs = .slice a V.snaps.length c := by
  obtain ⟨_, _, us, hv, hn, hs, _⟩ := h
  cases hv
  exact own_form hs

/-- What lies behind addSnap, for the caller: its local variables, and the volume behind the stores into them. -/
theorem snap_fin {V : VolM} {w wc w5 : World} {B b9 : Nat} {v1 v2 vs' : Value} {r : ReplyM} {z : List Value} (hM : VolNew wc B (.agg #[v1, v2]) V) (h9 : Box wc b9 69 [v1, v2])
    (D : SnapDone V (wc.alloc (.cells z.toArray 64)) B v1 v2 vs' r w5) (hb : Below w.heap.size w wc) (hB : w.heap.size + 3 < B) (h9B : w.heap.size ≤ b9) :
    Box w5 b9 69 [v1, v2] ∧ Box w5 wc.heap.size 64 z ∧ (∀ b t cs, b < B → Box wc b t cs → Box w5 b t cs) ∧
    (∀ x y0 y1 y2, VolNew ((((w5.setCell ⟨b9, 1, none⟩ x).setCell ⟨wc.heap.size, 0, none⟩ y0).setCell ⟨wc.heap.size, 1, none⟩ y1).setCell ⟨wc.heap.size, 2, none⟩ y2) B (.agg #[v1, vs']) (if V.snaps.length < 3 then { V with snaps := V.snaps ++ [V.now] } else V) ∧
      Below w.heap.size w ((((w5.setCell ⟨b9, 1, none⟩ x).setCell ⟨wc.heap.size, 0, none⟩ y0).setCell ⟨wc.heap.size, 1, none⟩ y1).setCell ⟨wc.heap.size, 2, none⟩ y2)) := by
  obtain ⟨_, _, us, hv, hn, hs, k1, k2, k3⟩ := hM
  cases hv
  have b9' : Box w5 b9 69 [v1, v2] := (h9.alloc _).grown D.grown (own_type hs h9 (by decide))
  have b11' : Box w5 wc.heap.size 64 z := (Box.new wc _ z).grown D.grown (fun e => by have := own_lt hs _ e; omega)
  have hne : b9 ≠ wc.heap.size := by have := h9.lt; omega
  have hsz := hb.size
  refine ⟨b9', b11', fun b t cs hbB hbx => (hbx.alloc _).grown D.grown (fun e => by have := own_ge hs _ e; omega), fun x y0 y1 y2 => ⟨?_, ?_⟩⟩
  · have s1 := D.vol.type b9' (by decide) (by decide) 1 x
    have t1 : Box (w5.setCell ⟨b9, 1, none⟩ x) wc.heap.size _ _ := b11'.other _ (by simpa using hne.symm)
    have s2 := s1.type t1 (by decide) (by decide) 0 y0
    have t2 := t1.set 0 y0
    have s3 := s2.type t2 (by decide) (by decide) 1 y1
    have t3 := t2.set 1 y1
    exact s3.type t3 (by decide) (by decide) 2 y2
  · have h5 : Below w.heap.size w w5 := (hb.trans ((below_alloc wc _).mono hsz)).grown D.grown (by simp; omega) (fun k e => by have := own_ge hs k e; omega)
    exact (((h5.setCell (by simpa using h9B) _).setCell (by simpa using hsz) _).setCell (by simpa using hsz) _).setCell (by simpa using hsz) _

theorem lookInto_any (vn vs : Value) (w : World) (hn : vn.oneCell' = true) (hs : vs.oneCell' = true) :
    Calls Tryz.prog 77 #[.agg #[vn, vs]] w fun e w' => ∃ v', e = .returned v' ∧ (v' = .func (.func 110) #[] #[.pointer (some ⟨w.heap.size, 0, none⟩)] ∧ w' = w.alloc (.cells #[vn, vs] 69)) := by
  have hmf : ∀ (fn : Fn) (first cap : Array Value) (w : World), (Instr.makeFunc fn first cap).run Tryz.prog w = .ok (.func fn first cap) w := fun _ _ _ _ => rfl
  go_enter Tryz.func77, Tryz.ntmps77
  go_wp2_with fail
  go_ret
  exact ⟨_, rfl, rfl, rfl⟩

set_option maxRecDepth 4000 in
set_option maxHeartbeats 2000000 in
theorem do_ok (V : VolM) (o : OpM) (v : Value) (w : World) (h : VolAt w v V) (hv : volFault V = 0) (ho : opFault o = 0) :
    Calls Tryz.prog 50 #[v, .agg (opCells o).toArray] w fun e w' => ∃ v', e = .returned (.tuple #[v', repVal (didR V o), .int .i64 0]) ∧ VolNew w' w.heap.size v' (didV V o) ∧ Below w.heap.size w w' := by
  have hm := volMay_len (volMay_of V hv)
  have hom := opMay_of o ho
  have hf : VolFits V := ⟨by omega, by omega, fun l hl => by have := hm.2.2 l hl; omega⟩
  have HM : Hid (V.now.length = 6 ∧ V.snaps.length ≤ 3 ∧ ∀ l ∈ V.snaps, l.length = 6) := hm
  clear hm
  obtain ⟨k, p, s, d⟩ := o
  simp only at hom
  unfold opCells
  have h' := h
  obtain ⟨vn, vs, rfl, ⟨an, cn, rfl, _⟩, ⟨aw, cw, rfl, _⟩⟩ := h'
  obtain ⟨b0, b1, b2, b3, hb⟩ := boxes4 w 69 38 69 64 [.slice an V.now.length cn, .slice aw V.snaps.length cw] [.int .i64 k, .int .i64 p, .int .i64 s, .string ⟨d.toArray⟩] [.slice none 0 0, .slice none 0 0] [.int .i64 0, .int .i64 0, .string ⟨#[]⟩]
  go_enter Tryz.func50, Tryz.ntmps50
  go_wp2_with fail
  refine (volCheck_any V _ _ (h.below hb)).mono ?_
  rintro e w1 ⟨rfl, hb1⟩
  rw [hv]
  have b0' := b0.below hb1 b0.lt
  have b1' := b1.below hb1 b1.lt
  have b2' := b2.below hb1 b2.lt
  have b3' := b3.below hb1 b3.lt
  have hbw := Below.seq hb hb1
  clear b0 b1 b2 b3 hb hb1
  obtain ⟨x0, x1, x2, x3⟩ := b1'.c4
  go_wp2_with fail
  refine (volCheckOp_any ⟨k, p, s, d⟩ _ (by simp <;> omega)).mono ?_
  rintro e w2 ⟨rfl, hb2⟩
  rw [ho]
  have b0 := b0'.below hb2 b0'.lt
  have b1 := b1'.below hb2 b1'.lt
  have b2 := b2'.below hb2 b2'.lt
  have b3 := b3'.below hb2 b3'.lt
  have hbw2 := Below.seq hbw hb2
  clear b0' b1' b2' b3' hbw hb2 x0 x1 x2 x3
  obtain ⟨x0, x1⟩ := b0.c2
  obtain ⟨y0, y1, y2, y3⟩ := b1.c4
  have l3 := b3.lt
  have l0 := b0.lt
  have HC : Hid (∀ W, Below w2.heap.size w2 W → Calls Tryz.prog 76 [.agg #[.slice an V.now.length cn, .slice aw V.snaps.length cw]].toArray W fun e w' => ∃ v', e = .returned v' ∧ (VolNew w' W.heap.size v' V ∧ Below W.heap.size W w')) := fun W hW => volCopy_any V _ _ (h.below (hbw2.trans (hW.mono hbw2.size))) hf
  have HL : Hid (∀ W, Calls Tryz.prog 77 [.agg #[.slice an V.now.length cn, .slice aw V.snaps.length cw]].toArray W fun e w' => ∃ v', e = .returned v' ∧ (v' = .func (.func 110) #[] #[.pointer (some ⟨W.heap.size, 0, none⟩)] ∧ w' = W.alloc (.cells #[.slice an V.now.length cn, .slice aw V.snaps.length cw] 69))) := fun W => lookInto_any (.slice an V.now.length cn) (.slice aw V.snaps.length cw) W rfl rfl
  have HB0 : Hid (Box w2 w.heap.size _ _) := b0
  go_upto_region 7 with fail
  go_cut [9, 10] (fun s9 s10 wx => ∃ b9 bL a1 c1 a2 c2, s9 = .pointer (some ⟨b9, 0, none⟩) ∧ s10 = .func (.func 110) #[] #[.pointer (some ⟨bL, 0, none⟩)] ∧ DoMid w2 V (.slice an V.now.length cn) (.slice aw V.snaps.length cw) b9 bL (.slice a1 V.now.length c1) (.slice a2 V.snaps.length c2) wx)
  case first =>
    go_region_law
      ((first
        | (refine step_go _ (by rfl) 76 _ _ (by rfl) _ (by rfl) enter_copy _ (HC.out _ (by (repeat (first | exact Below.refl _ _ | assumption | apply Below.drew | apply Below.up | (refine Below.far ?_ (by assumption)))))) ?_
           rintro u' wA ⟨hn3, hb3⟩
           obtain ⟨a1, c1, a2, c2, hu4⟩ := hn3.form
           subst hu4
           have hbU : Below w2.heap.size w2 wA := by (repeat (first | exact Below.refl _ _ | assumption | apply Below.drew | apply Below.up | (refine Below.far ?_ (by assumption))))
           have E0 : Box wA w.heap.size _ _ := HB0.out.below hbU HB0.out.lt
           have x0' := E0.cell 0 _ rfl
           have x1' := E0.cell 1 _ rfl
           have q5 := E0.lt
           have q6 : w2.heap.size ≤ wA.heap.size := hbU.size
           first
             | (have B9 : Box wA w2.heap.size 69 [.slice none 0 0, .slice none 0 0] := (Box.new w2.drew 69 [.slice none 0 0, .slice none 0 0]).below hb3 (by simp <;> omega)
                obtain ⟨k0, k1⟩ := B9.c2
                obtain ⟨k2, k3⟩ := B9.z2
                have k4 := B9.lt)
             | (have B9 : Box wA w2.heap.size 69 [.slice none 0 0, .slice none 0 0] := ((Box.new w2.drew 69 [.slice none 0 0, .slice none 0 0]).alloc (.cells #[.slice an V.now.length cn, .slice aw V.snaps.length cw] 69)).below hb3 (by simp <;> omega)
                obtain ⟨k0, k1⟩ := B9.c2
                obtain ⟨k2, k3⟩ := B9.z2
                have k4 := B9.lt
                have BL : Box wA (w2.heap.size + 1) 69 [.slice an V.now.length cn, .slice aw V.snaps.length cw] := (show Box _ (w2.heap.size + 1) _ _ by simpa using (Box.new (w2.drew.alloc (.cells #[.slice none 0 0, .slice none 0 0] 69)) 69 [.slice an V.now.length cn, .slice aw V.snaps.length cw])).below hb3 (by simp <;> omega))
             | (have B9 : Box wA (w2.heap.size + 1) 69 [.slice none 0 0, .slice none 0 0] := (show Box _ (w2.heap.size + 1) _ _ by simpa using (Box.new (w2.drew.alloc (.cells #[.slice an V.now.length cn, .slice aw V.snaps.length cw] 69)) 69 [.slice none 0 0, .slice none 0 0])).below hb3 (by simp <;> omega)
                obtain ⟨k0, k1⟩ := B9.c2
                obtain ⟨k2, k3⟩ := B9.z2
                have k4 := B9.lt
                have BL : Box wA w2.heap.size 69 [.slice an V.now.length cn, .slice aw V.snaps.length cw] := ((Box.new w2.drew 69 [.slice an V.now.length cn, .slice aw V.snaps.length cw]).alloc (.cells #[.slice none 0 0, .slice none 0 0] 69)).below hb3 (by simp <;> omega))
             | (have BL : Box wA w2.heap.size 69 [.slice an V.now.length cn, .slice aw V.snaps.length cw] := (Box.new w2.drew 69 [.slice an V.now.length cn, .slice aw V.snaps.length cw]).below hb3 (by simp <;> omega))
             | skip)
        | (refine step_go _ (by rfl) 77 _ _ (by rfl) _ (by rfl) enter_lookInto _ (HL.out _) ?_
           rintro u3 wB ⟨hu5, hwB⟩
           subst hu5
           subst hwB)))
    all_goals go_wp2_with fail
    all_goals go_meet
    all_goals first
      | exact ⟨_, _, _, _, _, _, rfl, rfl, mid_after hbU hn3 (by simp <;> omega)⟩
      | exact ⟨_, _, _, _, _, _, rfl, rfl, mid_after' hbU hn3 (by simp <;> omega)⟩
      | exact ⟨_, _, _, _, _, _, rfl, rfl, mid_look hbU BL hn3 (by simp <;> omega)⟩
      | exact ⟨_, _, _, _, _, _, rfl, rfl, mid_both hbU BL B9 (by omega) (by omega) hn3 (by simp <;> omega)⟩
      | exact ⟨_, _, _, _, _, _, rfl, rfl, mid_next hbU B9 (by omega) hn3 (by simp <;> omega)⟩
  case rest =>
    obtain ⟨b9, bL, a1, c1, a2, c2, rfl, rfl, M⟩ := hcut
    have e1 := b1.below M.below b1.lt
    have e2 := b2.below M.below b2.lt
    have e3 := b3.below M.below b3.lt
    have hbw3 : Below w.heap.size w wc := Below.far hbw2 M.below
    have l1 := b1.lt
    have l2 := b2.lt
    have l9 := M.ge9
    have l9' := M.next.lt
    have lL := M.look.lt
    have m0 := e1.lt
    have m1 := e2.lt
    have m2 := e3.lt
    clear x0 x1 y0 y1 y2 y3 HC HL b0 b1 b2 b3 HB0
    obtain ⟨x0, x1, x2, x3⟩ := e1.c4
    obtain ⟨y0, y1⟩ := e2.c2
    obtain ⟨f0, f1⟩ := e2.z2
    obtain ⟨z0, z1, z2⟩ := e3.c3
    obtain ⟨g0, g1, g2⟩ := e3.z3
    obtain ⟨n0, n1⟩ := M.next.c2
    obtain ⟨n2, n3⟩ := M.next.z2
    have h4 : k = 1 ∨ k = 2 ∨ k = 3 ∨ k = 4 := by omega
    rcases h4 with rfl | rfl | rfl | rfl
    · have hdv : Hid (didV V ⟨1, p, s, d⟩ = { V with now := V.now.set p.toNat d }) := by simp [Hid, didV]
      have hdr : Hid (didR V ⟨1, p, s, d⟩ = ⟨0, 0, []⟩) := by simp [Hid, didR]
      obtain ⟨q, hq⟩ := Int.eq_ofNat_of_zero_le hom.2.1.1
      subst hq
      have hq6 : q < V.now.length := by have := HM.out.1; omega
      obtain ⟨vn3, vs3, us3, hv3, hn4, hs4, hu4, hu5, hap⟩ := id M.vol
      cases hv3
      have nt := own_type hn4 M.next (by decide)
      obtain ⟨g, cap, hg, hge, hgn, hgc, hgf⟩ := own_cell hn4 q hq6
      cases hg
      have hgl := own_lt hn4 g rfl
      have hgc' : wc.cell? ⟨g, q, none⟩ = some (enc (V.now.getD q [])) := by rw [hgc]; simp [List.getD, hq6]
      have ng : w.heap.size + 1 + 1 < g := by omega
      have ng2 : w.heap.size + 1 + 1 + 1 < g := by omega
      have ng9 : ¬ g = b9 := fun e => nt (by rw [e]; rfl)
      have ng9' : ¬ b9 = g := fun e => ng9 e.symm
      clear hn4 hs4 hu4 hu5 hap nt hgc
      have HF : Hid (VolNew _ _ _ _ ∧ Below _ _ _) := do_fin (M.vol.write q d) (by omega) (hbw3.setCell (p := ⟨g, q, none⟩) (by simp <;> omega) (.string ⟨d.toArray⟩)) (.slice (some ⟨g, 0, none⟩) V.now.length c1) (.slice a2 V.snaps.length c2) (.int .i64 0) (.int .i64 0) (.string ⟨#[]⟩)
      clear M e1 e2 e3 hbw3 hbw2
      go_wp2_with fail
      go_region
      all_goals go_wp2_with fail
      all_goals
        rw [hdv.out, hdr.out]
        refine bodyPost_ret (v := .tuple #[.agg #[.slice (some ⟨g, 0, none⟩) V.now.length c1, .slice a2 V.snaps.length c2], .agg #[.int .i64 0, .int .i64 0, .string ⟨#[]⟩], .int .i64 0]) ?_ rfl ?_
        · clear HF
          simp [results, Tryz.results50, go_sem, *]
        · exact ⟨_, rfl, (HF.out.1.below (below_alloc _ _)).drew, (Below.up HF.out.2 _).drew⟩
    · have hdv : Hid (didV V ⟨2, p, s, d⟩ = { V with now := V.now.set p.toNat [] }) := by simp [Hid, didV]
      have hdr : Hid (didR V ⟨2, p, s, d⟩ = ⟨0, 0, []⟩) := by simp [Hid, didR]
      obtain ⟨q, hq⟩ := Int.eq_ofNat_of_zero_le hom.2.1.1
      subst hq
      have hq6 : q < V.now.length := by have := HM.out.1; omega
      obtain ⟨vn3, vs3, us3, hv3, hn4, hs4, hu4, hu5, hap⟩ := id M.vol
      cases hv3
      have nt := own_type hn4 M.next (by decide)
      obtain ⟨g, cap, hg, hge, hgn, hgc, hgf⟩ := own_cell hn4 q hq6
      cases hg
      have hgl := own_lt hn4 g rfl
      have hgc' : wc.cell? ⟨g, q, none⟩ = some (enc (V.now.getD q [])) := by rw [hgc]; simp [List.getD, hq6]
      have ng : w.heap.size + 1 + 1 < g := by omega
      have ng2 : w.heap.size + 1 + 1 + 1 < g := by omega
      have ng9 : ¬ g = b9 := fun e => nt (by rw [e]; rfl)
      have ng9' : ¬ b9 = g := fun e => ng9 e.symm
      clear hn4 hs4 hu4 hu5 hap nt hgc
      have HF : Hid (VolNew _ _ _ _ ∧ Below _ _ _) := do_fin (M.vol.write q []) (by omega) (hbw3.setCell (p := ⟨g, q, none⟩) (by simp <;> omega) (.string ⟨#[]⟩)) (.slice (some ⟨g, 0, none⟩) V.now.length c1) (.slice a2 V.snaps.length c2) (.int .i64 0) (.int .i64 0) (.string ⟨#[]⟩)
      clear M e1 e2 e3 hbw3 hbw2
      go_wp2_with fail
      go_region
      all_goals go_wp2_with fail
      all_goals
        rw [hdv.out, hdr.out]
        refine bodyPost_ret (v := .tuple #[.agg #[.slice (some ⟨g, 0, none⟩) V.now.length c1, .slice a2 V.snaps.length c2], .agg #[.int .i64 0, .int .i64 0, .string ⟨#[]⟩], .int .i64 0]) ?_ rfl ?_
        · clear HF
          simp [results, Tryz.results50, go_sem, *]
        · exact ⟨_, rfl, (HF.out.1.below (below_alloc _ _)).drew, (Below.up HF.out.2 _).drew⟩
    · have hdv : Hid (didV V ⟨3, p, s, d⟩ = V) := by simp [Hid, didV]
      have hdr : Hid (didR V ⟨3, p, s, d⟩ = lookR V s p) := by simp [Hid, didR, lookR]
      have hbR : Below wc.heap.size wc (wc.alloc (.cells #[.int .i64 0, .int .i64 0, .string ⟨#[]⟩] 64)) := below_alloc _ _
      have B11 := Box.new wc 64 [.int .i64 0, .int .i64 0, .string ⟨#[]⟩]
      have HC : Hid (Calls _ _ _ _ _) := look_any V s p _ _ bL (wc.alloc (.cells #[.int .i64 0, .int .i64 0, .string ⟨#[]⟩] 64)) (M.look.alloc _) (h.below (Below.up hbw3 _)) HM.out.1 HM.out.2.2 (by omega) (by omega) (by omega)
      go_wp2_with (go_at_call 110; refine HC.out.mono ?_)
      rintro e w5 ⟨rfl, hb5⟩
      obtain ⟨R, HR⟩ : ∃ R, Hid (lookR V s p = R) := ⟨_, rfl⟩
      rw [HR.out]
      obtain ⟨rc, rn, rd⟩ := R
      unfold repVal
      have hbX : Below wc.heap.size wc w5 := Below.far hbR hb5
      have B11' := B11.below hb5 B11.lt
      have lz : wc.heap.size < w5.heap.size := B11'.lt
      clear x0 x1 x2 x3 y0 y1 f0 f1 z0 z1 z2 g0 g1 g2 n0 n1 n2 n3 HC B11
      have e2' := e2.below hbX m1
      have e3' := e3.below hbX m2
      have nx' := M.next.below hbX l9'
      obtain ⟨y0, y1⟩ := e2'.c2
      obtain ⟨f0, f1⟩ := e2'.z2
      obtain ⟨z0, z1, z2⟩ := e3'.c3
      obtain ⟨g0, g1, g2⟩ := e3'.z3
      obtain ⟨n0, n1⟩ := nx'.c2
      obtain ⟨r0, r1, r2⟩ := B11'.c3
      obtain ⟨r3, r4, r5⟩ := B11'.z3
      have u1 : ¬ wc.heap.size = w.heap.size + 1 + 1 := by omega
      have u2 : ¬ wc.heap.size = w.heap.size + 1 + 1 + 1 := by omega
      have u3 : ¬ wc.heap.size = b9 := by omega
      have hbS : Below wc.heap.size wc (((w5.setCell ⟨wc.heap.size, 0, none⟩ (.int .i64 rc)).setCell ⟨wc.heap.size, 1, none⟩ (.int .i64 rn)).setCell ⟨wc.heap.size, 2, none⟩ (.string ⟨rd.toArray⟩)) := ((hbX.setCell (by simp) _).setCell (by simp) _).setCell (by simp) _
      have HF : Hid (VolNew _ _ _ _ ∧ Below _ _ _) := do_fin (M.vol.below hbS) (by omega) (Below.far hbw3 hbS) (.slice a1 V.now.length c1) (.slice a2 V.snaps.length c2) (.int .i64 rc) (.int .i64 rn) (.string ⟨rd.toArray⟩)
      clear M e1 e2 e3 hbw3 hbw2 e2' e3' nx' B11' hbX hbS hbR hb5
      go_wp2_with fail
      go_region
      all_goals go_wp2_with fail
      all_goals
        rw [hdv.out, hdr.out, HR.out]
        refine bodyPost_ret (v := .tuple #[.agg #[.slice a1 V.now.length c1, .slice a2 V.snaps.length c2], .agg #[.int .i64 rc, .int .i64 rn, .string ⟨rd.toArray⟩], .int .i64 0]) ?_ rfl ?_
        · clear HF
          simp [results, Tryz.results50, go_sem, *]
        · exact ⟨_, rfl, HF.out.1.drew, HF.out.2.drew⟩
    · have hdv : Hid (didV V ⟨4, p, s, d⟩ = if V.snaps.length < 3 then { V with snaps := V.snaps ++ [V.now] } else V) := by simp [Hid, didV]
      have hdr : Hid (didR V ⟨4, p, s, d⟩ = if V.snaps.length < 3 then ⟨0, V.snaps.length + 1, []⟩ else ⟨7, 0, []⟩) := by simp [Hid, didR]
      have hbR : Below wc.heap.size wc (wc.alloc (.cells #[.int .i64 0, .int .i64 0, .string ⟨#[]⟩] 64)) := below_alloc _ _
      have B11 := Box.new wc 64 [.int .i64 0, .int .i64 0, .string ⟨#[]⟩]
      have HC : Hid (Calls _ _ _ _ _) := addSnap_any V w2.heap.size _ _ (wc.alloc (.cells #[.int .i64 0, .int .i64 0, .string ⟨#[]⟩] 64)) (M.vol.below hbR) (by have := M.below.size; simp; omega) HM.out.1 HM.out.2.1 (volMay_texts (volMay_of V hv)).1
      go_wp2_with (go_at_call 78; refine HC.out.mono ?_)
      rintro e w5 ⟨vs5, R, rfl, D⟩
      obtain ⟨rc, rn, rd⟩ := R
      unfold repVal
      have HR := D.rep
      obtain ⟨bx9, bx11, bxs, HFIN⟩ := snap_fin M.vol M.next D hbw3 (by omega) (by omega)
      obtain ⟨a5, c5, hv5⟩ := D.vol.snapsForm
      generalize (if V.snaps.length < 3 then { V with snaps := V.snaps ++ [V.now] } else V).snaps.length = N5 at hv5
      subst hv5
      have HRR : Hid (_ = _) := HR
      have e2' := bxs _ _ _ (by omega) e2
      have e3' := bxs _ _ _ (by omega) e3
      have HF : Hid (VolNew _ _ _ _ ∧ Below _ _ _) := do_fin (HFIN (.slice a5 N5 c5) (.int .i64 rc) (.int .i64 rn) (.string ⟨rd.toArray⟩)).1 (by omega) (HFIN (.slice a5 N5 c5) (.int .i64 rc) (.int .i64 rn) (.string ⟨rd.toArray⟩)).2 (.slice a1 V.now.length c1) (.slice a5 N5 c5) (.int .i64 rc) (.int .i64 rn) (.string ⟨rd.toArray⟩)
      clear x0 x1 x2 x3 y0 y1 f0 f1 z0 z1 z2 g0 g1 g2 n0 n1 n2 n3 HC B11 HR
      obtain ⟨y0, y1⟩ := e2'.c2
      obtain ⟨f0, f1⟩ := e2'.z2
      obtain ⟨z0, z1, z2⟩ := e3'.c3
      obtain ⟨g0, g1, g2⟩ := e3'.z3
      obtain ⟨n0, n1⟩ := bx9.c2
      have n2 := bx9.frozen 1
      obtain ⟨r0, r1, r2⟩ := bx11.c3
      obtain ⟨r3, r4, r5⟩ := bx11.z3
      have u1 : ¬ wc.heap.size = w.heap.size + 1 + 1 := by omega
      have u2 : ¬ wc.heap.size = w.heap.size + 1 + 1 + 1 := by omega
      have u3 : ¬ wc.heap.size = b9 := by omega
      have u4 : ¬ b9 = wc.heap.size := by omega
      have u5 : ¬ b9 = w.heap.size + 1 + 1 := by omega
      have u6 : ¬ b9 = w.heap.size + 1 + 1 + 1 := by omega
      clear M e1 e2 e3 hbw3 hbw2 e2' e3' bx9 bx11 bxs HFIN D hbR
      go_wp2_with fail
      go_region
      all_goals go_wp2_with fail
      all_goals
        rw [hdv.out, hdr.out, ← HRR.out]
        refine bodyPost_ret (v := .tuple #[.agg #[.slice a1 V.now.length c1, .slice a5 N5 c5], .agg #[.int .i64 rc, .int .i64 rn, .string ⟨rd.toArray⟩], .int .i64 0]) ?_ rfl ?_
        · clear HF
          simp [results, Tryz.results50, go_sem, *]
        · exact ⟨_, rfl, HF.out.1.drew, HF.out.2.drew⟩

end Go.Proofs.YtmdgkjbiicaljahGreatDoor
