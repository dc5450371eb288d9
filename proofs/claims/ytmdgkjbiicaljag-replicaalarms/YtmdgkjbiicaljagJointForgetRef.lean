/- The walk of the document's answer KeptFault. -/
import Derived.Test.YtmdgkjbiicaljagJointKeptRead
import Derived.Test.YtmdgkjbiicaljagDecRef
import Derived.Test.YtmdgkjbiicaljagJointNumIs
import Derived.Deep.DeepCutAuto
import Derived.Test.YtmdgkjbiicaljagRowlaw
import Derived.BigQuiet
import Derived.Deep.QuietTactic
import Derived.Test.YtmdgkjbiicaljagJointCopiedStr
namespace Go.Proofs.Ytmdgkjbiicaljag
open Go.RowKit
set_option linter.unusedVariables false
set_option linter.unusedSimpArgs false
attribute [local go_sem] app_list ext_list get_list byteAt_zero

set_option maxHeartbeats 2000000 in
theorem keptFaultOf_any (K : KeptM) (v : Value) (w : World) (h : KeptAt w v K) :
    Calls Try.prog 55 #[v] w fun e w' => e = .returned (.int .i64 (keptFault K)) ∧ Below w.heap.size w w' := by
  obtain ⟨vl, rfl, hs⟩ := h
  obtain ⟨vw, nm, cm, l, ct⟩ := K
  simp only at hs ⊢
  obtain ⟨a, c, rfl, hlx, hcx⟩ := hs
  have b0 := Box.new w 24 [.int .i64 vw, .int .i64 nm, .bool cm, .slice a l.length c, .int .i64 ct]
  have hb := below_alloc w (.cells #[.int .i64 vw, .int .i64 nm, .bool cm, .slice a l.length c, .int .i64 ct] 24)
  obtain ⟨w0, hw0⟩ : ∃ w0, w0 = w.alloc (.cells #[.int .i64 vw, .int .i64 nm, .bool cm, .slice a l.length c, .int .i64 ct] 24) := ⟨_, rfl⟩
  obtain ⟨R, HR⟩ : ∃ R, Hid (keptFault ⟨vw, nm, cm, l, ct⟩ = R) := ⟨_, rfl⟩
  rw [HR.out]
  go_enter Try.func55, Try.ntmps55
  go_upto_region 1 with fail
  rw [← hw0] at b0 hb ⊢
  clear hw0
  have HB0 : Hid (Box w0 w.heap.size _ _) := b0
  have HBW : Hid (Below w.heap.size w w0) := hb
  have x0 := b0.cell 0 _ rfl
  have x1 := b0.cell 1 _ rfl
  have x2 := b0.cell 2 _ rfl
  have x3 := b0.cell 3 _ rfl
  have x4 := b0.cell 4 _ rfl
  clear b0 hb
  go_cut [28] (fun s wx => s = .bool (!keptIn ⟨vw, nm, cm, l, ct⟩) ∧ w0 = wx)
  case first =>
    have q1 : (decide (0 ≤ vw) && decide (vw ≤ 1048576)) = true ∨ (decide (0 ≤ vw) && decide (vw ≤ 1048576)) = false := by cases (decide (0 ≤ vw) && decide (vw ≤ 1048576)) <;> simp
    have q2 : (decide (0 ≤ nm) && decide (nm ≤ vw)) = true ∨ (decide (0 ≤ nm) && decide (nm ≤ vw)) = false := by cases (decide (0 ≤ nm) && decide (nm ≤ vw)) <;> simp
    have HK : Hid (keptIn ⟨vw, nm, cm, l, ct⟩ = ((decide (0 ≤ vw) && decide (vw ≤ 1048576)) && ((decide (0 ≤ nm) && decide (nm ≤ vw)) && !(cm && (nm != vw))))) := rfl
    have HI1 : Hid (∀ w, Calls _ _ _ w _) := fun w => in_any vw 0 1048576 w
    have HI2 : Hid (∀ w, Calls _ _ _ w _) := fun w => in_any nm 0 vw w
    generalize (decide (0 ≤ vw) && decide (vw ≤ 1048576)) = c1 at *
    generalize (decide (0 ≤ nm) && decide (nm ≤ vw)) = c2 at *
    rcases q1 with rfl | rfl
    · rcases q2 with rfl | rfl
      · cases cm
        · go_wp2_with fail
          refine (HI1.out _).mono ?_
          rintro e w1 ⟨rfl, rfl⟩
          go_wp2_with fail
          refine (HI2.out _).mono ?_
          rintro e w1 ⟨rfl, rfl⟩
          go_wp2_with fail
          go_meet
          exact ⟨by rw [HK.out]; rfl, rfl⟩
        · go_wp2_with fail
          refine (HI1.out _).mono ?_
          rintro e w1 ⟨rfl, rfl⟩
          go_wp2_with fail
          refine (HI2.out _).mono ?_
          rintro e w1 ⟨rfl, rfl⟩
          go_wp2_with fail
          go_meet
          exact ⟨by rw [HK.out]; simp, rfl⟩
      · go_wp2_with fail
        refine (HI1.out _).mono ?_
        rintro e w1 ⟨rfl, rfl⟩
        go_wp2_with fail
        refine (HI2.out _).mono ?_
        rintro e w1 ⟨rfl, rfl⟩
        go_wp2_with fail
        go_meet
        exact ⟨by rw [HK.out]; simp, rfl⟩
    · go_wp2_with fail
      refine (HI1.out _).mono ?_
      rintro e w1 ⟨rfl, rfl⟩
      go_wp2_with fail
      go_meet
      exact ⟨by rw [HK.out]; simp, rfl⟩
  case rest =>
    obtain ⟨rfl, rfl⟩ := hcut
    have qk : keptIn ⟨vw, nm, cm, l, ct⟩ = true ∨ keptIn ⟨vw, nm, cm, l, ct⟩ = false := by cases keptIn ⟨vw, nm, cm, l, ct⟩ <;> simp
    have HK : Hid (keptFault ⟨vw, nm, cm, l, ct⟩ = if keptIn ⟨vw, nm, cm, l, ct⟩ = true then (if 60 < l.length then 1 else if 0 ≤ ct ∧ ct ≤ l.length then logE l else 2) else 2) := rfl
    rw [HR.out] at HK
    generalize keptIn ⟨vw, nm, cm, l, ct⟩ = ki at *
    rcases qk with rfl | rfl
    · by_cases h60 : 60 < l.length
      · have HE : Hid (R = 1) := by have := HK.out; rw [if_pos rfl, if_pos h60] at this; exact this
        have q60 : decide ((60 : Int) < (l.length : Int)) = true := by simp; omega
        clear h60
        go_wp2_with fail
        go_ret
        exact ⟨by rw [HE.out]; rfl, HBW.out⟩
      · have q60 : decide ((60 : Int) < (l.length : Int)) = false := by simp; omega
        have HI3 : Hid (∀ w, Calls _ _ _ w _) := fun w => in_any ct 0 l.length w
        have qc : (decide (0 ≤ ct) && decide (ct ≤ (l.length : Int))) = true ∨ (decide (0 ≤ ct) && decide (ct ≤ (l.length : Int))) = false := by cases (decide (0 ≤ ct) && decide (ct ≤ (l.length : Int))) <;> simp
        have HC : Hid (R = if (decide (0 ≤ ct) && decide (ct ≤ (l.length : Int))) = true then logE l else 2) := by
          have := HK.out
          rw [if_pos rfl, if_neg h60] at this
          unfold Hid
          rw [this]
          simp
        generalize (decide (0 ≤ ct) && decide (ct ≤ (l.length : Int))) = cc at *
        rcases qc with rfl | rfl
        · have HE : Hid (R = logE l) := by have := HC.out; rw [if_pos rfl] at this; exact this
          have hl60 : l.length ≤ 60 := by omega
          have HI : Hid (Below w.heap.size w w0 ∧ Box w0 w.heap.size 24 [.int .i64 vw, .int .i64 nm, .bool cm, .slice a l.length c, .int .i64 ct]) := ⟨HBW.out, HB0.out⟩
          clear HK HC h60 HB0 HBW
          go_wp2_with fail
          refine (HI3.out _).mono ?_
          rintro e w1 ⟨rfl, rfl⟩
          go_wp2_with fail
          go_loopw [3] (fun i wr => ∃ k : Nat, k ≤ l.length ∧ i = .int .i64 k ∧ logE (l.take k) = 0 ∧ Below w.heap.size w wr ∧ Box wr w.heap.size 24 [.int .i64 vw, .int .i64 nm, .bool cm, .slice a l.length c, .int .i64 ct]) (fun i wr => l.length - (intOf i).toNat)
          case atStart => exact ⟨0, by omega, rfl, rfl, HI.out.1, HI.out.2⟩
          case round =>
            clear HI x0 x1 x2 x3 x4
            obtain ⟨k, hk, rfl, hg, hbr, hbx⟩ := hrel
            have x3 := hbx.cell 3 _ rfl
            have lx := hbx.lt
            by_cases hlt : k < l.length
            · obtain ⟨b, o, rfl, h1, h2⟩ := hcx k hlt
              have hbl := lt_of_cell h1
              have t0 := (hbr.cell (p := ⟨b, _, none⟩) hbl).trans h1
              have hbr' : b < wr.heap.size := by have := hbr.size; omega
              have HG : Hid (logE (l.take (k + 1)) = decE (l.getD k [])) := by
                unfold Hid
                rw [List.take_succ_eq_append_getElem hlt, logE_snoc, if_pos hg, show l.getD k [] = l[k] by simp [List.getD, hlt]]
              have HST : Hid (logE (l.take (k + 1)) ≠ 0 → logE l = logE (l.take (k + 1))) := logE_stop l (k + 1)
              have HBR : Hid (Below w.heap.size w wr) := hbr
              have HBX : Hid (Box wr w.heap.size _ _) := hbx
              have k0 : (0 : Int) ≤ (k : Int) := by omega
              have k1 : (k : Int) < (l.length : Int) := by omega
              have HEN : Hid (∀ w, Calls _ _ _ w _) := fun w => entryOf_any (l.getD k []) w (by omega)
              clear h1 h2 hcx hbr hbx hg
              generalize l.getD k [] = s at *
              generalize decR s = r at HEN
              obtain ⟨D, HD⟩ : ∃ D, Hid (decE s = D) := ⟨_, rfl⟩
              rw [HD.out] at HEN HG
              obtain ⟨c', n', k', p', sn', d'⟩ := r
              unfold reqVal at HEN
              by_cases hd : D = 0
              · subst hd
                go_wp2_with fail
                refine (HEN.out _).mono ?_
                rintro e w2 ⟨rfl, hb2⟩
                have HN : Hid (Below w.heap.size w _) := Below.up (Below.far HBR.out hb2) (.cells #[.int .i64 c', .int .i64 n', .int .i64 k', .int .i64 p', .int .i64 sn', .string ⟨d'.toArray⟩] 59)
                have HX : Hid (Box _ w.heap.size _ _) := (HBX.out.below hb2 HBX.out.lt).alloc (.cells #[.int .i64 c', .int .i64 n', .int .i64 k', .int .i64 p', .int .i64 sn', .string ⟨d'.toArray⟩] 59)
                clear hb2 t0 x3 HBX HEN
                go_wp2_with fail
                go_roundw
                case rel => exact ⟨k + 1, by omega, by go_num, HG.out, HN.out, HX.out⟩
                case measure => simp [intOf]; omega
              · have t1 : (D == 0) = false := by simpa using hd
                have t2 : (D != 0) = true := by simpa using hd
                have HF : Hid (logE l = D) := by
                  have := HST.out (by rw [HG.out]; exact hd)
                  unfold Hid
                  rw [this, HG.out]
                go_wp2_with fail
                refine (HEN.out _).mono ?_
                rintro e w2 ⟨rfl, hb2⟩
                have HN : Hid (Below w.heap.size w _) := Below.up (Below.far HBR.out hb2) (.cells #[.int .i64 c', .int .i64 n', .int .i64 k', .int .i64 p', .int .i64 sn', .string ⟨d'.toArray⟩] 59)
                clear hb2 t0 x3 HBX HEN hd
                go_wp2_with fail
                go_ret
                exact ⟨by rw [HE.out, HF.out]; rfl, HN.out⟩
            · obtain rfl : k = l.length := by omega
              have HG : Hid (logE l = 0) := by unfold Hid; rw [List.take_length] at hg; exact hg
              have HBR : Hid (Below w.heap.size w wr) := hbr
              clear hcx hg hbr hbx
              go_wp2_with fail
              go_ret
              exact ⟨by rw [HE.out, HG.out]; rfl, HBR.out⟩
        · have HE : Hid (R = 2) := by have := HC.out; unfold Hid; simpa using this
          clear HK HC h60
          go_wp2_with fail
          refine (HI3.out _).mono ?_
          rintro e w1 ⟨rfl, rfl⟩
          go_wp2_with fail
          go_ret
          exact ⟨by rw [HE.out]; rfl, HBW.out⟩
    · have HE : Hid (R = 2) := by have := HK.out; unfold Hid; simpa using this
      clear HK
      go_wp2_with fail
      go_ret
      exact ⟨by rw [HE.out]; rfl, HBW.out⟩

end Go.Proofs.Ytmdgkjbiicaljag

/- The walk of the document's answer KeptCopy. -/
namespace Go.Proofs.Ytmdgkjbiicaljag
open Go.RowKit
set_option linter.unusedVariables false
set_option linter.unusedSimpArgs false
attribute [local go_sem] app_list ext_list get_list byteAt_zero

set_option maxHeartbeats 1000000 in
theorem keptCopyOf_any (K : KeptM) (v : Value) (w : World) (h : KeptAt w v K) (hf : K.log.length * 16 ≤ 140737488355328) :
    Calls Try.prog 18 #[v] w fun e w' => ∃ v', e = .returned v' ∧ KeptNew w' w.heap.size v' K ∧ Below w.heap.size w w' := by
  obtain ⟨vl, rfl, hs⟩ := h
  obtain ⟨vw, nm, cm, l, ct⟩ := K
  simp only at hs hf ⊢
  have HS : Hid (Strs w vl l) := hs
  obtain ⟨a, c, rfl, hlx, hcx⟩ := hs
  obtain ⟨b0, b1, hb⟩ := boxes2 w 24 24 [.int .i64 vw, .int .i64 nm, .bool cm, .slice a l.length c, .int .i64 ct] [.int .i64 0, .int .i64 0, .bool false, .slice none 0 0, .int .i64 0]
  obtain ⟨w0, hw0⟩ : ∃ w0, w0 = (w.alloc (.cells #[.int .i64 vw, .int .i64 nm, .bool cm, .slice a l.length c, .int .i64 ct] 24)).alloc (.cells #[.int .i64 0, .int .i64 0, .bool false, .slice none 0 0, .int .i64 0] 24) := ⟨_, rfl⟩
  have HSZ : Hid (w0.heap.size = w.heap.size + 1 + 1) := by unfold Hid; rw [hw0]; simp
  go_enter Try.func18, Try.ntmps18
  go_upto_region 1 with fail
  rw [← hw0] at b0 b1 hb ⊢
  clear hw0
  have x3 := b0.cell 3 _ rfl
  have HR : Hid (RowAt w0 (.slice a l.length c) l.length 1 (l.map enc)) := (HS.out.below hb).row
  have HB0 : Hid (Box w0 w.heap.size _ _) := b0
  have HB1 : Hid (Box w0 (w.heap.size + 1) _ _) := b1
  have HBW : Hid (Below w.heap.size w w0) := hb
  clear b0 b1 hb hcx
  go_wp2_with (at_builtin; refine wpList_append_row _ rfl _ _ 22 rfl w0.heap.size 9 Try.t9 _ 1 16 Try.underlying22 infoStr zeroStr sizeStr bytesStr rfl (by decide) _ 0 [] rfl (World.ownsRow_nil _ _ _ _) _ l.length (l.map enc) rfl HR.out (by intro u hu; obtain ⟨x, _, rfl⟩ := List.mem_map.1 hu; rfl) (by unfold maxLen; omega) (by omega) (Nat.le_refl _) ?_)
  intro v5 wB hownB hgB hatB
  try rw [Nat.zero_add, List.nil_append] at hownB
  have hsz := HSZ.out
  have hbB : Below w0.heap.size w0 wB := (Below.refl _ _).grown hgB (Nat.le_refl _) (fun k e => by cases e)
  obtain ⟨a5, c5, rfl⟩ := own_formN hownB
  have e0 := HB0.out.below hbB HB0.out.lt
  have e1 := HB1.out.below hbB HB1.out.lt
  have hbb := Below.far HBW.out hbB
  clear x3 hgB hatB HR HS
  have x0 := e0.cell 0 _ rfl
  have x1 := e0.cell 1 _ rfl
  have x2 := e0.cell 2 _ rfl
  have x3 := e0.cell 3 _ rfl
  have x4 := e0.cell 4 _ rfl
  have z3 := e0.frozen 3
  have y0 := e1.cell 0 _ rfl
  have y1 := e1.cell 1 _ rfl
  have y2 := e1.cell 2 _ rfl
  have y3 := e1.cell 3 _ rfl
  have y4 := e1.cell 4 _ rfl
  have f0 := e1.frozen 0
  have f1 := e1.frozen 1
  have f2 := e1.frozen 2
  have f3 := e1.frozen 3
  have f4 := e1.frozen 4
  have HN : Hid (KeptNew _ w.heap.size _ ⟨vw, nm, cm, l, ct⟩) := (((((((show KeptNew wB w0.heap.size (.agg #[.int .i64 vw, .int .i64 nm, .bool cm, .slice a5 l.length c5, .int .i64 ct]) ⟨vw, nm, cm, l, ct⟩ from ⟨_, rfl, hownB⟩).other (a := ⟨w.heap.size, 3, none⟩) (by simp; omega) (.slice a5 l.length c5)).other (a := ⟨w.heap.size + 1, 0, none⟩) (by simp; omega) (.int .i64 vw)).other (a := ⟨w.heap.size + 1, 1, none⟩) (by simp; omega) (.int .i64 nm)).other (a := ⟨w.heap.size + 1, 2, none⟩) (by simp; omega) (.bool cm)).other (a := ⟨w.heap.size + 1, 3, none⟩) (by simp; omega) (.slice a5 l.length c5)).other (a := ⟨w.heap.size + 1, 4, none⟩) (by simp; omega) (.int .i64 ct)).base (by omega)
  have HB : Hid (Below w.heap.size w _) := (((((hbb.setCell (p := ⟨w.heap.size, 3, none⟩) (by simp) (.slice a5 l.length c5)).setCell (p := ⟨w.heap.size + 1, 0, none⟩) (by simp) (.int .i64 vw)).setCell (p := ⟨w.heap.size + 1, 1, none⟩) (by simp) (.int .i64 nm)).setCell (p := ⟨w.heap.size + 1, 2, none⟩) (by simp) (.bool cm)).setCell (p := ⟨w.heap.size + 1, 3, none⟩) (by simp) (.slice a5 l.length c5)).setCell (p := ⟨w.heap.size + 1, 4, none⟩) (by simp) (.int .i64 ct)
  clear hownB hbB e0 e1 hbb HB0 HB1 HBW hsz HSZ
  go_wp2_with fail
  refine bodyPost_ret (v := .agg #[.int .i64 vw, .int .i64 nm, .bool cm, .slice a5 l.length c5, .int .i64 ct]) ?_ rfl ⟨_, rfl, HN.out, HB.out⟩
  clear HN HB
  simp [results, Try.results18, go_sem, *]

end Go.Proofs.Ytmdgkjbiicaljag

/- The document's forgotten and ReplicaOf. -/
namespace Go.Proofs.Ytmdgkjbiicaljag
open Go.RowKit
set_option linter.unusedVariables false
set_option linter.unusedSimpArgs false
attribute [local go_sem] mkInts mkBools mkKepts

theorem mk_store {w : World} {b : Nat} {cs : List Value} (t : TypeId) (zs : List Value) (i : Nat) (hx : Box w b 29 cs) :
    Box ((w.setCell ⟨b, i, none⟩ (.slice (some ⟨w.heap.size, 0, none⟩) 3 3)).alloc (.cells zs.toArray t)) b 29 (cs.set i (row3 w.heap.size)) ∧ Box ((w.setCell ⟨b, i, none⟩ (.slice (some ⟨w.heap.size, 0, none⟩) 3 3)).alloc (.cells zs.toArray t)) w.heap.size t zs ∧
    ((w.setCell ⟨b, i, none⟩ (.slice (some ⟨w.heap.size, 0, none⟩) 3 3)).alloc (.cells zs.toArray t)).heap.size > w.heap.size ∧ Beside w.heap.size b w ((w.setCell ⟨b, i, none⟩ (.slice (some ⟨w.heap.size, 0, none⟩) 3 3)).alloc (.cells zs.toArray t)) := by
  have lb := hx.lt
  have hn := Box.new (w.setCell ⟨b, i, none⟩ (.slice (some ⟨w.heap.size, 0, none⟩) 3 3)) t zs
  rw [show (w.setCell ⟨b, i, none⟩ (.slice (some ⟨w.heap.size, 0, none⟩) 3 3)).heap.size = w.heap.size from by simp] at hn
  exact ⟨(hx.set i _).alloc _, hn, by simp, ((Beside.refl w.heap.size b w).setCell (Or.inl rfl) _).alloc (Nat.le_refl _) _⟩

set_option maxRecDepth 4000 in
set_option maxHeartbeats 2000000 in
theorem forgotten_any (b : Nat) (c0 c1 c2 c3 c4 c5 c6 c7 c8 c9 : Value) (w : World) (hx : Box w b 29 [c0, c1, c2, c3, c4, c5, c6, c7, c8, c9]) :
    Calls Try.prog 56 #[.pointer (some ⟨b, 0, none⟩)] w fun e w' => ∃ bh bw bg bn, e = .returned (.tuple #[]) ∧ Four w.heap.size w' bh bw bg bn ∧ Box w' b 29 [c0, c1, c2, c3, c4, c5, row3 bh, row3 bw, row3 bg, row3 bn] ∧ Beside w.heap.size b w w' := by
  have lb := hx.lt
  have x6 := hx.cell 6 _ rfl
  have f6 := hx.frozen 6
  have n0 : ¬ b = w.heap.size := by omega
  have m1 := mk_store 3 [.int .i64 0, .int .i64 0, .int .i64 0] 6 hx
  obtain ⟨w1, hw1⟩ : ∃ w1, w1 = (w.setCell ⟨b, 6, none⟩ (.slice (some ⟨w.heap.size, 0, none⟩) 3 3)).alloc (.cells #[.int .i64 0, .int .i64 0, .int .i64 0] 3) := ⟨_, rfl⟩
  have M1 : Hid _ := m1
  clear m1
  have HX : Hid (Box w b _ _) := hx
  clear hx
  go_enter Try.func56, Try.ntmps56
  go_upto_region 1 with fail
  rw [← hw1]
  have m1 := M1.out
  rw [show (w.setCell ⟨b, 6, none⟩ (.slice (some ⟨w.heap.size, 0, none⟩) 3 3)).alloc (.cells [.int .i64 0, .int .i64 0, .int .i64 0].toArray 3) = w1 from hw1.symm] at m1
  clear hw1 M1 x6 f6
  obtain ⟨p1, q1, z1, s1⟩ := m1
  have p1 : Box w1 b 29 [c0, c1, c2, c3, c4, c5, row3 w.heap.size, c7, c8, c9] := p1
  have x7 := p1.cell 7 _ rfl
  have f7 := p1.frozen 7
  have n1 : ¬ b = w1.heap.size := by omega
  have lb1 : b < w1.heap.size := by omega
  have m2 := mk_store 4 [.bool false, .bool false, .bool false] 7 p1
  obtain ⟨w2, hw2⟩ : ∃ w2, w2 = (w1.setCell ⟨b, 7, none⟩ (.slice (some ⟨w1.heap.size, 0, none⟩) 3 3)).alloc (.cells #[.bool false, .bool false, .bool false] 4) := ⟨_, rfl⟩
  have M2 : Hid _ := m2
  have Z1 : Hid (w1.heap.size > w.heap.size) := z1
  have P1 : Hid (Box w1 b _ _) := p1
  have Q1 : Hid (Box w1 w.heap.size _ _) := q1
  have S1 : Hid (Beside w.heap.size b w w1) := s1
  clear m2 z1 p1 q1 s1
  go_upto_region 2 with fail
  rw [← hw2]
  have m2 := M2.out
  rw [show (w1.setCell ⟨b, 7, none⟩ (.slice (some ⟨w1.heap.size, 0, none⟩) 3 3)).alloc (.cells [.bool false, .bool false, .bool false].toArray 4) = w2 from hw2.symm] at m2
  clear hw2 M2 x7 f7
  obtain ⟨p2, q2, z2, s2⟩ := m2
  have p2 : Box w2 b 29 [c0, c1, c2, c3, c4, c5, row3 w.heap.size, row3 w1.heap.size, c8, c9] := p2
  have x8 := p2.cell 8 _ rfl
  have f8 := p2.frozen 8
  have hz1 := Z1.out
  have n2 : ¬ b = w2.heap.size := by omega
  have lb2 : b < w2.heap.size := by omega
  have m3 := mk_store 24 zK 8 p2
  obtain ⟨w3, hw3⟩ : ∃ w3, w3 = (w2.setCell ⟨b, 8, none⟩ (.slice (some ⟨w2.heap.size, 0, none⟩) 3 3)).alloc (.cells #[.int .i64 0, .int .i64 0, .bool false, .slice none 0 0, .int .i64 0, .int .i64 0, .int .i64 0, .bool false, .slice none 0 0, .int .i64 0, .int .i64 0, .int .i64 0, .bool false, .slice none 0 0, .int .i64 0] 24) := ⟨_, rfl⟩
  have M3 : Hid _ := m3
  have Z2 : Hid (w2.heap.size > w1.heap.size) := z2
  have P2 : Hid (Box w2 b _ _) := p2
  have Q2 : Hid (Box w2 w1.heap.size _ _) := q2
  have S2 : Hid (Beside w1.heap.size b w1 w2) := s2
  clear m3 z2 p2 q2 s2 hz1
  go_upto_region 3 with fail
  rw [← hw3]
  have m3 := M3.out
  rw [show (w2.setCell ⟨b, 8, none⟩ (.slice (some ⟨w2.heap.size, 0, none⟩) 3 3)).alloc (.cells zK.toArray 24) = w3 from hw3.symm] at m3
  clear hw3 M3 x8 f8
  obtain ⟨p3, q3, z3, s3⟩ := m3
  have p3 : Box w3 b 29 [c0, c1, c2, c3, c4, c5, row3 w.heap.size, row3 w1.heap.size, row3 w2.heap.size, c9] := p3
  have x9 := p3.cell 9 _ rfl
  have f9 := p3.frozen 9
  have hz1 := Z1.out
  have hz2 := Z2.out
  have n3 : ¬ b = w3.heap.size := by omega
  have lb3 : b < w3.heap.size := by omega
  have M4 : Hid _ := mk_store 4 [.bool false, .bool false, .bool false] 9 p3
  have Z3 : Hid (w3.heap.size > w2.heap.size) := z3
  have Q3 : Hid (Box w3 w2.heap.size _ _) := q3
  have S3 : Hid (Beside w2.heap.size b w2 w3) := s3
  clear z3 p3 q3 s3 hz1 hz2
  go_wp2_with fail
  go_end0
  obtain ⟨p4, q4, z4, s4⟩ := M4.out
  have hz1 := Z1.out
  have hz2 := Z2.out
  have hz3 := Z3.out
  refine ⟨w.heap.size, w1.heap.size, w2.heap.size, w3.heap.size, rfl, ⟨by omega, Nat.le_refl _, by omega, by omega, by omega, ?_, ?_, ?_, q4⟩, p4, ?_⟩
  · exact ((Q1.out.beside S2.out (by omega) (by omega)).beside S3.out (by omega) (by omega)).beside s4 (by omega) (by omega)
  · exact (Q2.out.beside S3.out (by omega) (by omega)).beside s4 (by omega) (by omega)
  · exact Q3.out.beside s4 (by omega) (by omega)
  · exact ((S1.out.trans (S2.out.mono (by omega))).trans (S3.out.mono (by omega))).trans (s4.mono (by omega))

end Go.Proofs.Ytmdgkjbiicaljag
