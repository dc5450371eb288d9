/- Bytes just laid and turned into a string. -/
import Derived.Test.YtmdgkjbiicaljagDoorJointRegRow
import Derived.Laws.BytesString
import Derived.Test.YtmdgkjbiicaljagDoorJointMachMath
import Derived.BigQuiet
import Derived.Deep.QuietTactic
import Derived.Laws.BitsLemmas
import Derived.Test.YtmdgkjbiicaljagDoorJointCodecIs
import Derived.Test.YtmdgkjbiicaljagDoorJointStageMem
import Derived.Test.YtmdgkjbiicaljagDoorReqsWalk
import Derived.Test.YtmdgkjbiicaljagDoorMachGoDec
namespace Go.Proofs.YtmdgkjbiicaljagDoor
open Go.RowKit

theorem foldl_push_bytes : ∀ (l : List Int) (r : ByteArray), l.foldl (fun r n => r.push (UInt8.ofNat n.toNat)) r = ⟨r.data ++ (l.map fun n => UInt8.ofNat n.toNat).toArray⟩
  | [], r => by simp
  | b :: l, r => by
    simp only [List.foldl_cons]
    rw [foldl_push_bytes l]
    simp [ByteArray.push]

theorem conv_new (w : World) (g : Nat) (ns : List Int) (cap : Nat) (hg : g = w.heap.size) :
    (convert 77 9 (.slice (some ⟨g, 0, none⟩) ns.length cap)).run Tryd.prog (w.alloc (.cells (ns.map (Value.int .u8)).toArray 5)) = .ok (.string ⟨(ns.map fun n => UInt8.ofNat n.toNat).toArray⟩) (w.alloc (.cells (ns.map (Value.int .u8)).toArray 5)) := by
  subst hg
  rw [run_convert_bytes_string _ 77 9 5 _ _ _ Tryd.underlying77 Tryd.underlying5 Tryd.underlying9]
  have hl := run_loadCells_list (P := Tryd.prog) (w.alloc (.cells (ns.map (Value.int .u8)).toArray 5)) ⟨w.heap.size, 0, none⟩ (ns.map (Value.int .u8)) (fun j v hj => by
    have e : (Addr.add ⟨w.heap.size, 0, none⟩ j) = ⟨w.heap.size, j, none⟩ := by simp [Addr.add]; omega
    rw [e, World.cell?_alloc_new]
    simpa using hj)
  simp only [List.length_map] at hl
  rw [run_bytesToString _ _ ns.length cap _ hl, foldl_push_bytes]
  have he0 : ByteArray.empty.data = #[] := rfl
  rw [he0]
  simp

theorem conv1 (w : World) (g : Nat) (a : Int) (hg : g = w.heap.size) :
    (convert 77 9 (.slice (some ⟨g, 0, none⟩) 1 1)).run Tryd.prog (w.alloc (.cells #[.int .u8 a] 5)) = .ok (.string ⟨#[UInt8.ofNat a.toNat]⟩) (w.alloc (.cells #[.int .u8 a] 5)) := by
  have := conv_new w g [a] 1 hg
  simpa using this

theorem conv2 (w : World) (g : Nat) (a b : Int) (hg : g = w.heap.size) :
    (convert 77 9 (.slice (some ⟨g, 0, none⟩) 2 2)).run Tryd.prog (w.alloc (.cells #[.int .u8 a, .int .u8 b] 5)) = .ok (.string ⟨#[UInt8.ofNat a.toNat, UInt8.ofNat b.toNat]⟩) (w.alloc (.cells #[.int .u8 a, .int .u8 b] 5)) := by
  have := conv_new w g [a, b] 2 hg
  simpa using this

theorem conv4 (w : World) (g : Nat) (a b c d : Int) (hg : g = w.heap.size) :
    (convert 77 9 (.slice (some ⟨g, 0, none⟩) 4 4)).run Tryd.prog (w.alloc (.cells #[.int .u8 a, .int .u8 b, .int .u8 c, .int .u8 d] 5)) = .ok (.string ⟨#[UInt8.ofNat a.toNat, UInt8.ofNat b.toNat, UInt8.ofNat c.toNat, UInt8.ofNat d.toNat]⟩) (w.alloc (.cells #[.int .u8 a, .int .u8 b, .int .u8 c, .int .u8 d] 5)) := by
  have := conv_new w g [a, b, c, d] 4 hg
  simpa using this

end Go.Proofs.YtmdgkjbiicaljagDoor

/- The walks of package codec, but for Seal: each function answers what the plain mathematics says. -/
namespace Go.Proofs.YtmdgkjbiicaljagDoor
open Go.RowKit
set_option linter.unusedVariables false

attribute [local go_sem] app_list ext_list get_list byteAt_zero

set_option maxHeartbeats 400000 in
theorem pair_any (n : Int) (w : World) (h0 : 0 ≤ n) (h1 : n ≤ 1073741824) :
    Calls Tryd.prog 56 #[.int .i64 n] w fun e w' => e = .returned (.string ⟨[b8 (n / 256), b8 n].toArray⟩) ∧ Below w.heap.size w w' := by
  have kc := conv2
  go_enter Tryd.func56, Tryd.ntmps56
  go_wp2
  go_ret
  exact ⟨rfl, below_alloc _ _⟩

set_option maxHeartbeats 400000 in
theorem number_ok (n : Int) (w : World) (h0 : 0 ≤ n) (h1 : n ≤ 1073741824) :
    Calls Tryd.prog 35 #[.int .i64 n] w fun e w' => e = .returned (.tuple #[.string ⟨(numBytes n).toArray⟩, .int .i64 0]) ∧ Below w.heap.size w w' := by
  go_enter Tryd.func35, Tryd.ntmps35
  go_wp2_with fail
  refine (pair_any _ _ (by omega) (by omega)).mono ?_
  rintro e w1 ⟨rfl, hb1⟩
  go_wp2_with fail
  refine (pair_any _ _ (by omega) (by omega)).mono ?_
  rintro e w2 ⟨rfl, hb2⟩
  go_wp2_with fail
  go_ret2
  refine ⟨?_, Below.seq hb1 hb2⟩
  have e1 : n / 65536 / 256 = n / 16777216 := by omega
  simp [numBytes, e1]

set_option maxHeartbeats 400000 in
theorem number_no (n : Int) (w : World) (h : n < 0 ∨ 1073741824 < n) :
    Calls Tryd.prog 35 #[.int .i64 n] w fun e w' => e = .returned (.tuple #[.string ⟨[].toArray⟩, .int .i64 2]) ∧ Below w.heap.size w w' := by
  rcases h with h | h
  · go_enter Tryd.func35, Tryd.ntmps35
    go_wp2_with fail
    go_ret2
    exact ⟨rfl, Below.refl _ _⟩
  · have h' : ¬ n < 0 := by omega
    go_enter Tryd.func35, Tryd.ntmps35
    go_wp2_with fail
    go_ret2
    exact ⟨rfl, Below.refl _ _⟩

set_option maxHeartbeats 400000 in
theorem text_ok (l : List UInt8) (w : World) (h : l.length ≤ 255) :
    Calls Tryd.prog 36 #[.string ⟨l.toArray⟩] w fun e w' => e = .returned (.tuple #[.string ⟨(b8 l.length :: l).toArray⟩, .int .i64 0]) ∧ Below w.heap.size w w' := by
  have kc := conv1
  go_enter Tryd.func36, Tryd.ntmps36
  go_wp2
  go_ret2
  refine ⟨?_, below_alloc _ _⟩
  have e1 : ((l.length : Int) % 256).toNat = l.length := by omega
  simp [b8, e1]

set_option maxHeartbeats 400000 in
theorem text_no (l : List UInt8) (w : World) (h : 255 < l.length) (h1 : l.length ≤ 281474976710656) :
    Calls Tryd.prog 36 #[.string ⟨l.toArray⟩] w fun e w' => e = .returned (.tuple #[.string ⟨[].toArray⟩, .int .i64 1]) ∧ Below w.heap.size w w' := by
  go_enter Tryd.func36, Tryd.ntmps36
  go_wp2
  go_ret2
  exact ⟨rfl, Below.refl _ _⟩

end Go.Proofs.YtmdgkjbiicaljagDoor

/- The program's own machine.Encode. -/
namespace Go.Proofs.YtmdgkjbiicaljagDoor
open Go.RowKit
set_option linter.unusedVariables false
set_option linter.unusedSimpArgs false
attribute [local go_sem] app_list ext_list get_list byteAt_zero length_num

theorem b8_mod (n : Int) : UInt8.ofNat (n % 256).toNat = b8 n := rfl

set_option maxHeartbeats 1000000 in
theorem machEnc_any (r : ReqM) (w : World) (hl : r.op.data.length ≤ 281474976710656) :
    Calls Tryd.prog 22 #[reqVal r] w fun e w' => e = .returned (.tuple #[.string ⟨(encS r).toArray⟩, .int .i64 (reqFault r)]) ∧ Below w.heap.size w w' := by
  have HR : Hid (∀ w, Calls _ _ _ w _) := fun w => machReq_any r w hl
  by_cases h0 : reqFault r = 0
  · have hm := reqMay_of r h0
    have hom := opMay_of r.op hm.2.2
    have HE : Hid (encS r = entryB r) := by unfold Hid encS; rw [if_pos h0]
    have H0 : Hid (reqFault r = 0) := h0
    obtain ⟨c, n, k, p, s, d⟩ := r
    simp only at hm hom
    unfold reqVal at *
    rw [h0] at HR
    have HN : Hid (∀ w, Calls _ _ _ w _) := fun w => number_ok n w (by omega) (by omega)
    have HT : Hid (∀ w, Calls _ _ _ w _) := fun w => text_ok d w (by omega)
    have B0 := Box.new w 58 [.int .i64 c, .int .i64 n, .int .i64 k, .int .i64 p, .int .i64 s, .string ⟨d.toArray⟩]
    have kc4 := conv4
    obtain ⟨hm1, hm2, _⟩ := hm
    clear h0
    go_enter Tryd.func22, Tryd.ntmps22
    go_wp2_with fail
    refine (HR.out _).mono ?_
    rintro e w1 ⟨rfl, hb1⟩
    have B1 := B0.below hb1 B0.lt
    have y1 := B1.cell 1 _ rfl
    go_wp2_with fail
    refine (HN.out _).mono ?_
    rintro e w2 ⟨rfl, hb2⟩
    have B2 := B1.below hb2 B1.lt
    clear y1
    have y5 := B2.cell 5 _ rfl
    go_wp2_with fail
    refine (HT.out _).mono ?_
    rintro e w3 ⟨rfl, hb3⟩
    have B3 := B2.below hb3 B2.lt
    clear y5
    have y0 := B3.cell 0 _ rfl
    have y2 := B3.cell 2 _ rfl
    have y3 := B3.cell 3 _ rfl
    have y4 := B3.cell 4 _ rfl
    have l2 := B3.lt
    have HB : Hid (Below w.heap.size w w3) := Below.seq (Below.seq (Below.seq (below_alloc w _) hb1) hb2) hb3
    clear B0 B1 B2 B3 hb1 hb2 hb3
    go_wp2_with fail
    go_ret2
    rw [HE.out, H0.out]
    refine ⟨?_, HB.out.trans ((below_alloc _ _).mono HB.out.size)⟩
    unfold entryB
    rw [← b8_mod c, ← b8_mod k, ← b8_mod p, ← b8_mod s]
    have e : ∀ n : Int, 0 ≤ n → n ≤ 255 → n % 256 = n := fun n _ _ => by omega
    rw [e c (by omega) (by omega), e k (by omega) (by omega), e p (by omega) (by omega), e s (by omega) (by omega)]
    simp
  · have HE : Hid (encS r = []) := by unfold Hid encS; rw [if_neg h0]
    obtain ⟨x, hx⟩ : ∃ x, reqFault r = x := ⟨_, rfl⟩
    have HX : Hid (reqFault r = x) := hx
    rw [hx] at HR h0
    clear hx
    have t1 : (x == 0) = false := by simpa using h0
    have t2 : (x != 0) = true := by simpa using h0
    unfold reqVal at *
    go_enter Tryd.func22, Tryd.ntmps22
    go_wp2_with fail
    refine (HR.out _).mono ?_
    rintro e w1 ⟨rfl, hb1⟩
    have HB : Hid (Below w.heap.size w w1) := Below.seq (below_alloc w _) hb1
    clear hb1
    go_wp2_with fail
    go_ret2
    rw [HE.out, HX.out]
    exact ⟨rfl, HB.out⟩

end Go.Proofs.YtmdgkjbiicaljagDoor

/- What the program's package machine answers, beside the walk of the laws' Requests. -/
namespace Go.Proofs.YtmdgkjbiicaljagDoor
end Go.Proofs.YtmdgkjbiicaljagDoor

/- A request is read as it was written; cut short, or longer, it is not. -/
namespace Go.Proofs.YtmdgkjbiicaljagDoor

theorem byte_in (n : Int) (h0 : 0 ≤ n) (h1 : n ≤ 255) : ((b8 n).toNat : Int) = n := by rw [b8_toNat]; omega

theorem entryB_len (r : ReqM) : (entryB r).length = 9 + r.op.data.length := by
  simp [entryB, length_num]; omega

theorem entryB_drop (r : ReqM) : (entryB r).drop 4 = numBytes r.num ++ (b8 r.op.data.length :: r.op.data) := rfl

theorem entryB_bytes (r : ReqM) (t : List UInt8) (h : reqFault r = 0) : byteAt (entryB r ++ t) 0 = r.client ∧ byteAt (entryB r ++ t) 1 = r.op.kind ∧ byteAt (entryB r ++ t) 2 = r.op.place ∧ byteAt (entryB r ++ t) 3 = r.op.snap := by
  have hr := reqMay_of r h
  have ho := opMay_of r.op hr.2.2
  refine ⟨?_, ?_, ?_, ?_⟩
  · show ((b8 r.client).toNat : Int) = _; exact byte_in _ (by omega) (by omega)
  · show ((b8 r.op.kind).toNat : Int) = _; exact byte_in _ (by omega) (by omega)
  · show ((b8 r.op.place).toNat : Int) = _; exact byte_in _ (by omega) (by omega)
  · show ((b8 r.op.snap).toNat : Int) = _; exact byte_in _ (by omega) (by omega)

theorem numE_num (n : Int) (h0 : 0 ≤ n) (h1 : n ≤ 1073741824) (s : List UInt8) : numE (numBytes n ++ s) = 0 ∧ numV (numBytes n ++ s) = n ∧ numR (numBytes n ++ s) = s := by
  have hl : ¬ (numBytes n ++ s).length < 4 := by simp [length_num]
  have e : numE (numBytes n ++ s) = 0 := by unfold numE; rw [if_neg hl, if_pos (by rw [valN_num n h0 h1]; exact h1)]
  refine ⟨e, ?_, ?_⟩
  · unfold numV; rw [if_pos e, valN_num n h0 h1]
  · unfold numR; rw [if_pos e, drop_num]

theorem txt_txt (d t : List UInt8) (h : d.length ≤ 255) : txtE (b8 d.length :: (d ++ t)) = 0 ∧ txtD (b8 d.length :: (d ++ t)) = d ∧ txtR (b8 d.length :: (d ++ t)) = t := by
  have e := b8_len d h
  have hl : ¬ (d ++ t).length < (b8 d.length).toNat := by rw [e]; simp
  refine ⟨?_, ?_, ?_⟩
  · simp only [txtE]; rw [if_neg hl]
  · simp only [txtD]; rw [if_neg hl, take_len d t h]
  · simp only [txtR]; rw [if_neg hl, drop_len d t h]

/-- What stands in front of bytes t, read. -/
theorem dec_parts (r : ReqM) (t : List UInt8) (h : reqFault r = 0) (ht : t.length ≤ 20) :
    decE (entryB r ++ t) = (if t ≠ [] then 4 else 0) ∧ reqOf (entryB r ++ t) = r := by
  have hr := reqMay_of r h
  have ho := opMay_of r.op hr.2.2
  have hd : (entryB r ++ t).drop 4 = numBytes r.num ++ (b8 r.op.data.length :: (r.op.data ++ t)) := by
    rw [List.drop_append_of_le_length (by rw [entryB_len]; omega), entryB_drop]; simp
  obtain ⟨n1, n2, n3⟩ := numE_num r.num (by omega) (by omega) (b8 r.op.data.length :: (r.op.data ++ t))
  obtain ⟨t1, t2, t3⟩ := txt_txt r.op.data t (by omega)
  obtain ⟨b0, b1, b2, b3⟩ := entryB_bytes r t h
  have hq : reqOf (entryB r ++ t) = r := by
    unfold reqOf
    rw [hd, n2, n3, t2, b0, b1, b2, b3]
  refine ⟨?_, hq⟩
  have hlen := entryB_len r
  unfold decE
  rw [if_neg (by simp; omega), if_neg (by simp; omega), hd, n1, n3, t1, t3, hq, h]
  simp

theorem dec_enc (r : ReqM) (h : reqFault r = 0) : decE (entryB r) = 0 ∧ decR (entryB r) = r := by
  obtain ⟨h1, h2⟩ := dec_parts r [] h (by simp)
  rw [List.append_nil] at h1 h2
  have h1' : decE (entryB r) = 0 := by rw [h1]; simp
  exact ⟨h1', by unfold decR; rw [if_pos h1', h2]⟩

theorem dec_more (r : ReqM) (c : UInt8) (h : reqFault r = 0) : decE (entryB r ++ [c]) = 4 := by
  obtain ⟨h1, _⟩ := dec_parts r [c] h (by simp)
  rw [h1]; simp

theorem dec_cut (r : ReqM) (k : Nat) (h : reqFault r = 0) (hk : k < (entryB r).length) : decE ((entryB r).take k) = 5 := by
  have hr := reqMay_of r h
  have ho := opMay_of r.op hr.2.2
  have hlen := entryB_len r
  have hl : ((entryB r).take k).length = k := by simp; omega
  unfold decE
  rw [hl, if_neg (by omega)]
  by_cases h4 : k < 4
  · rw [if_pos h4]
  · rw [if_neg h4]
    have hd : ((entryB r).take k).drop 4 = (numBytes r.num ++ (b8 r.op.data.length :: r.op.data)).take (k - 4) := by
      rw [List.drop_take, entryB_drop]
    rw [hd]
    by_cases h8 : k < 8
    · have e : numE ((numBytes r.num ++ (b8 r.op.data.length :: r.op.data)).take (k - 4)) = 5 := by
        unfold numE; rw [if_pos (by simp [length_num]; omega)]
      rw [e]; rfl
    · have e2 : (numBytes r.num ++ (b8 r.op.data.length :: r.op.data)).take (k - 4) = numBytes r.num ++ (b8 r.op.data.length :: r.op.data).take (k - 8) := by
        rw [List.take_append, length_num]
        congr 1
        · rw [List.take_of_length_le (by rw [length_num]; omega)]
      obtain ⟨n1, n2, n3⟩ := numE_num r.num (by omega) (by omega) ((b8 r.op.data.length :: r.op.data).take (k - 8))
      rw [e2, n1, n3]
      have e3 : txtE ((b8 r.op.data.length :: r.op.data).take (k - 8)) = 5 := by
        by_cases h0 : k = 8
        · subst h0; simp [txtE]
        · obtain ⟨m, rfl⟩ : ∃ m, k = 9 + m := ⟨k - 9, by omega⟩
          have e4 : 9 + m - 8 = m + 1 := by omega
          rw [e4, List.take_succ_cons]
          simp only [txtE]
          rw [if_pos (by rw [b8_len _ (by omega)]; simp; omega)]
      rw [e3]; rfl

end Go.Proofs.YtmdgkjbiicaljagDoor
