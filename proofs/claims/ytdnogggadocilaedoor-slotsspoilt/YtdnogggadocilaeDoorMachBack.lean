/- A request is read as it was written; cut short, or longer, it is not. -/
import Derived.Test.YtdnogggadocilaeDoorMachMath
namespace Go.Proofs.YtdnogggadocilaeDoor

theorem byte_in (n : Int) (h0 : 0 ≤ n) (h1 : n ≤ 255) : ((b8 n).toNat : Int) = n := by rw [b8_toNat]; omega

theorem entryB_len (r : ReqM) : (entryB r).length = 9 + r.op.data.length := by
  simp [entryB, length_num]; omega

theorem entryB_drop (r : ReqM) : (entryB r).drop 4 = numBytes r.num ++ (b8 r.op.data.length :: r.op.data) := rfl

theorem entryB_bytes (r : ReqM) (t : List UInt8) (h : reqFault r = 0) : byteAt (entryB r ++ t) 0 = r.client ∧ byteAt (entryB r ++ t) 1 = r.op.kind ∧ byteAt (entryB r ++ t) 2 = r.op.place ∧ byteAt (entryB r ++ t) 3 = r.op.snap := by
  have hr := reqMay_of r h
  have ho := opMay_of r.op hr.2.2
  refine ⟨?_, ?_, ?_, ?_⟩
  · show ((b8 r.client).toNat : Int) = _; exact byte_in _ (by omega) (by omega)
  · show ((b8 r.op.kind).toNat : Int) = _; exact byte_in _ (by omega) (by omega)
  · show ((b8 r.op.place).toNat : Int) = _; exact byte_in _ (by omega) (by omega)
  · show ((b8 r.op.snap).toNat : Int) = _; exact byte_in _ (by omega) (by omega)

theorem numE_num (n : Int) (h0 : 0 ≤ n) (h1 : n ≤ 1073741824) (s : List UInt8) : numE (numBytes n ++ s) = 0 ∧ numV (numBytes n ++ s) = n ∧ numR (numBytes n ++ s) = s := by
  have hl : ¬ (numBytes n ++ s).length < 4 := by simp [length_num]
  have e : numE (numBytes n ++ s) = 0 := by unfold numE; rw [if_neg hl, if_pos (by rw [valN_num n h0 h1]; exact h1)]
  refine ⟨e, ?_, ?_⟩
  · unfold numV; rw [if_pos e, valN_num n h0 h1]
  · unfold numR; rw [if_pos e, drop_num]

theorem txt_txt (d t : List UInt8) (h : d.length ≤ 255) : txtE (b8 d.length :: (d ++ t)) = 0 ∧ txtD (b8 d.length :: (d ++ t)) = d ∧ txtR (b8 d.length :: (d ++ t)) = t := by
  have e := b8_len d h
  have hl : ¬ (d ++ t).length < (b8 d.length).toNat := by rw [e]; simp
  refine ⟨?_, ?_, ?_⟩
  · simp only [txtE]; rw [if_neg hl]
  · simp only [txtD]; rw [if_neg hl, take_len d t h]
  · simp only [txtR]; rw [if_neg hl, drop_len d t h]

/-- What stands in front of bytes t, read. -/
theorem dec_parts (r : ReqM) (t : List UInt8) (h : reqFault r = 0) (ht : t.length ≤ 20) :
    decE (entryB r ++ t) = (if t ≠ [] then 4 else 0) ∧ reqOf (entryB r ++ t) = r := by
  have hr := reqMay_of r h
  have ho := opMay_of r.op hr.2.2
  have hd : (entryB r ++ t).drop 4 = numBytes r.num ++ (b8 r.op.data.length :: (r.op.data ++ t)) := by
    rw [List.drop_append_of_le_length (by rw [entryB_len]; omega), entryB_drop]; simp
  obtain ⟨n1, n2, n3⟩ := numE_num r.num (by omega) (by omega) (b8 r.op.data.length :: (r.op.data ++ t))
  obtain ⟨t1, t2, t3⟩ := txt_txt r.op.data t (by omega)
  obtain ⟨b0, b1, b2, b3⟩ := entryB_bytes r t h
  have hq : reqOf (entryB r ++ t) = r := by
    unfold reqOf
    rw [hd, n2, n3, t2, b0, b1, b2, b3]
  refine ⟨?_, hq⟩
  have hlen := entryB_len r
  unfold decE
  rw [if_neg (by simp; omega), if_neg (by simp; omega), hd, n1, n3, t1, t3, hq, h]
  simp

theorem dec_enc (r : ReqM) (h : reqFault r = 0) : decE (entryB r) = 0 ∧ decR (entryB r) = r := by
  obtain ⟨h1, h2⟩ := dec_parts r [] h (by simp)
  rw [List.append_nil] at h1 h2
  have h1' : decE (entryB r) = 0 := by rw [h1]; simp
  exact ⟨h1', by unfold decR; rw [if_pos h1', h2]⟩

theorem dec_more (r : ReqM) (c : UInt8) (h : reqFault r = 0) : decE (entryB r ++ [c]) = 4 := by
  obtain ⟨h1, _⟩ := dec_parts r [c] h (by simp)
  rw [h1]; simp

theorem dec_cut (r : ReqM) (k : Nat) (h : reqFault r = 0) (hk : k < (entryB r).length) : decE ((entryB r).take k) = 5 := by
  have hr := reqMay_of r h
  have ho := opMay_of r.op hr.2.2
  have hlen := entryB_len r
  have hl : ((entryB r).take k).length = k := by simp; omega
  unfold decE
  rw [hl, if_neg (by omega)]
  by_cases h4 : k < 4
  · rw [if_pos h4]
  · rw [if_neg h4]
    have hd : ((entryB r).take k).drop 4 = (numBytes r.num ++ (b8 r.op.data.length :: r.op.data)).take (k - 4) := by
      rw [List.drop_take, entryB_drop]
    rw [hd]
    by_cases h8 : k < 8
    · have e : numE ((numBytes r.num ++ (b8 r.op.data.length :: r.op.data)).take (k - 4)) = 5 := by
        unfold numE; rw [if_pos (by simp [length_num]; omega)]
      rw [e]; rfl
    · have e2 : (numBytes r.num ++ (b8 r.op.data.length :: r.op.data)).take (k - 4) = numBytes r.num ++ (b8 r.op.data.length :: r.op.data).take (k - 8) := by
        rw [List.take_append, length_num]
        congr 1
        · rw [List.take_of_length_le (by rw [length_num]; omega)]
      obtain ⟨n1, n2, n3⟩ := numE_num r.num (by omega) (by omega) ((b8 r.op.data.length :: r.op.data).take (k - 8))
      rw [e2, n1, n3]
      have e3 : txtE ((b8 r.op.data.length :: r.op.data).take (k - 8)) = 5 := by
        by_cases h0 : k = 8
        · subst h0; simp [txtE]
        · obtain ⟨m, rfl⟩ : ∃ m, k = 9 + m := ⟨k - 9, by omega⟩
          have e4 : 9 + m - 8 = m + 1 := by omega
          rw [e4, List.take_succ_cons]
          simp only [txtE]
          rw [if_pos (by rw [b8_len _ (by omega)]; simp; omega)]
      rw [e3]; rfl

end Go.Proofs.YtdnogggadocilaeDoor
