/- What holds in memory while slots are looked at. -/
import Derived.Test.YtmdgkjbiicaljahGreatDoorJointReplMem
import Derived.Test.YtmdgkjbiicaljahGreatDoorJointStageMath
import Derived.Laws.BytesString
import Derived.BigQuiet
import Derived.Deep.QuietTactic
import Derived.Laws.BitsLemmas
import Derived.Test.YtmdgkjbiicaljahGreatDoorJointKeptDup
import Derived.Test.YtmdgkjbiicaljahGreatDoorJointCodecIs
import Derived.Laws.EntriesVeiled
import Derived.Laws.CopyOwn
import Derived.Deep.DeepCutAuto
set_option linter.unusedVariables false
set_option linter.unusedSimpArgs false
namespace Go.Proofs.YtmdgkjbiicaljahGreatDoor
open Go.RowKit

structure LoadInv (w : World) (b6 : Nat) (K : KeptM) (vl : Value) (wr : World) : Prop where
 below:Below w.heap.size w wr
 res:Box wr w.heap.size 44 [.int .i64 0, .int .i64 0, .bool false, .slice none 0 0, .int .i64 0]
 best:Box wr b6 44 [.int .i64 K.view, .int .i64 K.normal, .bool K.calm,vl, .int .i64 K.commit]
 row:wr.ownsRow w.heap.size 9 1 vl K.log.length (K.log.map enc)
 gt:w.heap.size < b6
theorem LoadInv.next {w wr wx : World} {b6 : Nat} {K : KeptM} {vl : Value} (I : LoadInv w b6 K vl wr) (hb : Below wr.heap.size wr wx) : LoadInv w b6 K vl wx :=
 ⟨Below.far I.below hb,I.res.below hb I.res.lt,I.best.below hb I.best.lt,own_below I.row hb (own_lt I.row),I.gt⟩
theorem LoadInv.take {w wr : World} {b6 : Nat} {K K' : KeptM} {vl vl' : Value} (I : LoadInv w b6 K vl wr) (hn : wr.ownsRow w.heap.size 9 1 vl' K'.log.length (K'.log.map enc)) :
  LoadInv w b6 K' vl' (((((wr.setCell ⟨b6,0,none⟩ (.int .i64 K'.view)).setCell ⟨b6,1,none⟩ (.int .i64 K'.normal)).setCell ⟨b6,2,none⟩ (.bool K'.calm)).setCell ⟨b6,3,none⟩ vl').setCell ⟨b6,4,none⟩ (.int .i64 K'.commit)):=by
 have hgt:=I.gt
 have s0:=I.best.set 0 (.int .i64 K'.view)
 have s1:=s0.set 1 (.int .i64 K'.normal)
 have s2:=s1.set 2 (.bool K'.calm)
 have s3:=s2.set 3 vl'
 have s4:=s3.set 4 (.int .i64 K'.commit)
 have o0:=own_other hn (own_type hn I.best (by decide)) (.int .i64 K'.view) (a:=⟨b6,0,none⟩)
 have o1:=own_other o0 (own_type o0 s0 (by decide)) (.int .i64 K'.normal) (a:=⟨b6,1,none⟩)
 have o2:=own_other o1 (own_type o1 s1 (by decide)) (.bool K'.calm) (a:=⟨b6,2,none⟩)
 have o3:=own_other o2 (own_type o2 s2 (by decide)) vl' (a:=⟨b6,3,none⟩)
 have o4:=own_other o3 (own_type o3 s3 (by decide)) (.int .i64 K'.commit) (a:=⟨b6,4,none⟩)
 refine⟨?_, ?_,s4,o4,hgt⟩
 ·exact ((((I.below.setCell (by simp; omega) _).setCell (by simp; omega) _).setCell (by simp; omega) _).setCell (by simp; omega) _).setCell (by simp; omega) _
 ·exact ((((I.res.other _ (by simp; omega)).other _ (by simp; omega)).other _ (by simp; omega)).other _ (by simp; omega)).other _ (by simp; omega)
theorem LoadInv.kept {w wr : World} {b6 : Nat} {K : KeptM} {vl : Value} (I : LoadInv w b6 K vl wr) :
  KeptNew (((((wr.setCell ⟨w.heap.size,0,none⟩ (.int .i64 K.view)).setCell ⟨w.heap.size,1,none⟩ (.int .i64 K.normal)).setCell ⟨w.heap.size,2,none⟩ (.bool K.calm)).setCell ⟨w.heap.size,3,none⟩ vl).setCell ⟨w.heap.size,4,none⟩ (.int .i64 K.commit)) w.heap.size (.agg #[.int .i64 K.view, .int .i64 K.normal, .bool K.calm,vl, .int .i64 K.commit]) K:=by
 have h:KeptNew wr w.heap.size (.agg #[.int .i64 K.view, .int .i64 K.normal, .bool K.calm,vl, .int .i64 K.commit]) K:=⟨vl,rfl,I.row⟩
 exact ((((h.type I.res (by decide) 0 (.int .i64 K.view)).type (I.res.set 0 _) (by decide) 1 (.int .i64 K.normal)).type ((I.res.set 0 _).set 1 _) (by decide) 2 (.bool K.calm)).type (((I.res.set 0 _).set 1 _).set 2 _) (by decide) 3 vl).type ((((I.res.set 0 _).set 1 _).set 2 _).set 3 _) (by decide) 4 (.int .i64 K.commit)

end Go.Proofs.YtmdgkjbiicaljahGreatDoor

/- A list of numbers as cells. -/
namespace Go.Proofs.YtmdgkjbiicaljahGreatDoor

def numCells (l : List Int) : List Value := l.map (Value.int .i64)
theorem numCells_get (l : List Int) (k : Nat) (h : k < l.length) : (numCells l)[k]? = some (.int .i64 (l.getD k 0)) := by simp [numCells,List.getD,h]

end Go.Proofs.YtmdgkjbiicaljahGreatDoor

/- Bytes just laid and turned into a string. -/
namespace Go.Proofs.YtmdgkjbiicaljahGreatDoor
open Go.RowKit

theorem foldl_push_bytes : ∀ (l : List Int) (r : ByteArray),l.foldl (fun r n => r.push (UInt8.ofNat n.toNat)) r = ⟨r.data ++ (l.map fun n => UInt8.ofNat n.toNat).toArray⟩
 | [],r=>by simp
 | b :: l,r=>by
  simp only[List.foldl_cons]
  rw[foldl_push_bytes l]
  simp[ByteArray.push]

theorem conv_new (w : World) (g : Nat) (ns : List Int) (cap : Nat) (hg : g = w.heap.size) :
  (convert 183 9 (.slice (some ⟨g,0,none⟩) ns.length cap)).run Tryz.prog (w.alloc (.cells (ns.map (Value.int .u8)).toArray 5)) = .ok (.string ⟨(ns.map fun n=>UInt8.ofNat n.toNat).toArray⟩) (w.alloc (.cells (ns.map (Value.int .u8)).toArray 5)):=by
 subst hg
 rw[run_convert_bytes_string _ 183 9 5 _ _ _ Tryz.underlying183 Tryz.underlying5 Tryz.underlying9]
 have hl:=run_loadCells_list (P:=Tryz.prog) (w.alloc (.cells (ns.map (Value.int .u8)).toArray 5)) ⟨w.heap.size,0,none⟩ (ns.map (Value.int .u8)) (fun j v hj=>by
  have e:(Addr.add ⟨w.heap.size,0,none⟩ j)=⟨w.heap.size,j,none⟩:=by simp[Addr.add]; omega
  rw[e,World.cell?_alloc_new]
  simpa using hj)
 simp only[List.length_map] at hl
 rw[run_bytesToString _ _ ns.length cap _ hl,foldl_push_bytes]
 have he0:ByteArray.empty.data = #[]:=rfl
 rw[he0]
 simp

theorem conv1 (w : World) (g : Nat) (a : Int) (hg : g = w.heap.size) :
  (convert 183 9 (.slice (some ⟨g,0,none⟩) 1 1)).run Tryz.prog (w.alloc (.cells #[.int .u8 a] 5)) = .ok (.string ⟨#[UInt8.ofNat a.toNat]⟩) (w.alloc (.cells #[.int .u8 a] 5)):=by
 have:=conv_new w g [a] 1 hg
 simpa using this

theorem conv2 (w : World) (g : Nat) (a b : Int) (hg : g = w.heap.size) :
  (convert 183 9 (.slice (some ⟨g,0,none⟩) 2 2)).run Tryz.prog (w.alloc (.cells #[.int .u8 a, .int .u8 b] 5)) = .ok (.string ⟨#[UInt8.ofNat a.toNat,UInt8.ofNat b.toNat]⟩) (w.alloc (.cells #[.int .u8 a, .int .u8 b] 5)):=by
 have:=conv_new w g [a,b] 2 hg
 simpa using this

theorem conv4 (w : World) (g : Nat) (a b c d : Int) (hg : g = w.heap.size) :
  (convert 183 9 (.slice (some ⟨g,0,none⟩) 4 4)).run Tryz.prog (w.alloc (.cells #[.int .u8 a, .int .u8 b, .int .u8 c, .int .u8 d] 5)) = .ok (.string ⟨#[UInt8.ofNat a.toNat,UInt8.ofNat b.toNat,UInt8.ofNat c.toNat,UInt8.ofNat d.toNat]⟩) (w.alloc (.cells #[.int .u8 a, .int .u8 b, .int .u8 c, .int .u8 d] 5)):=by
 have:=conv_new w g [a,b,c,d] 4 hg
 simpa using this

end Go.Proofs.YtmdgkjbiicaljahGreatDoor

/- The walks of package codec, but for Seal: each function answers what the plain mathematics says. -/
namespace Go.Proofs.YtmdgkjbiicaljahGreatDoor
open Go.RowKit

attribute [local go_sem] app_list ext_list get_list byteAt_zero

set_option maxHeartbeats 400000 in
theorem pair_any (n : Int) (w : World) (h0 : 0 ≤ n) (h1 : n ≤ 1073741824) :
  Calls Tryz.prog 103 #[.int .i64 n] w fun e w' => e = .returned (.string ⟨[b8 (n / 256),b8 n].toArray⟩)∧Below w.heap.size w w' := by
 have kc:=conv2
 go_enter Tryz.func103,Tryz.ntmps103
 go_wp2
 go_ret
 exact⟨rfl,below_alloc _ _⟩

set_option maxHeartbeats 400000 in
theorem number_ok (n : Int) (w : World) (h0 : 0 ≤ n) (h1 : n ≤ 1073741824) :
  Calls Tryz.prog 82 #[.int .i64 n] w fun e w' => e = .returned (.tuple #[.string ⟨(numBytes n).toArray⟩, .int .i64 0])∧Below w.heap.size w w' := by
 go_enter Tryz.func82,Tryz.ntmps82
 go_wp2_with fail
 refine (pair_any _ _ (by omega) (by omega)).mono ?_
 rintro e w1 ⟨rfl,hb1⟩
 go_wp2_with fail
 refine (pair_any _ _ (by omega) (by omega)).mono ?_
 rintro e w2 ⟨rfl,hb2⟩
 go_wp2_with fail
 go_ret2
 refine⟨?_,Below.seq hb1 hb2⟩
 have e1:n / 65536 / 256=n / 16777216:=by omega
 simp[numBytes,e1]

set_option maxHeartbeats 400000 in
theorem number_no (n : Int) (w : World) (h : n < 0 ∨ 1073741824 < n) :
  Calls Tryz.prog 82 #[.int .i64 n] w fun e w' => e = .returned (.tuple #[.string ⟨[].toArray⟩, .int .i64 2])∧Below w.heap.size w w' := by
 rcases h with h | h
 ·go_enter Tryz.func82,Tryz.ntmps82
  go_wp2_with fail
  go_ret2
  exact⟨rfl,Below.refl _ _⟩
 ·have h' : ¬ n < 0:=by omega
  go_enter Tryz.func82,Tryz.ntmps82
  go_wp2_with fail
  go_ret2
  exact⟨rfl,Below.refl _ _⟩

set_option maxHeartbeats 400000 in
theorem text_ok (l : List UInt8) (w : World) (h : l.length ≤ 255) :
  Calls Tryz.prog 84 #[.string ⟨l.toArray⟩] w fun e w' => e = .returned (.tuple #[.string ⟨(b8 l.length :: l).toArray⟩, .int .i64 0])∧Below w.heap.size w w' := by
 have kc:=conv1
 go_enter Tryz.func84,Tryz.ntmps84
 go_wp2
 go_ret2
 refine⟨?_,below_alloc _ _⟩
 have e1:((l.length:Int) % 256).toNat=l.length:=by omega
 simp[b8,e1]

end Go.Proofs.YtmdgkjbiicaljahGreatDoor

/- The seal, a byte further. -/
namespace Go.Proofs.YtmdgkjbiicaljahGreatDoor
open Go.RowKit

theorem seal_next (l : List UInt8) (k : Nat) (h : k < l.length) : sealTo (l.take (k + 1)) = (((sealTo (l.take k)).1 + byteAt l k) % 65521,((sealTo (l.take k)).2 + ((sealTo (l.take k)).1 + byteAt l k) % 65521) % 65521) := by
 rw[take_snoc' l k h,sealTo_snoc]
 simp[sealStep,byteAt,List.getD,h]

end Go.Proofs.YtmdgkjbiicaljahGreatDoor

/- The walk of codec.Seal. -/
namespace Go.Proofs.YtmdgkjbiicaljahGreatDoor
open Go.RowKit
attribute [local go_sem] app_list ext_list get_list byteAt_zero

set_option maxHeartbeats 1000000 in
theorem seal_any (l : List UInt8) (w : World) (hl : l.length ≤ 281474976710656) :
  Calls Tryz.prog 70 #[.string ⟨l.toArray⟩] w fun e w' => e = .returned (.string ⟨(sealBytes l).toArray⟩)∧Below w.heap.size w w' := by
 go_enter Tryz.func70,Tryz.ntmps70
 go_wp2
 go_loop [3,4,8] (fun x y i => ∃ k:Nat,k≤l.length∧i = .int .i64 k∧x = .int .i64 (sealTo (l.take k)).1∧y = .int .i64 (sealTo (l.take k)).2) (fun _ _ i=>l.length - (intOf i).toNat)
 case atStart=>exact⟨0,by omega,rfl,rfl,rfl⟩
 case round =>
  obtain⟨k,hk,rfl,rfl,rfl⟩:=hrel
  have hb:=sealTo_bd (l.take k)
  by_cases hlt:k < l.length
  ·have hy:=byteAt_bd l k
   have HN:Hid (sealTo (l.take (k+1))=_):=seal_next l k hlt
   go_wp2
   exact⟨⟨k+1,by omega,by go_num,by rw[HN.out],by rw[HN.out]⟩,by simp[intOf]; omega⟩
  ·obtain rfl:k=l.length:=by omega
   have e:l.take l.length=l:=List.take_length
   rw[e] at hb ⊢
   go_wp2_with fail
   refine (pair_any _ _ (by omega) (by omega)).mono ?_
   rintro e w1 ⟨rfl,hb1⟩
   go_wp2_with fail
   refine (pair_any _ _ (by omega) (by omega)).mono ?_
   rintro e w2 ⟨rfl,hb2⟩
   go_wp2_with fail
   go_ret
   refine⟨?_,Below.seq hb1 hb2⟩
   simp[sealBytes]

end Go.Proofs.YtmdgkjbiicaljahGreatDoor

/- The program's own stage.unseal, readHead, readLog. -/
namespace Go.Proofs.YtmdgkjbiicaljahGreatDoor
open Go.RowKit
attribute [local go_sem] app_list ext_list get_list byteAt_zero

def unsE (s : List UInt8) : Int := if 4000 < s.length then 1 else if s.length < 4 then 5 else if sealBytes (s.drop 4) ≠ s.take 4 then 11 else 0
def unsB (s : List UInt8) : List UInt8 := if unsE s = 0 then s.drop 4 else []
theorem kdecE_uns (s : List UInt8) : kdecE s = if unsE s = 0 then bodyE (s.drop 4) else unsE s := by
  unfold kdecE unsE
  by_cases h1 : 4000 < s.length
  · simp [h1]
  · by_cases h2 : s.length < 4
    · simp [h1, h2]
    · by_cases h3 : sealBytes (s.drop 4) = s.take 4
      · simp [h1, h2, h3]
      · simp [h1, h2, h3]
theorem unsB_le (s : List UInt8) : unsE s = 0 → (unsB s).length ≤ 4000 ∧ unsB s = s.drop 4 := by
  intro h
  have e : unsB s = s.drop 4 := by unfold unsB; rw [if_pos h]
  refine ⟨?_, e⟩
  rw [e, List.length_drop]
  unfold unsE at h
  split at h
  · omega
  · omega

theorem enter_seal (us : Array Value) (w : World) : (callFunc 70 us).run Tryz.prog w = .ok (.enter 70 us) w := by kernel_rfl

set_option maxRecDepth 4000 in
set_option maxHeartbeats 2000000 in
theorem unseal_any (s : List UInt8) (w : World) (hl : s.length ≤ 281474976710656) :
    Calls Tryz.prog 40 #[.string ⟨s.toArray⟩] w fun e w' => e = .returned (.tuple #[.string ⟨(unsB s).toArray⟩, .int .i64 (unsE s)]) ∧ Below w.heap.size w w' := by
  by_cases h1 : 4000 < s.length
  · have HE : Hid (unsE s = 1 ∧ unsB s = []) := by
      have e : unsE s = 1 := by unfold unsE; rw [if_pos h1]
      exact ⟨e, by unfold unsB; rw [e]; rfl⟩
    have q1 : decide ((4000 : Int) < (s.length : Int)) = true := by simp; omega
    clear h1
    go_enter Tryz.func40, Tryz.ntmps40
    go_wp2_with fail
    go_ret2
    exact ⟨by rw [HE.out.1, HE.out.2]; rfl, Below.refl _ _⟩
  have q1 : decide ((4000 : Int) < (s.length : Int)) = false := by simp; omega
  by_cases h2 : s.length < 4
  · have HE : Hid (unsE s = 5 ∧ unsB s = []) := by
      have e : unsE s = 5 := by unfold unsE; rw [if_neg h1, if_pos h2]
      exact ⟨e, by unfold unsB; rw [e]; rfl⟩
    have q2 : decide ((s.length : Int) < 4) = true := by simp; omega
    clear h1 h2
    go_enter Tryz.func40, Tryz.ntmps40
    go_wp2_with fail
    go_ret2
    exact ⟨by rw [HE.out.1, HE.out.2]; rfl, Below.refl _ _⟩
  have q2 : decide ((s.length : Int) < 4) = false := by simp; omega
  have q3 : (4 : Int) ≤ (s.length : Int) := by omega
  have HU : Hid (unsE s = if sealBytes (s.drop 4) ≠ s.take 4 then 11 else 0) := by unfold Hid; conv => lhs; unfold unsE; rw [if_neg h1, if_neg h2]
  have HUB : Hid (unsB s = if unsE s = 0 then s.drop 4 else []) := rfl
  have HSL : Hid (∀ W, Calls Tryz.prog 70 [.string ⟨(s.drop 4).toArray⟩].toArray W fun e w' => ∃ v', e = .returned v' ∧ (v' = .string ⟨(sealBytes (s.drop 4)).toArray⟩ ∧ Below W.heap.size W w')) :=
    fun W => (seal_any (s.drop 4) W (by simp; omega)).mono fun e w' ⟨he, hb⟩ => ⟨_, he, rfl, hb⟩
  obtain ⟨SB, HSB⟩ : ∃ SB, sealBytes (s.drop 4) = SB := ⟨_, rfl⟩
  rw [HSB] at HSL HU
  clear HSB h1 h2
  go_enter Tryz.func40, Tryz.ntmps40
  go_upto_region 5 with fail
  go_cut [12] (fun x wx => x = .bool (!(s.take 4 == SB)) ∧ Below w.heap.size w wx)
  case first =>
    go_region_law
      ((refine step_go _ (by rfl) 70 _ _ (by rfl) _ (by rfl) enter_seal _ (HSL.out _) ?_
        rintro u' wA ⟨hu4, hbA⟩
        subst hu4
        have hAU : Below w.heap.size w wA := by (repeat (first | exact Below.refl _ _ | assumption | apply Below.drew | apply Below.up | (refine Below.far ?_ (by assumption))))))
    all_goals go_wp2_with fail
    all_goals go_meet
    all_goals exact ⟨rfl, hAU⟩
  case rest =>
    obtain ⟨rfl, hbc⟩ := hcut
    have HB : Hid (Below w.heap.size w wc) := hbc
    clear hbc HSL q1 q2
    by_cases hse : SB = s.take 4
    · have tq : (s.take 4 == SB) = true := by simp [hse]
      rw [tq, Bool.not_true]
      have HX : Hid (unsE s = 0 ∧ unsB s = s.drop 4) := by
        have e : unsE s = 0 := by rw [HU.out, if_neg (by simpa using hse)]
        exact ⟨e, by rw [HUB.out, if_pos e]⟩
      clear tq hse HU HUB
      go_wp2_with fail
      go_ret2
      exact ⟨by rw [HX.out.1, HX.out.2]; rfl, HB.out⟩
    · have tq : (s.take 4 == SB) = false := by simpa using fun e => hse e.symm
      rw [tq, Bool.not_false]
      have HX : Hid (unsE s = 11 ∧ unsB s = []) := by
        have e : unsE s = 11 := by rw [HU.out, if_pos hse]
        exact ⟨e, by rw [HUB.out, e]; rfl⟩
      clear tq hse HU HUB
      go_wp2_with fail
      go_ret2
      exact ⟨by rw [HX.out.1, HX.out.2]; rfl, HB.out⟩

end Go.Proofs.YtmdgkjbiicaljahGreatDoor

/- The program's own stage.readHead. -/
namespace Go.Proofs.YtmdgkjbiicaljahGreatDoor
open Go.RowKit
attribute [local go_sem] app_list ext_list get_list byteAt_zero

def headE (t : List UInt8) : Int := if numsE 6 t ≠ 0 then numsE 6 t else if 1 < nAt t 3 ∨ 60 < nAt t 5 then 4 else 0
def headV (t : List UInt8) : List Int := if headE t = 0 then numsV 6 t else [0,0,0,0,0,0]
def headR (t : List UInt8) : List UInt8 := if headE t = 0 then numsR 6 t else []

structure HeadInv (w : World) (bn : Nat) (ns : List Int) (wr : World) : Prop where
 below:Below w.heap.size w wr
 res:Box wr w.heap.size 109 [.int .i64 0, .int .i64 0, .int .i64 0, .int .i64 0, .int .i64 0, .int .i64 0]
 nums:Box wr bn 109 (numCells ns)
 gt:w.heap.size < bn
theorem HeadInv.next {w wr wx : World} {bn : Nat} {ns : List Int} (I : HeadInv w bn ns wr) (hb : Below wr.heap.size wr wx) : HeadInv w bn ns wx :=
 ⟨Below.far I.below hb,I.res.below hb I.res.lt,I.nums.below hb I.nums.lt,I.gt⟩
theorem HeadInv.set {w wr : World} {bn : Nat} {ns : List Int} (I : HeadInv w bn ns wr) (k : Nat) (x : Int) : HeadInv w bn (ns.set k x) (wr.setCell ⟨bn,k,none⟩ (.int .i64 x)) := by
 have hgt:=I.gt
 refine⟨I.below.setCell (by simp; omega) _,I.res.other _ (by simp; omega), ?_,hgt⟩
 have:=I.nums.set k (.int .i64 x)
 unfold numCells at this ⊢
 rw[List.map_set]
 exact this

set_option maxRecDepth 4000 in
set_option maxHeartbeats 2000000 in
theorem readHead_any (T : List UInt8) (w : World) (hl : T.length ≤ 4000) :
  Calls Tryz.prog 41 #[.string ⟨T.toArray⟩] w fun e w' => e = .returned (.tuple #[.agg (numCells (headV T)).toArray, .string ⟨(headR T).toArray⟩, .int .i64 (headE T)])∧Below w.heap.size w w' := by
 obtain⟨b0,b1,hb⟩:=boxes2 w 109 109 [.int .i64 0, .int .i64 0, .int .i64 0, .int .i64 0, .int .i64 0, .int .i64 0] [.int .i64 0, .int .i64 0, .int .i64 0, .int .i64 0, .int .i64 0, .int .i64 0]
 have HI:Hid (HeadInv w (w.heap.size+1) (numsV 0 T ++ List.replicate (6 - 0) 0) _):=⟨hb,b0,b1,by omega⟩
 clear b0 b1 hb
 have HHE:Hid (headE T=if numsE 6 T≠0 then numsE 6 T else if 1 < nAt T 3∨60 < nAt T 5 then 4 else 0):=rfl
 have HZ:Hid (headE T≠0→headV T = [0,0,0,0,0,0]∧headR T = []):=by
  intro h
  unfold headV headR
  rw[if_neg h,if_neg h]
  exact⟨rfl,rfl⟩
 have HO:Hid (headE T=0→headV T = [nAt T 0,nAt T 1,nAt T 2,nAt T 3,nAt T 4,nAt T 5]∧headR T=numsR 6 T):=by
  intro h
  unfold headV headR
  rw[if_pos h,if_pos h]
  exact⟨rfl,rfl⟩
 go_enter Tryz.func41,Tryz.ntmps41
 go_wp2_with fail
 go_loopw [0,10] (fun x i wr => ∃ k:Nat,k≤6∧i = .int .i64 k∧x = .string ⟨(numsR k T).toArray⟩∧numsE k T=0∧HeadInv w (w.heap.size+1) (numsV k T ++ List.replicate (6 - k) 0) wr) (fun _ i wr=>6 - (intOf i).toNat)
 case atStart=>exact⟨0,by omega,rfl,rfl,rfl,HI.out⟩
 case round =>
  clear HI
  obtain⟨k,hk,rfl,rfl,hE0,I⟩:=hrel
  by_cases hlt:k < 6
  ·have HNI:Hid (∀ w,Calls _ _ _ w _):=fun w=>readNumber_is (numsR k T) w (by have:=numsR_le k T; omega)
   have HII:Hid (HeadInv _ _ _ wr):=I
   have HFL:Hid ((numsV k T ++ List.replicate (6 - k) (0:Int)).set k (numV (numsR k T))=numsV (k+1) T ++ List.replicate (6 - (k+1)) 0):=nums_fill k T hlt
   have HR1:Hid (numsR (k+1) T=numR (numsR k T)):=numsR_succ k T
   have HE1:Hid (numsE (k+1) T=numE (numsR k T)):=by unfold Hid; rw[numsE_succ,if_pos hE0]
   have hnl:(numsV k T ++ List.replicate (6 - k) (0:Int)).length=6:=by simp[numsV_len]; omega
   clear I hE0
   obtain⟨NS,HNS⟩ : ∃ NS,numsV k T ++ List.replicate (6 - k) (0:Int)=NS:=⟨_,rfl⟩
   rw[HNS] at HII HFL hnl
   clear HNS
   obtain⟨x,hx⟩ : ∃ x,numV (numsR k T)=x:=⟨_,rfl⟩
   obtain⟨y,hy⟩ : ∃ y,numR (numsR k T)=y:=⟨_,rfl⟩
   obtain⟨z,hz⟩ : ∃ z,numE (numsR k T)=z:=⟨_,rfl⟩
   rw[hx,hy,hz] at HNI
   rw[hx] at HFL
   rw[hy] at HR1
   rw[hz] at HE1
   clear hx hy hz
   obtain⟨R,hR⟩ : ∃ R,numsR k T=R:=⟨_,rfl⟩
   rw[hR] at HNI ⊢
   clear hR
   have k0:(0:Int)≤(k:Int):=by omega
   have k1:(k:Int) < 6:=by omega
   go_wp2_with fail
   refine (HNI.out _).mono ?_
   rintro e w4 ⟨rfl,hb4⟩
   have J:=HII.out.next hb4
   have t0:=J.nums.cell k _ (numCells_get NS k (by omega))
   have t1:=J.nums.frozen k
   have lt4:=J.nums.lt
   have HK4:Hid (HeadInv _ _ _ w4):=J
   have HJ:Hid (HeadInv _ _ _ _):=J.set k x
   clear J HNI HII hb4
   by_cases hz0:z=0
   ·subst hz0
    go_wp2_with fail
    go_roundw
    case rel=>exact⟨k+1,by omega,by go_num,by rw[HR1.out],HE1.out,by rw[← HFL.out]; exact HJ.out⟩
    case measure=>simp[intOf]; omega
   ·have c1:(z == 0)=false:=by simpa using hz0
    have c2:(z != 0)=true:=by simpa using hz0
    have HX:Hid (headE T=z∧headV T = [0,0,0,0,0,0]∧headR T = []):=by
     have e6:=numsE_stop (k+1) 6 T (by rw[HE1.out]; exact hz0) (by omega)
     have e:headE T=z:=by
      rw[HHE.out,if_pos (by rw[e6,HE1.out]; exact hz0),e6,HE1.out]
     exact⟨e,HZ.out (by rw[e]; exact hz0)⟩
    have RJ:=HK4.out.res
    have hbJ:=HK4.out.below
    obtain⟨r0,r1,r2,r3,r4,r5⟩:=RJ.c6
    obtain⟨f0,f1,f2,f3,f4,f5⟩:=RJ.z6
    have HB:Hid (Below w.heap.size w _):=((((((hbJ.setCell (p:=⟨w.heap.size,0,none⟩) (by simp) (.int .i64 0)).setCell (p:=⟨w.heap.size,1,none⟩) (by simp) (.int .i64 0)).setCell (p:=⟨w.heap.size,2,none⟩) (by simp) (.int .i64 0)).setCell (p:=⟨w.heap.size,3,none⟩) (by simp) (.int .i64 0)).setCell (p:=⟨w.heap.size,4,none⟩) (by simp) (.int .i64 0)).setCell (p:=⟨w.heap.size,5,none⟩) (by simp) (.int .i64 0))
    clear RJ hbJ HK4 HJ t0 t1 hz0
    go_wp2_with fail
    rw[HX.out.1,HX.out.2.1,HX.out.2.2]
    exact bodyPost_ret (v := .tuple #[.agg #[.int .i64 0, .int .i64 0, .int .i64 0, .int .i64 0, .int .i64 0, .int .i64 0], .string ⟨#[]⟩, .int .i64 z]) (by clear HB; simp[results,Tryz.results41,go_sem, *]) rfl ⟨rfl,HB.out⟩
  ·have hk6:k=6:=by omega
   have hki:(k:Int)=6:=by omega
   rw[hki]
   rw[hk6] at hE0 I ⊢
   clear hki hk6 hk hlt
   have HI6:Hid (HeadInv w (w.heap.size+1) [nAt T 0,nAt T 1,nAt T 2,nAt T 3,nAt T 4,nAt T 5] wr):=I
   have HBF:Hid (headE T=if 1 < nAt T 3∨60 < nAt T 5 then 4 else 0):=by
    unfold Hid
    rw[HHE.out,if_neg (by rw[hE0]; decide)]
   clear hE0 I HHE
   generalize nAt T 0=n0 at *
   generalize nAt T 1=n1 at *
   generalize nAt T 2=n2 at *
   generalize nAt T 3=n3 at *
   generalize nAt T 4=n4 at *
   generalize nAt T 5=n5 at *
   generalize numsR 6 T=R at *
   have RJ:=HI6.out.res
   have hbJ:=HI6.out.below
   have x3:=HI6.out.nums.cell 3 _ rfl
   have x5:=HI6.out.nums.cell 5 _ rfl
   have lx:=HI6.out.nums.lt
   by_cases hF:1 < n3∨60 < n5
   ·have HX:Hid (headE T=4∧headV T = [0,0,0,0,0,0]∧headR T = []):=by
     have e:headE T=4:=by rw[HBF.out,if_pos hF]
     exact⟨e,HZ.out (by rw[e]; decide)⟩
    obtain⟨r0,r1,r2,r3,r4,r5⟩:=RJ.c6
    obtain⟨f0,f1,f2,f3,f4,f5⟩:=RJ.z6
    have HB:Hid (Below w.heap.size w _):=((((((hbJ.setCell (p:=⟨w.heap.size,0,none⟩) (by simp) (.int .i64 0)).setCell (p:=⟨w.heap.size,1,none⟩) (by simp) (.int .i64 0)).setCell (p:=⟨w.heap.size,2,none⟩) (by simp) (.int .i64 0)).setCell (p:=⟨w.heap.size,3,none⟩) (by simp) (.int .i64 0)).setCell (p:=⟨w.heap.size,4,none⟩) (by simp) (.int .i64 0)).setCell (p:=⟨w.heap.size,5,none⟩) (by simp) (.int .i64 0))
    clear RJ hbJ HI6 HBF HZ HO
    by_cases h3:1 < n3
    ·have d3:decide (1 < n3)=true:=by simp[h3]
     clear hF h3
     go_wp2_with fail
     rw[HX.out.1,HX.out.2.1,HX.out.2.2]
     exact bodyPost_ret (v := .tuple #[.agg #[.int .i64 0, .int .i64 0, .int .i64 0, .int .i64 0, .int .i64 0, .int .i64 0], .string ⟨#[]⟩, .int .i64 4]) (by clear HB; simp[results,Tryz.results41,go_sem, *]) rfl ⟨rfl,HB.out⟩
    ·have d3:decide (1 < n3)=false:=by simp; omega
     have d5:decide (60 < n5)=true:=by simp; omega
     clear hF h3
     go_wp2_with fail
     rw[HX.out.1,HX.out.2.1,HX.out.2.2]
     exact bodyPost_ret (v := .tuple #[.agg #[.int .i64 0, .int .i64 0, .int .i64 0, .int .i64 0, .int .i64 0, .int .i64 0], .string ⟨#[]⟩, .int .i64 4]) (by clear HB; simp[results,Tryz.results41,go_sem, *]) rfl ⟨rfl,HB.out⟩
   ·have d3:decide (1 < n3)=false:=by simp; omega
    have d5:decide (60 < n5)=false:=by simp; omega
    have HX:Hid (headE T=0∧headV T = [n0,n1,n2,n3,n4,n5]∧headR T=R):=by
     have e:headE T=0:=by rw[HBF.out,if_neg hF]
     exact⟨e,HO.out e⟩
    obtain⟨x0,x1,x2⟩:=HI6.out.nums.c3
    have x4:=HI6.out.nums.cell 4 _ rfl
    obtain⟨r0,r1,r2,r3,r4,r5⟩:=RJ.c6
    obtain⟨f0,f1,f2,f3,f4,f5⟩:=RJ.z6
    have HB:Hid (Below w.heap.size w _):=((((((hbJ.setCell (p:=⟨w.heap.size,0,none⟩) (by simp) (.int .i64 n0)).setCell (p:=⟨w.heap.size,1,none⟩) (by simp) (.int .i64 n1)).setCell (p:=⟨w.heap.size,2,none⟩) (by simp) (.int .i64 n2)).setCell (p:=⟨w.heap.size,3,none⟩) (by simp) (.int .i64 n3)).setCell (p:=⟨w.heap.size,4,none⟩) (by simp) (.int .i64 n4)).setCell (p:=⟨w.heap.size,5,none⟩) (by simp) (.int .i64 n5))
    clear RJ hbJ HI6 HBF HZ HO hF
    go_wp2_with fail
    rw[HX.out.1,HX.out.2.1,HX.out.2.2]
    exact bodyPost_ret (v := .tuple #[.agg #[.int .i64 n0, .int .i64 n1, .int .i64 n2, .int .i64 n3, .int .i64 n4, .int .i64 n5], .string ⟨R.toArray⟩, .int .i64 0]) (by clear HB; simp[results,Tryz.results41,go_sem, *]) rfl ⟨rfl,HB.out⟩

end Go.Proofs.YtmdgkjbiicaljahGreatDoor

/- The program's own stage.readLog. -/
namespace Go.Proofs.YtmdgkjbiicaljahGreatDoor
open Go.RowKit
attribute [local go_sem] app_list ext_list get_list byteAt_zero

def rlogD (m : Nat) (t : List UInt8) : List (List UInt8) := if txtsE m t = 0 then txtsD m t else []
def rlogR (m : Nat) (t : List UInt8) : List UInt8 := if txtsE m t = 0 then txtsR m t else []

theorem made_str (n : Nat) : (madeCells #[Value.string ⟨#[]⟩] n).toList = List.replicate n (Value.string ⟨#[]⟩) := by
 unfold madeCells
 apply List.ext_getElem
 ·simp
 ·intro i h1 h2
  simp[Nat.mod_one]

theorem txts_fill (k m : Nat) (t : List UInt8) (h : k < m) : ((txtsD k t).map enc ++ List.replicate (m - k) (Value.string ⟨#[]⟩)).set k (.string ⟨(txtD (txtsR k t)).toArray⟩) = (txtsD (k + 1) t).map enc ++ List.replicate (m - (k + 1)) (Value.string ⟨#[]⟩) := by
 have hk:m - k=(m - (k+1))+1:=by omega
 have hl:((txtsD k t).map enc).length=k:=by simp[txtsD_len]
 rw[hk,List.replicate_succ,List.set_append_right _ _ (by rw[hl]; omega),hl,Nat.sub_self,List.set_cons_zero,txtsD_succ]
 simp[enc]

set_option maxRecDepth 4000 in
set_option maxHeartbeats 2000000 in
theorem readLog_any (T : List UInt8) (m : Nat) (w : World) (hl : T.length ≤ 4000) (hm : m ≤ 60) :
  Calls Tryz.prog 42 #[.string ⟨T.toArray⟩, .int .i64 m] w fun e w' => ∃ v',e = .returned (.tuple #[v', .string ⟨(rlogR m T).toArray⟩, .int .i64 (txtsE m T)])∧w'.ownsRow w.heap.size 9 1 v' (rlogD m T).length ((rlogD m T).map enc)∧Below w.heap.size w w' := by
 go_enter Tryz.func42,Tryz.ntmps42
 go_wp2_with (at_make; refine wpList_make_full _ rfl _ _ 42 rfl w.heap.size 9 Tryz.t9 _ 1 Tryz.underlying42 infoStr zeroStr sizeStr .i64 .i64 m m m rfl rfl rfl rfl (by rw[bytesStr]; omega) (by unfold maxLen; omega) (Nat.le_refl _) ?_)
 intro w1 hown hg
 rw[made_str] at hown
 have hb1:Below w.heap.size w w1:=(Below.refl _ _).grown hg (Nat.le_refl _) (fun _ h=>by cases h)
 have HI:Hid (Below w.heap.size w w1∧w1.ownsRow w.heap.size 9 1 (.slice (some ⟨w.heap.size,0,none⟩) m m) m ((txtsD 0 T).map enc ++ List.replicate (m - 0) (Value.string ⟨#[]⟩))):=⟨hb1,hown⟩
 clear hown hg hb1
 go_wp2_with fail
 go_loopw [0,16] (fun x i wr => ∃ k:Nat,k≤m∧i = .int .i64 k∧x = .string ⟨(txtsR k T).toArray⟩∧txtsE k T=0∧Below w.heap.size w wr∧wr.ownsRow w.heap.size 9 1 (.slice (some ⟨w.heap.size,0,none⟩) m m) m ((txtsD k T).map enc ++ List.replicate (m - k) (Value.string ⟨#[]⟩))) (fun _ i wr=>m - (intOf i).toNat)
 case atStart=>exact⟨0,by omega,rfl,rfl,rfl,HI.out.1,HI.out.2⟩
 case round =>
  clear HI
  obtain⟨k,hk,rfl,rfl,hE0,hbr,hown⟩:=hrel
  by_cases hlt:k < m
  ·have HNI:Hid (∀ w,Calls _ _ _ w _):=fun w=>readText_is (txtsR k T) w (by have:=txtsR_le k T; omega)
   have HFL:Hid (((txtsD k T).map enc ++ List.replicate (m - k) (Value.string ⟨#[]⟩)).set k (.string ⟨(txtD (txtsR k T)).toArray⟩)=(txtsD (k+1) T).map enc ++ List.replicate (m - (k+1)) (Value.string ⟨#[]⟩)):=txts_fill k m T hlt
   have HR1:Hid (txtsR (k+1) T=txtR (txtsR k T)):=txtsR_succ k T
   have HE1:Hid (txtsE (k+1) T=txtE (txtsR k T)):=by unfold Hid; rw[txtsE_succ,if_pos hE0]
   have HOW:Hid (wr.ownsRow _ _ _ _ _ _):=hown
   have HBR:Hid (Below w.heap.size w wr):=hbr
   clear hE0 hown hbr
   obtain⟨NS,HNS⟩ : ∃ NS,(txtsD k T).map enc ++ List.replicate (m - k) (Value.string ⟨#[]⟩)=NS:=⟨_,rfl⟩
   rw[HNS] at HOW HFL
   clear HNS
   obtain⟨x,hx⟩ : ∃ x,txtD (txtsR k T)=x:=⟨_,rfl⟩
   obtain⟨y,hy⟩ : ∃ y,txtR (txtsR k T)=y:=⟨_,rfl⟩
   obtain⟨z,hz⟩ : ∃ z,txtE (txtsR k T)=z:=⟨_,rfl⟩
   rw[hx,hy,hz] at HNI
   rw[hx] at HFL
   rw[hy] at HR1
   rw[hz] at HE1
   clear hx hy hz
   obtain⟨R,hR⟩ : ∃ R,txtsR k T=R:=⟨_,rfl⟩
   rw[hR] at HNI ⊢
   clear hR
   have k0:(0:Int)≤(k:Int):=by omega
   have k1:(k:Int) < (m:Int):=by omega
   go_wp2_with fail
   refine (HNI.out _).mono ?_
   rintro e w4 ⟨rfl,hb4⟩
   have HB4:Hid (Below w.heap.size w w4):=Below.far HBR.out hb4
   have J:=own_below HOW.out hb4 (own_lt HOW.out)
   obtain⟨g',cap',hv',_,_,t0,t1⟩:=own_cellN J (by decide) k (by omega)
   cases hv'
   have hxl:NS.length=m:=by have:=J.1; simpa using this
   have t0' : w4.cell? ⟨w.heap.size,k,none⟩=some (NS[k]'(by omega)):=by rw[t0,List.getElem?_eq_getElem]
   have HJ:Hid (World.ownsRow _ _ _ _ _ _ _):=own_set J k (.string ⟨x.toArray⟩)
   have HBJ:Hid (Below w.heap.size w _):=HB4.out.setCell (p:=⟨w.heap.size,k,none⟩) (by simp) (.string ⟨x.toArray⟩)
   obtain⟨u,hu⟩ : ∃ u,NS[k]'(by omega)=u:=⟨_,rfl⟩
   rw[hu] at t0'
   clear J HNI HOW hb4 t0 hu
   by_cases hz0:z=0
   ·subst hz0
    go_wp2_with fail
    go_roundw
    case rel=>exact⟨k+1,by omega,by go_num,by rw[HR1.out],HE1.out,HBJ.out,by rw[← HFL.out]; exact HJ.out⟩
    case measure=>simp[intOf]; omega
   ·have c1:(z == 0)=false:=by simpa using hz0
    have c2:(z != 0)=true:=by simpa using hz0
    have HX:Hid (txtsE m T=z∧rlogD m T = []∧rlogR m T = []):=by
     have e6:=txtsE_stop (k+1) m T (by rw[HE1.out]; exact hz0) (by omega)
     have e:txtsE m T=z:=by rw[e6,HE1.out]
     have ne : ¬ txtsE m T=0:=by rw[e]; exact hz0
     exact⟨e,by unfold rlogD; rw[if_neg ne],by unfold rlogR; rw[if_neg ne]⟩
    clear t0' t1 hz0 HJ HBJ
    go_wp2_with fail
    go_ret3
    rw[HX.out.1,HX.out.2.1,HX.out.2.2]
    exact⟨_,rfl,World.ownsRow_nil _ _ _ _,HB4.out⟩
  ·obtain rfl:k=m:=by omega
   have HX:Hid (txtsE k T=0∧rlogD k T=txtsD k T∧rlogR k T=txtsR k T):=by
    exact⟨hE0,by unfold rlogD; rw[if_pos hE0],by unfold rlogR; rw[if_pos hE0]⟩
   have HOW:Hid (wr.ownsRow w.heap.size 9 1 (.slice (some ⟨w.heap.size,0,none⟩) k k) k ((txtsD k T).map enc)):=by
    unfold Hid
    rw[Nat.sub_self] at hown
    simpa using hown
   have HBR:Hid (Below w.heap.size w wr):=hbr
   clear hE0 hown hbr
   go_wp2_with fail
   go_ret3
   rw[HX.out.1,HX.out.2.1,HX.out.2.2]
   exact⟨_,rfl,by rw[txtsD_len]; exact HOW.out,HBR.out⟩

end Go.Proofs.YtmdgkjbiicaljahGreatDoor
