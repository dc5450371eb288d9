/- The program's own copies of a state's lasts and of a state; what a client was told. -/
import Derived.Test.YtpbiojnmegemdadDoorVolGoCopy
import Derived.Test.YtpbiojnmegemdadDoorSteps
import Derived.Test.YtpbiojnmegemdadDoorMachMem
import Derived.Test.YtpbiojnmegemdadDoorCopyWide
import Derived.Test.YtpbiojnmegemdadDoorLastInfo
import Derived.Deep.RegionLaw
import Derived.Deep.DeepCutAuto
import Derived.BigRegion
namespace Go.Proofs.YtpbiojnmegemdadDoor
open Go.RowKit
set_option linter.unusedVariables false
set_option linter.unusedSimpArgs false
attribute [local go_sem] app_list ext_list get_list byteAt_zero

set_option maxHeartbeats 1000000 in
theorem copyLasts_any (x : List LastM) (v : Value) (w : World) (hx : LastsAt w v x) :
    Calls Tryd.prog 32 #[v] w fun e w' => ∃ v', e = .returned v' ∧ w'.ownsRow w.heap.size 51 4 v' x.length (lastsCells x) ∧ Below w.heap.size w w' := by
  have hx0 : Hid (LastsAt w v x) := hx
  obtain ⟨a, c, rfl, hlx, hcx⟩ := hx
  go_enter Tryd.func32, Tryd.ntmps32
  go_wp2_with (at_make; refine wpList_make_full _ rfl _ _ 41 rfl w.heap.size 51 Tryd.t51 _ 4 Tryd.underlying41 infoLast zeroLastV sizeLast .i64 .i64 x.length x.length x.length rfl rfl rfl rfl (by rw [bytesLast]; omega) (by unfold maxLen; omega) (Nat.le_refl _) ?_)
  intro w1 hown hg
  obtain ⟨g, cap, cur, hv, hb, hgc, _, hm, hcur, hcc⟩ := hown.2.resolve_left (by rintro ⟨h, _⟩; cases h)
  cases hv
  have hb1 : Below w.heap.size w w1 := (Below.refl _ _).grown hg (Nat.le_refl _) (fun _ h => by cases h)
  have Hr1 : Hid (RowAt w1 (.slice a x.length c) x.length 4 (lastsCells x)) := (hx0.out.below hb1).row
  have HG : Hid (w1.heap[w.heap.size]? = some (.cells cur.toList.toArray 51 (0, 0))) := by unfold Hid; simpa using hgc
  have HL : Hid (cur.toList.length = x.length * 4) := by unfold Hid; simpa using hcur
  have HM : Hid (x.length ≤ maxLen) := hm
  clear hx0 hgc hm hcur hcc hown hg hcx
  go_wp2_with (refine show wpList _ _ _ ({ dst := _, op := .call { callee := .builtin .copy, args := _, argTypes := _ }, type := _, pos := _, after := _, guard := _ } :: _) _ _ from ?_; refine wpList_copy_full rfl _ _ 41 41 rfl 51 4 Tryd.underlying41 (by kernel_rfl) (by decide) w.heap.size x.length _ _ rfl rfl cur.toList (lastsCells x) 51 HG.out HL.out Hr1.out (lastsCells_one _) w.heap.size w hb1 (Nat.le_refl _) ?_)
  intro w2 HW2 hb2
  have HO : Hid (World.ownsRow w2 w.heap.size 51 4 (.slice (some ⟨w.heap.size, 0, none⟩) x.length x.length) x.length (lastsCells x)) := by
    refine ⟨by rw [lastsCells_len], Or.inr ⟨_, _, _, rfl, Nat.le_refl _, HW2.out, Nat.le_refl _, HM.out, ?_, ?_⟩⟩
    · simp [lastsCells_len]
    · simp [List.take_of_length_le, lastsCells_len]
  clear HW2 HG Hr1
  go_wp2_with fail
  go_ret
  exact ⟨_, rfl, HO.out, hb2⟩

theorem toldIn_any (vn vs vl : Value) (w : World) (hn : vn.oneCell' = true) (hs : vs.oneCell' = true) (hl : vl.oneCell' = true) :
    Calls Tryd.prog 29 #[.agg #[vn, vs, vl]] w fun e w' => ∃ v', e = .returned v' ∧ (v' = .func (.func 39) #[] #[.pointer (some ⟨w.heap.size, 0, none⟩)] ∧ w' = w.alloc (.cells #[vn, vs, vl] 43)) := by
  have hmf : ∀ (fn : Fn) (first cap : Array Value) (w : World), (Instr.makeFunc fn first cap).run Tryd.prog w = .ok (.func fn first cap) w := fun _ _ _ _ => rfl
  go_enter Tryd.func29, Tryd.ntmps29
  go_wp2_with fail
  go_ret
  exact ⟨_, rfl, rfl, rfl⟩

set_option maxHeartbeats 1000000 in
theorem told_any (l : List LastM) (i : Nat) (vn vs vl : Value) (b : Nat) (w : World) (hbx : Box w b 43 [vn, vs, vl]) (h : LastsAt w vl l) (hi : i < l.length) :
    Calls Tryd.prog 39 #[.int .i64 ((i : Int) + 1), .pointer (some ⟨b, 0, none⟩)] w fun e w' => e = .returned (.agg #[.int .i64 (l.getD i zeroLast).num, .int .i64 (l.getD i zeroLast).rep.code, .int .i64 (l.getD i zeroLast).rep.n, .string ⟨(l.getD i zeroLast).rep.data.toArray⟩]) ∧ Below w.heap.size w w' := by
  obtain ⟨a, c, rfl, hlx, hcx⟩ := h
  obtain ⟨b', o', rfl, p0, p1, p2, p3, _⟩ := hcx i hi
  have lb := lt_of_cell p0
  have x2 := hbx.cell 2 _ rfl
  have lx := hbx.lt
  have k0 : (0 : Int) ≤ (i : Int) := by omega
  have k1 : (i : Int) < (l.length : Int) := by omega
  have ne1 : ¬ b = w.heap.size := by omega
  have ne2 : ¬ b' = w.heap.size := by omega
  clear hcx hbx
  generalize l.getD i zeroLast = y at *
  go_enter Tryd.func39, Tryd.ntmps39
  go_wp2_with fail
  exact bodyPost_ret (v := .agg #[.int .i64 y.num, .int .i64 y.rep.code, .int .i64 y.rep.n, .string ⟨y.rep.data.toArray⟩]) (by simp [results, Tryd.results39, go_sem]) rfl ⟨rfl, below_alloc _ _⟩

end Go.Proofs.YtpbiojnmegemdadDoor
