/-
  No cell of these rows narrows 'for every input' (looked for: loops, veiled, ifaces, maps, wideKeys, modest, calm, conditions, laid).
  DERIVED. THE GIVEN ROWS OF THIS SEAT. 5 by the template 'for every input the law returns true; each argument reads behind the call as it read before'; 0 by the template 'total and deterministic' (their statements: YtdkgciemnkgcpabTotals.lean).
  GIVEN WITH THE SEED: the statements are not yours to turn. If you find one false, say at which input.
  Laid BY PROGRAM, IN A SANDBOX (cutbox-rows.mjs): the forced cells as the released guide's own fill.sh prints them over the translation db80f55e57caa48d… (all of the seat's roots in one cut). By AI agents, Wed Nov 11 2026. No macro, syntax, notation, axiom, sorry.
-/
import Derived.Test.YtdkgciemnkgcpabChecked
import GoSem.Claim
import GoSem.ClaimJoined
import GoSem.ClaimMapViews
import Derived.JoinedTies
import Derived.KernelRfl
namespace Go.Proofs.Ytdkgciemnkgcpab
/- THE CELL 'sum', in the pinned program and in every row, IS THE sha256 OF THE DUMP (.gsa) THAT YtdkgciemnkgcpabProg.lean LOADS. Nothing in Lean hashes anything: it is a label: what it is worth is what the hold of that sum in a sandbox is worth. -/
noncomputable def Try.pinned : Pinned := { name := "ytdkgciemnkgcpab", sum := "db80f55e57caa48dde0d24a82d0e9026e79ebc24b6436973806f8ff3ea73f3fe", checked := Try.checked }
namespace Rows
def none {H : Type} : Left H := { results := [], args := [] }

/-- 'scullinglaw.VolumeNew': WHATEVER THE INPUT: true; the input reads as it did. -/
def volumeNewSpec : ChangeSpec := { name := "volumeNew", fn := fun _ => fun
  | [] => { results := [.lit (.bool true)], args := [] }
  | _ => none }
def volumeNewRow : OpenClaim := { program := "ytdkgciemnkgcpab", sum := "db80f55e57caa48dde0d24a82d0e9026e79ebc24b6436973806f8ff3ea73f3fe", func := "sculling/scullinglaw.VolumeNew", spec := "volumeNew", apart := false }
def VolumeNewSaid : Prop := volumeNewRow.holds Try.pinned (OpenSpec.ofChange volumeNewSpec)

/-- ITS FALSE NEIGHBOUR: 'it returns false'. Refute it at one input. -/
def volumeNewWrong : ChangeSpec := { name := "volumeNew", fn := fun _ => fun
  | [] => { results := [.lit (.bool false)], args := [] }
  | _ => none }
def VolumeNewWrongFalsely : Prop := volumeNewRow.holds Try.pinned (OpenSpec.ofChange volumeNewWrong)

/-- 'scullinglaw.VolumeChecks': WHATEVER THE INPUT: true; the input reads as it did. -/
def volumeChecksSpec : ChangeSpec := { name := "volumeChecks", fn := fun _ => fun
  | [d] => { results := [.lit (.bool true)], args := [d] }
  | _ => none }
def volumeChecksRow : OpenClaim := { program := "ytdkgciemnkgcpab", sum := "db80f55e57caa48dde0d24a82d0e9026e79ebc24b6436973806f8ff3ea73f3fe", func := "sculling/scullinglaw.VolumeChecks", spec := "volumeChecks", unfollowed := true, recurses := true, apart := false }
def VolumeChecksSaid : Prop := volumeChecksRow.holds Try.pinned (OpenSpec.ofChange volumeChecksSpec)

/-- ITS FALSE NEIGHBOUR: 'it returns false'. Refute it at one input. -/
def volumeChecksWrong : ChangeSpec := { name := "volumeChecks", fn := fun _ => fun
  | [d] => { results := [.lit (.bool false)], args := [d] }
  | _ => none }
def VolumeChecksWrongFalsely : Prop := volumeChecksRow.holds Try.pinned (OpenSpec.ofChange volumeChecksWrong)

/-- 'scullinglaw.VolumeCopies': WHATEVER THE INPUT: true; the input reads as it did. -/
def volumeCopiesSpec : ChangeSpec := { name := "volumeCopies", fn := fun _ => fun
  | [d] => { results := [.lit (.bool true)], args := [d] }
  | _ => none }
def volumeCopiesRow : OpenClaim := { program := "ytdkgciemnkgcpab", sum := "db80f55e57caa48dde0d24a82d0e9026e79ebc24b6436973806f8ff3ea73f3fe", func := "sculling/scullinglaw.VolumeCopies", spec := "volumeCopies", apart := false }
def VolumeCopiesSaid : Prop := volumeCopiesRow.holds Try.pinned (OpenSpec.ofChange volumeCopiesSpec)

/-- ITS FALSE NEIGHBOUR: 'it returns false'. Refute it at one input. -/
def volumeCopiesWrong : ChangeSpec := { name := "volumeCopies", fn := fun _ => fun
  | [d] => { results := [.lit (.bool false)], args := [d] }
  | _ => none }
def VolumeCopiesWrongFalsely : Prop := volumeCopiesRow.holds Try.pinned (OpenSpec.ofChange volumeCopiesWrong)

/-- 'scullinglaw.VolumeOps': WHATEVER THE INPUT: true; the input reads as it did. -/
def volumeOpsSpec : ChangeSpec := { name := "volumeOps", fn := fun _ => fun
  | [d] => { results := [.lit (.bool true)], args := [d] }
  | _ => none }
def volumeOpsRow : OpenClaim := { program := "ytdkgciemnkgcpab", sum := "db80f55e57caa48dde0d24a82d0e9026e79ebc24b6436973806f8ff3ea73f3fe", func := "sculling/scullinglaw.VolumeOps", spec := "volumeOps", apart := false }
def VolumeOpsSaid : Prop := volumeOpsRow.holds Try.pinned (OpenSpec.ofChange volumeOpsSpec)

/-- ITS FALSE NEIGHBOUR: 'it returns false'. Refute it at one input. -/
def volumeOpsWrong : ChangeSpec := { name := "volumeOps", fn := fun _ => fun
  | [d] => { results := [.lit (.bool false)], args := [d] }
  | _ => none }
def VolumeOpsWrongFalsely : Prop := volumeOpsRow.holds Try.pinned (OpenSpec.ofChange volumeOpsWrong)

/-- 'scullinglaw.VolumeDoes': WHATEVER THE INPUT: true; the input reads as it did. -/
def volumeDoesSpec : ChangeSpec := { name := "volumeDoes", fn := fun _ => fun
  | [d1, d2] => { results := [.lit (.bool true)], args := [d1, d2] }
  | _ => none }
def volumeDoesRow : OpenClaim := { program := "ytdkgciemnkgcpab", sum := "db80f55e57caa48dde0d24a82d0e9026e79ebc24b6436973806f8ff3ea73f3fe", func := "sculling/scullinglaw.VolumeDoes", spec := "volumeDoes", unfollowed := true, recurses := true, apart := false }
def VolumeDoesSaid : Prop := volumeDoesRow.holds Try.pinned (OpenSpec.ofChange volumeDoesSpec)

/-- ITS FALSE NEIGHBOUR: 'it returns false'. Refute it at one input. -/
def volumeDoesWrong : ChangeSpec := { name := "volumeDoes", fn := fun _ => fun
  | [d1, d2] => { results := [.lit (.bool false)], args := [d1, d2] }
  | _ => none }
def VolumeDoesWrongFalsely : Prop := volumeDoesRow.holds Try.pinned (OpenSpec.ofChange volumeDoesWrong)

/- THE SECOND FORM. 'bulk': how many values and letters a reading holds, each counted each time it is reached (what is shared counts as often as it is met; a slice's spare places count too). A statement '..UptoSaid' is the law's where the arguments, and the package variables that the reading takes, are together of bulk at most 1048576: NARROWER than '..Said'. Prove '..Said' where nothing that the law and all that it calls make is longer than what came in: it says more and counts as full. Else prove '..UptoSaid'. A law counts once. -/
mutual
def uptoBulk {H : Type} : DataW H → Nat
  | .lit (.string bytes) => bytes.length + 1
  | .lit _ => 1
  | .nil => 1
  | .ptr d => uptoBulk d + 1
  | .slice elems spare => uptoBulkAll elems + uptoBulkAll spare + 1
  | .agg parts => uptoBulkAll parts + 1
  | .iface _ d => uptoBulk d + 1
  | .map entries => uptoBulkEntries entries + 1
  | .held _ => 1
def uptoBulkAll {H : Type} : List (DataW H) → Nat
  | [] => 0
  | d :: r => uptoBulk d + uptoBulkAll r
def uptoBulkEntries {H : Type} : List (Lit × DataW H) → Nat
  | [] => 0
  | x :: r => uptoBulkEntry x + uptoBulkEntries r
def uptoBulkEntry {H : Type} : Lit × DataW H → Nat
  | (.string bytes, d) => bytes.length + uptoBulk d + 1
  | (_, d) => uptoBulk d + 1
 end
def uptoSmall : (H : Type) → List (DataW H) → Bool := fun _ ds => decide (uptoBulkAll ds ≤ 1048576)
def OpenSpec.upto (s : _root_.Go.ChangeSpec) : _root_.Go.OpenSpec := { _root_.Go.OpenSpec.ofChange s with cond := some uptoSmall }

/-- 'scullinglaw.VolumeNew', WHERE WHAT IT READS IS OF BULK AT MOST 1048576: true; the input reads as it did. -/
def volumeNewUptoRow : OpenClaim := { program := "ytdkgciemnkgcpab", sum := "db80f55e57caa48dde0d24a82d0e9026e79ebc24b6436973806f8ff3ea73f3fe", func := "sculling/scullinglaw.VolumeNew", spec := "volumeNew", apart := false, narrowed := true }
def VolumeNewUptoSaid : Prop := volumeNewUptoRow.holds Try.pinned (OpenSpec.upto volumeNewSpec)

/-- 'scullinglaw.VolumeChecks', WHERE WHAT IT READS IS OF BULK AT MOST 1048576: true; the input reads as it did. -/
def volumeChecksUptoRow : OpenClaim := { program := "ytdkgciemnkgcpab", sum := "db80f55e57caa48dde0d24a82d0e9026e79ebc24b6436973806f8ff3ea73f3fe", func := "sculling/scullinglaw.VolumeChecks", spec := "volumeChecks", unfollowed := true, recurses := true, apart := false, narrowed := true }
def VolumeChecksUptoSaid : Prop := volumeChecksUptoRow.holds Try.pinned (OpenSpec.upto volumeChecksSpec)

/-- 'scullinglaw.VolumeCopies', WHERE WHAT IT READS IS OF BULK AT MOST 1048576: true; the input reads as it did. -/
def volumeCopiesUptoRow : OpenClaim := { program := "ytdkgciemnkgcpab", sum := "db80f55e57caa48dde0d24a82d0e9026e79ebc24b6436973806f8ff3ea73f3fe", func := "sculling/scullinglaw.VolumeCopies", spec := "volumeCopies", apart := false, narrowed := true }
def VolumeCopiesUptoSaid : Prop := volumeCopiesUptoRow.holds Try.pinned (OpenSpec.upto volumeCopiesSpec)

/-- 'scullinglaw.VolumeOps', WHERE WHAT IT READS IS OF BULK AT MOST 1048576: true; the input reads as it did. -/
def volumeOpsUptoRow : OpenClaim := { program := "ytdkgciemnkgcpab", sum := "db80f55e57caa48dde0d24a82d0e9026e79ebc24b6436973806f8ff3ea73f3fe", func := "sculling/scullinglaw.VolumeOps", spec := "volumeOps", apart := false, narrowed := true }
def VolumeOpsUptoSaid : Prop := volumeOpsUptoRow.holds Try.pinned (OpenSpec.upto volumeOpsSpec)

/-- 'scullinglaw.VolumeDoes', WHERE WHAT IT READS IS OF BULK AT MOST 1048576: true; the input reads as it did. -/
def volumeDoesUptoRow : OpenClaim := { program := "ytdkgciemnkgcpab", sum := "db80f55e57caa48dde0d24a82d0e9026e79ebc24b6436973806f8ff3ea73f3fe", func := "sculling/scullinglaw.VolumeDoes", spec := "volumeDoes", unfollowed := true, recurses := true, apart := false, narrowed := true }
def VolumeDoesUptoSaid : Prop := volumeDoesUptoRow.holds Try.pinned (OpenSpec.upto volumeDoesSpec)

end Rows
end Go.Proofs.Ytdkgciemnkgcpab
