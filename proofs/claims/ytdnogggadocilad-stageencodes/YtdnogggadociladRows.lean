/-
  No cell of these rows narrows 'for every input' (looked for: loops, veiled, ifaces, maps, wideKeys, modest, calm, conditions, laid).
  DERIVED. THE GIVEN ROWS OF THIS SEAT. 4 by the template 'for every input the law returns true; each argument reads behind the call as it read before'; 0 by the template 'total and deterministic' (their statements: YtdnogggadociladTotals.lean).
  GIVEN WITH THE SEED: the statements are not yours to turn. If you find one false, say at which input.
  Laid BY PROGRAM, IN A SANDBOX (cutbox-rows.mjs): the forced cells as the released guide's own fill.sh prints them over the translation 4c04da7814b7ae7f… (all of the seat's roots in one cut). By AI agents, Wed Nov 11 2026. No macro, syntax, notation, axiom, sorry.
-/
import Derived.Test.YtdnogggadociladChecked
import GoSem.Claim
import GoSem.ClaimJoined
import GoSem.ClaimMapViews
import Derived.JoinedTies
import Derived.KernelRfl
namespace Go.Proofs.Ytdnogggadocilad
/- THE CELL 'sum', in the pinned program and in every row, IS THE sha256 OF THE DUMP (.gsa) THAT YtdnogggadociladProg.lean LOADS. Nothing in Lean hashes anything: it is a label: what it is worth is what the hold of that sum in a sandbox is worth. -/
noncomputable def Try.pinned : Pinned := { name := "ytdnogggadocilad", sum := "4c04da7814b7ae7fd62df2b728dbe9c4e4093601b5f65dbab02628749719dcf6", checked := Try.checked }
namespace Rows
def none {H : Type} : Left H := { results := [], args := [] }

/-- 'scullinglaw.MachinePlays': WHATEVER THE INPUT: true; the input reads as it did. -/
def machinePlaysSpec : ChangeSpec := { name := "machinePlays", fn := fun _ => fun
  | [d] => { results := [.lit (.bool true)], args := [d] }
  | _ => none }
def machinePlaysRow : OpenClaim := { program := "ytdnogggadocilad", sum := "4c04da7814b7ae7fd62df2b728dbe9c4e4093601b5f65dbab02628749719dcf6", func := "sculling/scullinglaw.MachinePlays", spec := "machinePlays", unfollowed := true, recurses := true, apart := false }
def MachinePlaysSaid : Prop := machinePlaysRow.holds Try.pinned (OpenSpec.ofChange machinePlaysSpec)

/-- ITS FALSE NEIGHBOUR: 'it returns false'. Refute it at one input. -/
def machinePlaysWrong : ChangeSpec := { name := "machinePlays", fn := fun _ => fun
  | [d] => { results := [.lit (.bool false)], args := [d] }
  | _ => none }
def MachinePlaysWrongFalsely : Prop := machinePlaysRow.holds Try.pinned (OpenSpec.ofChange machinePlaysWrong)

/-- 'scullinglaw.StageChecks': WHATEVER THE INPUT: true; the input reads as it did. -/
def stageChecksSpec : ChangeSpec := { name := "stageChecks", fn := fun _ => fun
  | [d] => { results := [.lit (.bool true)], args := [d] }
  | _ => none }
def stageChecksRow : OpenClaim := { program := "ytdnogggadocilad", sum := "4c04da7814b7ae7fd62df2b728dbe9c4e4093601b5f65dbab02628749719dcf6", func := "sculling/scullinglaw.StageChecks", spec := "stageChecks", apart := false }
def StageChecksSaid : Prop := stageChecksRow.holds Try.pinned (OpenSpec.ofChange stageChecksSpec)

/-- ITS FALSE NEIGHBOUR: 'it returns false'. Refute it at one input. -/
def stageChecksWrong : ChangeSpec := { name := "stageChecks", fn := fun _ => fun
  | [d] => { results := [.lit (.bool false)], args := [d] }
  | _ => none }
def StageChecksWrongFalsely : Prop := stageChecksRow.holds Try.pinned (OpenSpec.ofChange stageChecksWrong)

/-- 'scullinglaw.StageCopies': WHATEVER THE INPUT: true; the input reads as it did. -/
def stageCopiesSpec : ChangeSpec := { name := "stageCopies", fn := fun _ => fun
  | [d] => { results := [.lit (.bool true)], args := [d] }
  | _ => none }
def stageCopiesRow : OpenClaim := { program := "ytdnogggadocilad", sum := "4c04da7814b7ae7fd62df2b728dbe9c4e4093601b5f65dbab02628749719dcf6", func := "sculling/scullinglaw.StageCopies", spec := "stageCopies", apart := false }
def StageCopiesSaid : Prop := stageCopiesRow.holds Try.pinned (OpenSpec.ofChange stageCopiesSpec)

/-- ITS FALSE NEIGHBOUR: 'it returns false'. Refute it at one input. -/
def stageCopiesWrong : ChangeSpec := { name := "stageCopies", fn := fun _ => fun
  | [d] => { results := [.lit (.bool false)], args := [d] }
  | _ => none }
def StageCopiesWrongFalsely : Prop := stageCopiesRow.holds Try.pinned (OpenSpec.ofChange stageCopiesWrong)

/-- 'scullinglaw.StageEncodes': WHATEVER THE INPUT: true; the input reads as it did. -/
def stageEncodesSpec : ChangeSpec := { name := "stageEncodes", fn := fun _ => fun
  | [d1, d2] => { results := [.lit (.bool true)], args := [d1, d2] }
  | _ => none }
def stageEncodesRow : OpenClaim := { program := "ytdnogggadocilad", sum := "4c04da7814b7ae7fd62df2b728dbe9c4e4093601b5f65dbab02628749719dcf6", func := "sculling/scullinglaw.StageEncodes", spec := "stageEncodes", inPlace := ["internal/abi.NoEscape"], unfollowed := true, recurses := true, apart := false }
def StageEncodesSaid : Prop := stageEncodesRow.holds Try.pinned (OpenSpec.ofChange stageEncodesSpec)

/-- ITS FALSE NEIGHBOUR: 'it returns false'. Refute it at one input. -/
def stageEncodesWrong : ChangeSpec := { name := "stageEncodes", fn := fun _ => fun
  | [d1, d2] => { results := [.lit (.bool false)], args := [d1, d2] }
  | _ => none }
def StageEncodesWrongFalsely : Prop := stageEncodesRow.holds Try.pinned (OpenSpec.ofChange stageEncodesWrong)

/- THE SECOND FORM. 'bulk': how many values and letters a reading holds, each counted each time it is reached (what is shared counts as often as it is met; a slice's spare places count too). A statement '..UptoSaid' is the law's where the arguments, and the package variables that the reading takes, are together of bulk at most 1048576: NARROWER than '..Said'. Prove '..Said' where nothing that the law and all that it calls make is longer than what came in: it says more and counts as full. Else prove '..UptoSaid'. A law counts once. -/
mutual
def uptoBulk {H : Type} : DataW H → Nat
  | .lit (.string bytes) => bytes.length + 1
  | .lit _ => 1
  | .nil => 1
  | .ptr d => uptoBulk d + 1
  | .slice elems spare => uptoBulkAll elems + uptoBulkAll spare + 1
  | .agg parts => uptoBulkAll parts + 1
  | .iface _ d => uptoBulk d + 1
  | .map entries => uptoBulkEntries entries + 1
  | .held _ => 1
def uptoBulkAll {H : Type} : List (DataW H) → Nat
  | [] => 0
  | d :: r => uptoBulk d + uptoBulkAll r
def uptoBulkEntries {H : Type} : List (Lit × DataW H) → Nat
  | [] => 0
  | x :: r => uptoBulkEntry x + uptoBulkEntries r
def uptoBulkEntry {H : Type} : Lit × DataW H → Nat
  | (.string bytes, d) => bytes.length + uptoBulk d + 1
  | (_, d) => uptoBulk d + 1
 end
def uptoSmall : (H : Type) → List (DataW H) → Bool := fun _ ds => decide (uptoBulkAll ds ≤ 1048576)
def OpenSpec.upto (s : _root_.Go.ChangeSpec) : _root_.Go.OpenSpec := { _root_.Go.OpenSpec.ofChange s with cond := some uptoSmall }

/-- 'scullinglaw.MachinePlays', WHERE WHAT IT READS IS OF BULK AT MOST 1048576: true; the input reads as it did. -/
def machinePlaysUptoRow : OpenClaim := { program := "ytdnogggadocilad", sum := "4c04da7814b7ae7fd62df2b728dbe9c4e4093601b5f65dbab02628749719dcf6", func := "sculling/scullinglaw.MachinePlays", spec := "machinePlays", unfollowed := true, recurses := true, apart := false, narrowed := true }
def MachinePlaysUptoSaid : Prop := machinePlaysUptoRow.holds Try.pinned (OpenSpec.upto machinePlaysSpec)

/-- 'scullinglaw.StageChecks', WHERE WHAT IT READS IS OF BULK AT MOST 1048576: true; the input reads as it did. -/
def stageChecksUptoRow : OpenClaim := { program := "ytdnogggadocilad", sum := "4c04da7814b7ae7fd62df2b728dbe9c4e4093601b5f65dbab02628749719dcf6", func := "sculling/scullinglaw.StageChecks", spec := "stageChecks", apart := false, narrowed := true }
def StageChecksUptoSaid : Prop := stageChecksUptoRow.holds Try.pinned (OpenSpec.upto stageChecksSpec)

/-- 'scullinglaw.StageCopies', WHERE WHAT IT READS IS OF BULK AT MOST 1048576: true; the input reads as it did. -/
def stageCopiesUptoRow : OpenClaim := { program := "ytdnogggadocilad", sum := "4c04da7814b7ae7fd62df2b728dbe9c4e4093601b5f65dbab02628749719dcf6", func := "sculling/scullinglaw.StageCopies", spec := "stageCopies", apart := false, narrowed := true }
def StageCopiesUptoSaid : Prop := stageCopiesUptoRow.holds Try.pinned (OpenSpec.upto stageCopiesSpec)

/-- 'scullinglaw.StageEncodes', WHERE WHAT IT READS IS OF BULK AT MOST 1048576: true; the input reads as it did. -/
def stageEncodesUptoRow : OpenClaim := { program := "ytdnogggadocilad", sum := "4c04da7814b7ae7fd62df2b728dbe9c4e4093601b5f65dbab02628749719dcf6", func := "sculling/scullinglaw.StageEncodes", spec := "stageEncodes", inPlace := ["internal/abi.NoEscape"], unfollowed := true, recurses := true, apart := false, narrowed := true }
def StageEncodesUptoSaid : Prop := stageEncodesUptoRow.holds Try.pinned (OpenSpec.upto stageEncodesSpec)

end Rows
end Go.Proofs.Ytdnogggadocilad
