/-
  No cell of these rows narrows 'for every input' (looked for: loops, veiled, ifaces, maps, wideKeys, modest, calm, conditions, laid).
  DERIVED. THE GIVEN ROWS OF THIS SEAT. 6 by the template 'for every input the law returns true; each argument reads behind the call as it read before'; 0 by the template 'total and deterministic' (their statements: YtpbiojnmegemdacTotals.lean).
  GIVEN WITH THE SEED: the statements are not yours to turn. If you find one false, say at which input.
  Laid BY PROGRAM, IN A SANDBOX (cutbox-rows.mjs): the forced cells as the released guide's own fill.sh prints them over the translation f4f26947ad3e3ad0… (all of the seat's roots in one cut). By AI agents, Wed Nov 11 2026. No macro, syntax, notation, axiom, sorry.
-/
import Derived.Test.YtpbiojnmegemdacChecked
import GoSem.Claim
import GoSem.ClaimJoined
import GoSem.ClaimMapViews
import Derived.JoinedTies
import Derived.KernelRfl
namespace Go.Proofs.Ytpbiojnmegemdac
/- THE CELL 'sum', in the pinned program and in every row, IS THE sha256 OF THE DUMP (.gsa) THAT YtpbiojnmegemdacProg.lean LOADS. Nothing in Lean hashes anything: it is a label: what it is worth is what the hold of that sum in a sandbox is worth. -/
noncomputable def Try.pinned : Pinned := { name := "ytpbiojnmegemdac", sum := "f4f26947ad3e3ad022ff75c14137cb3dd3f1a8a002f0f7061a35866fb14d5719", checked := Try.checked }
namespace Rows
def none {H : Type} : Left H := { results := [], args := [] }

/-- 'scullinglaw.MachineRequests': WHATEVER THE INPUT: true; the input reads as it did. -/
def machineRequestsSpec : ChangeSpec := { name := "machineRequests", fn := fun _ => fun
  | [d] => { results := [.lit (.bool true)], args := [d] }
  | _ => none }
def machineRequestsRow : OpenClaim := { program := "ytpbiojnmegemdac", sum := "f4f26947ad3e3ad022ff75c14137cb3dd3f1a8a002f0f7061a35866fb14d5719", func := "sculling/scullinglaw.MachineRequests", spec := "machineRequests", apart := false }
def MachineRequestsSaid : Prop := machineRequestsRow.holds Try.pinned (OpenSpec.ofChange machineRequestsSpec)

/-- ITS FALSE NEIGHBOUR: 'it returns false'. Refute it at one input. -/
def machineRequestsWrong : ChangeSpec := { name := "machineRequests", fn := fun _ => fun
  | [d] => { results := [.lit (.bool false)], args := [d] }
  | _ => none }
def MachineRequestsWrongFalsely : Prop := machineRequestsRow.holds Try.pinned (OpenSpec.ofChange machineRequestsWrong)

/-- 'scullinglaw.MachineEncodes': WHATEVER THE INPUT: true; the input reads as it did. -/
def machineEncodesSpec : ChangeSpec := { name := "machineEncodes", fn := fun _ => fun
  | [d] => { results := [.lit (.bool true)], args := [d] }
  | _ => none }
def machineEncodesRow : OpenClaim := { program := "ytpbiojnmegemdac", sum := "f4f26947ad3e3ad022ff75c14137cb3dd3f1a8a002f0f7061a35866fb14d5719", func := "sculling/scullinglaw.MachineEncodes", spec := "machineEncodes", apart := false }
def MachineEncodesSaid : Prop := machineEncodesRow.holds Try.pinned (OpenSpec.ofChange machineEncodesSpec)

/-- ITS FALSE NEIGHBOUR: 'it returns false'. Refute it at one input. -/
def machineEncodesWrong : ChangeSpec := { name := "machineEncodes", fn := fun _ => fun
  | [d] => { results := [.lit (.bool false)], args := [d] }
  | _ => none }
def MachineEncodesWrongFalsely : Prop := machineEncodesRow.holds Try.pinned (OpenSpec.ofChange machineEncodesWrong)

/-- 'scullinglaw.MachineDecodes': WHATEVER THE INPUT: true; the input reads as it did. -/
def machineDecodesSpec : ChangeSpec := { name := "machineDecodes", fn := fun _ => fun
  | [d] => { results := [.lit (.bool true)], args := [d] }
  | _ => none }
def machineDecodesRow : OpenClaim := { program := "ytpbiojnmegemdac", sum := "f4f26947ad3e3ad022ff75c14137cb3dd3f1a8a002f0f7061a35866fb14d5719", func := "sculling/scullinglaw.MachineDecodes", spec := "machineDecodes", apart := false }
def MachineDecodesSaid : Prop := machineDecodesRow.holds Try.pinned (OpenSpec.ofChange machineDecodesSpec)

/-- ITS FALSE NEIGHBOUR: 'it returns false'. Refute it at one input. -/
def machineDecodesWrong : ChangeSpec := { name := "machineDecodes", fn := fun _ => fun
  | [d] => { results := [.lit (.bool false)], args := [d] }
  | _ => none }
def MachineDecodesWrongFalsely : Prop := machineDecodesRow.holds Try.pinned (OpenSpec.ofChange machineDecodesWrong)

/-- 'scullinglaw.MachineNew': WHATEVER THE INPUT: true; the input reads as it did. -/
def machineNewSpec : ChangeSpec := { name := "machineNew", fn := fun _ => fun
  | [] => { results := [.lit (.bool true)], args := [] }
  | _ => none }
def machineNewRow : OpenClaim := { program := "ytpbiojnmegemdac", sum := "f4f26947ad3e3ad022ff75c14137cb3dd3f1a8a002f0f7061a35866fb14d5719", func := "sculling/scullinglaw.MachineNew", spec := "machineNew", apart := false }
def MachineNewSaid : Prop := machineNewRow.holds Try.pinned (OpenSpec.ofChange machineNewSpec)

/-- ITS FALSE NEIGHBOUR: 'it returns false'. Refute it at one input. -/
def machineNewWrong : ChangeSpec := { name := "machineNew", fn := fun _ => fun
  | [] => { results := [.lit (.bool false)], args := [] }
  | _ => none }
def MachineNewWrongFalsely : Prop := machineNewRow.holds Try.pinned (OpenSpec.ofChange machineNewWrong)

/-- 'scullinglaw.MachineChecks': WHATEVER THE INPUT: true; the input reads as it did. -/
def machineChecksSpec : ChangeSpec := { name := "machineChecks", fn := fun _ => fun
  | [d] => { results := [.lit (.bool true)], args := [d] }
  | _ => none }
def machineChecksRow : OpenClaim := { program := "ytpbiojnmegemdac", sum := "f4f26947ad3e3ad022ff75c14137cb3dd3f1a8a002f0f7061a35866fb14d5719", func := "sculling/scullinglaw.MachineChecks", spec := "machineChecks", unfollowed := true, recurses := true, apart := false }
def MachineChecksSaid : Prop := machineChecksRow.holds Try.pinned (OpenSpec.ofChange machineChecksSpec)

/-- ITS FALSE NEIGHBOUR: 'it returns false'. Refute it at one input. -/
def machineChecksWrong : ChangeSpec := { name := "machineChecks", fn := fun _ => fun
  | [d] => { results := [.lit (.bool false)], args := [d] }
  | _ => none }
def MachineChecksWrongFalsely : Prop := machineChecksRow.holds Try.pinned (OpenSpec.ofChange machineChecksWrong)

/-- 'scullinglaw.MachineApplies': WHATEVER THE INPUT: true; the input reads as it did. -/
def machineAppliesSpec : ChangeSpec := { name := "machineApplies", fn := fun _ => fun
  | [d1, d2] => { results := [.lit (.bool true)], args := [d1, d2] }
  | _ => none }
def machineAppliesRow : OpenClaim := { program := "ytpbiojnmegemdac", sum := "f4f26947ad3e3ad022ff75c14137cb3dd3f1a8a002f0f7061a35866fb14d5719", func := "sculling/scullinglaw.MachineApplies", spec := "machineApplies", unfollowed := true, recurses := true, apart := false }
def MachineAppliesSaid : Prop := machineAppliesRow.holds Try.pinned (OpenSpec.ofChange machineAppliesSpec)

/-- ITS FALSE NEIGHBOUR: 'it returns false'. Refute it at one input. -/
def machineAppliesWrong : ChangeSpec := { name := "machineApplies", fn := fun _ => fun
  | [d1, d2] => { results := [.lit (.bool false)], args := [d1, d2] }
  | _ => none }
def MachineAppliesWrongFalsely : Prop := machineAppliesRow.holds Try.pinned (OpenSpec.ofChange machineAppliesWrong)

/- THE SECOND FORM. 'bulk': how many values and letters a reading holds, each counted each time it is reached (what is shared counts as often as it is met; a slice's spare places count too). A statement '..UptoSaid' is the law's where the arguments, and the package variables that the reading takes, are together of bulk at most 1048576: NARROWER than '..Said'. Prove '..Said' where nothing that the law and all that it calls make is longer than what came in: it says more and counts as full. Else prove '..UptoSaid'. A law counts once. -/
mutual
def uptoBulk {H : Type} : DataW H → Nat
  | .lit (.string bytes) => bytes.length + 1
  | .lit _ => 1
  | .nil => 1
  | .ptr d => uptoBulk d + 1
  | .slice elems spare => uptoBulkAll elems + uptoBulkAll spare + 1
  | .agg parts => uptoBulkAll parts + 1
  | .iface _ d => uptoBulk d + 1
  | .map entries => uptoBulkEntries entries + 1
  | .held _ => 1
def uptoBulkAll {H : Type} : List (DataW H) → Nat
  | [] => 0
  | d :: r => uptoBulk d + uptoBulkAll r
def uptoBulkEntries {H : Type} : List (Lit × DataW H) → Nat
  | [] => 0
  | x :: r => uptoBulkEntry x + uptoBulkEntries r
def uptoBulkEntry {H : Type} : Lit × DataW H → Nat
  | (.string bytes, d) => bytes.length + uptoBulk d + 1
  | (_, d) => uptoBulk d + 1
 end
def uptoSmall : (H : Type) → List (DataW H) → Bool := fun _ ds => decide (uptoBulkAll ds ≤ 1048576)
def OpenSpec.upto (s : _root_.Go.ChangeSpec) : _root_.Go.OpenSpec := { _root_.Go.OpenSpec.ofChange s with cond := some uptoSmall }

/-- 'scullinglaw.MachineRequests', WHERE WHAT IT READS IS OF BULK AT MOST 1048576: true; the input reads as it did. -/
def machineRequestsUptoRow : OpenClaim := { program := "ytpbiojnmegemdac", sum := "f4f26947ad3e3ad022ff75c14137cb3dd3f1a8a002f0f7061a35866fb14d5719", func := "sculling/scullinglaw.MachineRequests", spec := "machineRequests", apart := false, narrowed := true }
def MachineRequestsUptoSaid : Prop := machineRequestsUptoRow.holds Try.pinned (OpenSpec.upto machineRequestsSpec)

/-- 'scullinglaw.MachineEncodes', WHERE WHAT IT READS IS OF BULK AT MOST 1048576: true; the input reads as it did. -/
def machineEncodesUptoRow : OpenClaim := { program := "ytpbiojnmegemdac", sum := "f4f26947ad3e3ad022ff75c14137cb3dd3f1a8a002f0f7061a35866fb14d5719", func := "sculling/scullinglaw.MachineEncodes", spec := "machineEncodes", apart := false, narrowed := true }
def MachineEncodesUptoSaid : Prop := machineEncodesUptoRow.holds Try.pinned (OpenSpec.upto machineEncodesSpec)

/-- 'scullinglaw.MachineDecodes', WHERE WHAT IT READS IS OF BULK AT MOST 1048576: true; the input reads as it did. -/
def machineDecodesUptoRow : OpenClaim := { program := "ytpbiojnmegemdac", sum := "f4f26947ad3e3ad022ff75c14137cb3dd3f1a8a002f0f7061a35866fb14d5719", func := "sculling/scullinglaw.MachineDecodes", spec := "machineDecodes", apart := false, narrowed := true }
def MachineDecodesUptoSaid : Prop := machineDecodesUptoRow.holds Try.pinned (OpenSpec.upto machineDecodesSpec)

/-- 'scullinglaw.MachineNew', WHERE WHAT IT READS IS OF BULK AT MOST 1048576: true; the input reads as it did. -/
def machineNewUptoRow : OpenClaim := { program := "ytpbiojnmegemdac", sum := "f4f26947ad3e3ad022ff75c14137cb3dd3f1a8a002f0f7061a35866fb14d5719", func := "sculling/scullinglaw.MachineNew", spec := "machineNew", apart := false, narrowed := true }
def MachineNewUptoSaid : Prop := machineNewUptoRow.holds Try.pinned (OpenSpec.upto machineNewSpec)

/-- 'scullinglaw.MachineChecks', WHERE WHAT IT READS IS OF BULK AT MOST 1048576: true; the input reads as it did. -/
def machineChecksUptoRow : OpenClaim := { program := "ytpbiojnmegemdac", sum := "f4f26947ad3e3ad022ff75c14137cb3dd3f1a8a002f0f7061a35866fb14d5719", func := "sculling/scullinglaw.MachineChecks", spec := "machineChecks", unfollowed := true, recurses := true, apart := false, narrowed := true }
def MachineChecksUptoSaid : Prop := machineChecksUptoRow.holds Try.pinned (OpenSpec.upto machineChecksSpec)

/-- 'scullinglaw.MachineApplies', WHERE WHAT IT READS IS OF BULK AT MOST 1048576: true; the input reads as it did. -/
def machineAppliesUptoRow : OpenClaim := { program := "ytpbiojnmegemdac", sum := "f4f26947ad3e3ad022ff75c14137cb3dd3f1a8a002f0f7061a35866fb14d5719", func := "sculling/scullinglaw.MachineApplies", spec := "machineApplies", unfollowed := true, recurses := true, apart := false, narrowed := true }
def MachineAppliesUptoSaid : Prop := machineAppliesUptoRow.holds Try.pinned (OpenSpec.upto machineAppliesSpec)

end Rows
end Go.Proofs.Ytpbiojnmegemdac
