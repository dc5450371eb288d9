/-
  No cell of these rows narrows 'for every input' (looked for: loops, veiled, ifaces, maps, wideKeys, modest, calm, conditions, laid).
  DERIVED. THE GIVEN ROWS OF THIS SEAT. 6 by the template 'for every input the law returns true; each argument reads behind the call as it read before'; 0 by the template 'total and deterministic' (their statements: YtohehhpccbaclafTotals.lean).
  GIVEN WITH THE SEED: the statements are not yours to turn. If you find one false, say at which input.
  Laid BY PROGRAM, IN A SANDBOX (cutbox-rows.mjs): the forced cells as the released guide's own fill.sh prints them over the translation 18368b6e4084b608… (all of the seat's roots in one cut). By AI agents, Wed Nov 11 2026. No macro, syntax, notation, axiom, sorry.
-/
import Derived.Test.YtohehhpccbaclafChecked
import GoSem.Claim
import GoSem.ClaimJoined
import GoSem.ClaimMapViews
import Derived.JoinedTies
import Derived.KernelRfl
namespace Go.Proofs.Ytohehhpccbaclaf
/- THE CELL 'sum', in the pinned program and in every row, IS THE sha256 OF THE DUMP (.gsa) THAT YtohehhpccbaclafProg.lean LOADS. Nothing in Lean hashes anything: it is a label: what it is worth is what the hold of that sum in a sandbox is worth. -/
noncomputable def Try.pinned : Pinned := { name := "ytohehhpccbaclaf", sum := "18368b6e4084b608ae121bb1986f59cb4ef14091d8ba7fe3fa4a0802c06ca310", checked := Try.checked }
namespace Rows
def none {H : Type} : Left H := { results := [], args := [] }

/-- 'scullinglaw.ReplicaNews': WHATEVER THE INPUT: true; the input reads as it did. -/
def replicaNewsSpec : ChangeSpec := { name := "replicaNews", fn := fun _ => fun
  | [d1, d2] => { results := [.lit (.bool true)], args := [d1, d2] }
  | _ => none }
def replicaNewsRow : OpenClaim := { program := "ytohehhpccbaclaf", sum := "18368b6e4084b608ae121bb1986f59cb4ef14091d8ba7fe3fa4a0802c06ca310", func := "sculling/scullinglaw.ReplicaNews", spec := "replicaNews", apart := false }
def ReplicaNewsSaid : Prop := replicaNewsRow.holds Try.pinned (OpenSpec.ofChange replicaNewsSpec)

/-- ITS FALSE NEIGHBOUR: 'it returns false'. Refute it at one input. -/
def replicaNewsWrong : ChangeSpec := { name := "replicaNews", fn := fun _ => fun
  | [d1, d2] => { results := [.lit (.bool false)], args := [d1, d2] }
  | _ => none }
def ReplicaNewsWrongFalsely : Prop := replicaNewsRow.holds Try.pinned (OpenSpec.ofChange replicaNewsWrong)

/-- 'scullinglaw.ReplicaChecks': WHATEVER THE INPUT: true; the input reads as it did. -/
def replicaChecksSpec : ChangeSpec := { name := "replicaChecks", fn := fun _ => fun
  | [d] => { results := [.lit (.bool true)], args := [d] }
  | _ => none }
def replicaChecksRow : OpenClaim := { program := "ytohehhpccbaclaf", sum := "18368b6e4084b608ae121bb1986f59cb4ef14091d8ba7fe3fa4a0802c06ca310", func := "sculling/scullinglaw.ReplicaChecks", spec := "replicaChecks", apart := false }
def ReplicaChecksSaid : Prop := replicaChecksRow.holds Try.pinned (OpenSpec.ofChange replicaChecksSpec)

/-- ITS FALSE NEIGHBOUR: 'it returns false'. Refute it at one input. -/
def replicaChecksWrong : ChangeSpec := { name := "replicaChecks", fn := fun _ => fun
  | [d] => { results := [.lit (.bool false)], args := [d] }
  | _ => none }
def ReplicaChecksWrongFalsely : Prop := replicaChecksRow.holds Try.pinned (OpenSpec.ofChange replicaChecksWrong)

/-- 'scullinglaw.ReplicaCopies': WHATEVER THE INPUT: true; the input reads as it did. -/
def replicaCopiesSpec : ChangeSpec := { name := "replicaCopies", fn := fun _ => fun
  | [d] => { results := [.lit (.bool true)], args := [d] }
  | _ => none }
def replicaCopiesRow : OpenClaim := { program := "ytohehhpccbaclaf", sum := "18368b6e4084b608ae121bb1986f59cb4ef14091d8ba7fe3fa4a0802c06ca310", func := "sculling/scullinglaw.ReplicaCopies", spec := "replicaCopies", apart := false }
def ReplicaCopiesSaid : Prop := replicaCopiesRow.holds Try.pinned (OpenSpec.ofChange replicaCopiesSpec)

/-- ITS FALSE NEIGHBOUR: 'it returns false'. Refute it at one input. -/
def replicaCopiesWrong : ChangeSpec := { name := "replicaCopies", fn := fun _ => fun
  | [d] => { results := [.lit (.bool false)], args := [d] }
  | _ => none }
def ReplicaCopiesWrongFalsely : Prop := replicaCopiesRow.holds Try.pinned (OpenSpec.ofChange replicaCopiesWrong)

/-- 'scullinglaw.ReplicaLeaders': WHATEVER THE INPUT: true; the input reads as it did. -/
def replicaLeadersSpec : ChangeSpec := { name := "replicaLeaders", fn := fun _ => fun
  | [d] => { results := [.lit (.bool true)], args := [d] }
  | _ => none }
def replicaLeadersRow : OpenClaim := { program := "ytohehhpccbaclaf", sum := "18368b6e4084b608ae121bb1986f59cb4ef14091d8ba7fe3fa4a0802c06ca310", func := "sculling/scullinglaw.ReplicaLeaders", spec := "replicaLeaders", apart := false }
def ReplicaLeadersSaid : Prop := replicaLeadersRow.holds Try.pinned (OpenSpec.ofChange replicaLeadersSpec)

/-- ITS FALSE NEIGHBOUR: 'it returns false'. Refute it at one input. -/
def replicaLeadersWrong : ChangeSpec := { name := "replicaLeaders", fn := fun _ => fun
  | [d] => { results := [.lit (.bool false)], args := [d] }
  | _ => none }
def ReplicaLeadersWrongFalsely : Prop := replicaLeadersRow.holds Try.pinned (OpenSpec.ofChange replicaLeadersWrong)

/-- 'scullinglaw.ReplicaLeads': WHATEVER THE INPUT: true; the input reads as it did. -/
def replicaLeadsSpec : ChangeSpec := { name := "replicaLeads", fn := fun _ => fun
  | [d] => { results := [.lit (.bool true)], args := [d] }
  | _ => none }
def replicaLeadsRow : OpenClaim := { program := "ytohehhpccbaclaf", sum := "18368b6e4084b608ae121bb1986f59cb4ef14091d8ba7fe3fa4a0802c06ca310", func := "sculling/scullinglaw.ReplicaLeads", spec := "replicaLeads", apart := false }
def ReplicaLeadsSaid : Prop := replicaLeadsRow.holds Try.pinned (OpenSpec.ofChange replicaLeadsSpec)

/-- ITS FALSE NEIGHBOUR: 'it returns false'. Refute it at one input. -/
def replicaLeadsWrong : ChangeSpec := { name := "replicaLeads", fn := fun _ => fun
  | [d] => { results := [.lit (.bool false)], args := [d] }
  | _ => none }
def ReplicaLeadsWrongFalsely : Prop := replicaLeadsRow.holds Try.pinned (OpenSpec.ofChange replicaLeadsWrong)

/-- 'scullinglaw.ReplicaMessages': WHATEVER THE INPUT: true; the input reads as it did. -/
def replicaMessagesSpec : ChangeSpec := { name := "replicaMessages", fn := fun _ => fun
  | [d] => { results := [.lit (.bool true)], args := [d] }
  | _ => none }
def replicaMessagesRow : OpenClaim := { program := "ytohehhpccbaclaf", sum := "18368b6e4084b608ae121bb1986f59cb4ef14091d8ba7fe3fa4a0802c06ca310", func := "sculling/scullinglaw.ReplicaMessages", spec := "replicaMessages", apart := false }
def ReplicaMessagesSaid : Prop := replicaMessagesRow.holds Try.pinned (OpenSpec.ofChange replicaMessagesSpec)

/-- ITS FALSE NEIGHBOUR: 'it returns false'. Refute it at one input. -/
def replicaMessagesWrong : ChangeSpec := { name := "replicaMessages", fn := fun _ => fun
  | [d] => { results := [.lit (.bool false)], args := [d] }
  | _ => none }
def ReplicaMessagesWrongFalsely : Prop := replicaMessagesRow.holds Try.pinned (OpenSpec.ofChange replicaMessagesWrong)

/- THE SECOND FORM. 'bulk': how many values and letters a reading holds, each counted each time it is reached (what is shared counts as often as it is met; a slice's spare places count too). A statement '..UptoSaid' is the law's where the arguments, and the package variables that the reading takes, are together of bulk at most 1048576: NARROWER than '..Said'. Prove '..Said' where nothing that the law and all that it calls make is longer than what came in: it says more and counts as full. Else prove '..UptoSaid'. A law counts once. -/
mutual
def uptoBulk {H : Type} : DataW H → Nat
  | .lit (.string bytes) => bytes.length + 1
  | .lit _ => 1
  | .nil => 1
  | .ptr d => uptoBulk d + 1
  | .slice elems spare => uptoBulkAll elems + uptoBulkAll spare + 1
  | .agg parts => uptoBulkAll parts + 1
  | .iface _ d => uptoBulk d + 1
  | .map entries => uptoBulkEntries entries + 1
  | .held _ => 1
def uptoBulkAll {H : Type} : List (DataW H) → Nat
  | [] => 0
  | d :: r => uptoBulk d + uptoBulkAll r
def uptoBulkEntries {H : Type} : List (Lit × DataW H) → Nat
  | [] => 0
  | x :: r => uptoBulkEntry x + uptoBulkEntries r
def uptoBulkEntry {H : Type} : Lit × DataW H → Nat
  | (.string bytes, d) => bytes.length + uptoBulk d + 1
  | (_, d) => uptoBulk d + 1
 end
def uptoSmall : (H : Type) → List (DataW H) → Bool := fun _ ds => decide (uptoBulkAll ds ≤ 1048576)
def OpenSpec.upto (s : _root_.Go.ChangeSpec) : _root_.Go.OpenSpec := { _root_.Go.OpenSpec.ofChange s with cond := some uptoSmall }

/-- 'scullinglaw.ReplicaNews', WHERE WHAT IT READS IS OF BULK AT MOST 1048576: true; the input reads as it did. -/
def replicaNewsUptoRow : OpenClaim := { program := "ytohehhpccbaclaf", sum := "18368b6e4084b608ae121bb1986f59cb4ef14091d8ba7fe3fa4a0802c06ca310", func := "sculling/scullinglaw.ReplicaNews", spec := "replicaNews", apart := false, narrowed := true }
def ReplicaNewsUptoSaid : Prop := replicaNewsUptoRow.holds Try.pinned (OpenSpec.upto replicaNewsSpec)

/-- 'scullinglaw.ReplicaChecks', WHERE WHAT IT READS IS OF BULK AT MOST 1048576: true; the input reads as it did. -/
def replicaChecksUptoRow : OpenClaim := { program := "ytohehhpccbaclaf", sum := "18368b6e4084b608ae121bb1986f59cb4ef14091d8ba7fe3fa4a0802c06ca310", func := "sculling/scullinglaw.ReplicaChecks", spec := "replicaChecks", apart := false, narrowed := true }
def ReplicaChecksUptoSaid : Prop := replicaChecksUptoRow.holds Try.pinned (OpenSpec.upto replicaChecksSpec)

/-- 'scullinglaw.ReplicaCopies', WHERE WHAT IT READS IS OF BULK AT MOST 1048576: true; the input reads as it did. -/
def replicaCopiesUptoRow : OpenClaim := { program := "ytohehhpccbaclaf", sum := "18368b6e4084b608ae121bb1986f59cb4ef14091d8ba7fe3fa4a0802c06ca310", func := "sculling/scullinglaw.ReplicaCopies", spec := "replicaCopies", apart := false, narrowed := true }
def ReplicaCopiesUptoSaid : Prop := replicaCopiesUptoRow.holds Try.pinned (OpenSpec.upto replicaCopiesSpec)

/-- 'scullinglaw.ReplicaLeaders', WHERE WHAT IT READS IS OF BULK AT MOST 1048576: true; the input reads as it did. -/
def replicaLeadersUptoRow : OpenClaim := { program := "ytohehhpccbaclaf", sum := "18368b6e4084b608ae121bb1986f59cb4ef14091d8ba7fe3fa4a0802c06ca310", func := "sculling/scullinglaw.ReplicaLeaders", spec := "replicaLeaders", apart := false, narrowed := true }
def ReplicaLeadersUptoSaid : Prop := replicaLeadersUptoRow.holds Try.pinned (OpenSpec.upto replicaLeadersSpec)

/-- 'scullinglaw.ReplicaLeads', WHERE WHAT IT READS IS OF BULK AT MOST 1048576: true; the input reads as it did. -/
def replicaLeadsUptoRow : OpenClaim := { program := "ytohehhpccbaclaf", sum := "18368b6e4084b608ae121bb1986f59cb4ef14091d8ba7fe3fa4a0802c06ca310", func := "sculling/scullinglaw.ReplicaLeads", spec := "replicaLeads", apart := false, narrowed := true }
def ReplicaLeadsUptoSaid : Prop := replicaLeadsUptoRow.holds Try.pinned (OpenSpec.upto replicaLeadsSpec)

/-- 'scullinglaw.ReplicaMessages', WHERE WHAT IT READS IS OF BULK AT MOST 1048576: true; the input reads as it did. -/
def replicaMessagesUptoRow : OpenClaim := { program := "ytohehhpccbaclaf", sum := "18368b6e4084b608ae121bb1986f59cb4ef14091d8ba7fe3fa4a0802c06ca310", func := "sculling/scullinglaw.ReplicaMessages", spec := "replicaMessages", apart := false, narrowed := true }
def ReplicaMessagesUptoSaid : Prop := replicaMessagesUptoRow.holds Try.pinned (OpenSpec.upto replicaMessagesSpec)

end Rows
end Go.Proofs.Ytohehhpccbaclaf
