/-
  No cell of these rows narrows 'for every input' (looked for: loops, veiled, ifaces, maps, wideKeys, modest, calm, conditions, laid).
  DERIVED. THE GIVEN ROWS OF THIS SEAT. 4 by the template 'for every input the law returns true; each argument reads behind the call as it read before'; 0 by the template 'total and deterministic' (their statements: YtdnogggadocilaeTotals.lean).
  GIVEN WITH THE SEED: the statements are not yours to turn. If you find one false, say at which input.
  Laid BY PROGRAM, IN A SANDBOX (cutbox-rows.mjs): the forced cells as the released guide's own fill.sh prints them over the translation 52ba202fbe50b651… (all of the seat's roots in one cut). By AI agents, Wed Nov 11 2026. No macro, syntax, notation, axiom, sorry.
-/
import Derived.Test.YtdnogggadocilaeChecked
import GoSem.Claim
import GoSem.ClaimJoined
import GoSem.ClaimMapViews
import Derived.JoinedTies
import Derived.KernelRfl
namespace Go.Proofs.Ytdnogggadocilae
/- THE CELL 'sum', in the pinned program and in every row, IS THE sha256 OF THE DUMP (.gsa) THAT YtdnogggadocilaeProg.lean LOADS. Nothing in Lean hashes anything: it is a label: what it is worth is what the hold of that sum in a sandbox is worth. -/
noncomputable def Try.pinned : Pinned := { name := "ytdnogggadocilae", sum := "52ba202fbe50b651a1d1d0cda5f2b07ee76bb61b0dc102c4aad4c132c1237322", checked := Try.checked }
namespace Rows
def none {H : Type} : Left H := { results := [], args := [] }

/-- 'scullinglaw.StageDecodes': WHATEVER THE INPUT: true; the input reads as it did. -/
def stageDecodesSpec : ChangeSpec := { name := "stageDecodes", fn := fun _ => fun
  | [d] => { results := [.lit (.bool true)], args := [d] }
  | _ => none }
def stageDecodesRow : OpenClaim := { program := "ytdnogggadocilae", sum := "52ba202fbe50b651a1d1d0cda5f2b07ee76bb61b0dc102c4aad4c132c1237322", func := "sculling/scullinglaw.StageDecodes", spec := "stageDecodes", apart := false }
def StageDecodesSaid : Prop := stageDecodesRow.holds Try.pinned (OpenSpec.ofChange stageDecodesSpec)

/-- ITS FALSE NEIGHBOUR: 'it returns false'. Refute it at one input. -/
def stageDecodesWrong : ChangeSpec := { name := "stageDecodes", fn := fun _ => fun
  | [d] => { results := [.lit (.bool false)], args := [d] }
  | _ => none }
def StageDecodesWrongFalsely : Prop := stageDecodesRow.holds Try.pinned (OpenSpec.ofChange stageDecodesWrong)

/-- 'scullinglaw.StageNew': WHATEVER THE INPUT: true; the input reads as it did. -/
def stageNewSpec : ChangeSpec := { name := "stageNew", fn := fun _ => fun
  | [] => { results := [.lit (.bool true)], args := [] }
  | _ => none }
def stageNewRow : OpenClaim := { program := "ytdnogggadocilae", sum := "52ba202fbe50b651a1d1d0cda5f2b07ee76bb61b0dc102c4aad4c132c1237322", func := "sculling/scullinglaw.StageNew", spec := "stageNew", inPlace := ["internal/abi.NoEscape"], unfollowed := true, recurses := true, apart := false }
def StageNewSaid : Prop := stageNewRow.holds Try.pinned (OpenSpec.ofChange stageNewSpec)

/-- ITS FALSE NEIGHBOUR: 'it returns false'. Refute it at one input. -/
def stageNewWrong : ChangeSpec := { name := "stageNew", fn := fun _ => fun
  | [] => { results := [.lit (.bool false)], args := [] }
  | _ => none }
def StageNewWrongFalsely : Prop := stageNewRow.holds Try.pinned (OpenSpec.ofChange stageNewWrong)

/-- 'scullinglaw.StageLoads': WHATEVER THE INPUT: true; the input reads as it did. -/
def stageLoadsSpec : ChangeSpec := { name := "stageLoads", fn := fun _ => fun
  | [d] => { results := [.lit (.bool true)], args := [d] }
  | _ => none }
def stageLoadsRow : OpenClaim := { program := "ytdnogggadocilae", sum := "52ba202fbe50b651a1d1d0cda5f2b07ee76bb61b0dc102c4aad4c132c1237322", func := "sculling/scullinglaw.StageLoads", spec := "stageLoads", apart := false }
def StageLoadsSaid : Prop := stageLoadsRow.holds Try.pinned (OpenSpec.ofChange stageLoadsSpec)

/-- ITS FALSE NEIGHBOUR: 'it returns false'. Refute it at one input. -/
def stageLoadsWrong : ChangeSpec := { name := "stageLoads", fn := fun _ => fun
  | [d] => { results := [.lit (.bool false)], args := [d] }
  | _ => none }
def StageLoadsWrongFalsely : Prop := stageLoadsRow.holds Try.pinned (OpenSpec.ofChange stageLoadsWrong)

/-- 'scullinglaw.StageStores': WHATEVER THE INPUT: true; the input reads as it did. -/
def stageStoresSpec : ChangeSpec := { name := "stageStores", fn := fun _ => fun
  | [d1, d2, d3] => { results := [.lit (.bool true)], args := [d1, d2, d3] }
  | _ => none }
def stageStoresRow : OpenClaim := { program := "ytdnogggadocilae", sum := "52ba202fbe50b651a1d1d0cda5f2b07ee76bb61b0dc102c4aad4c132c1237322", func := "sculling/scullinglaw.StageStores", spec := "stageStores", inPlace := ["internal/abi.NoEscape"], unfollowed := true, recurses := true, apart := false }
def StageStoresSaid : Prop := stageStoresRow.holds Try.pinned (OpenSpec.ofChange stageStoresSpec)

/-- ITS FALSE NEIGHBOUR: 'it returns false'. Refute it at one input. -/
def stageStoresWrong : ChangeSpec := { name := "stageStores", fn := fun _ => fun
  | [d1, d2, d3] => { results := [.lit (.bool false)], args := [d1, d2, d3] }
  | _ => none }
def StageStoresWrongFalsely : Prop := stageStoresRow.holds Try.pinned (OpenSpec.ofChange stageStoresWrong)

/- THE SECOND FORM. 'bulk': how many values and letters a reading holds, each counted each time it is reached (what is shared counts as often as it is met; a slice's spare places count too). A statement '..UptoSaid' is the law's where the arguments, and the package variables that the reading takes, are together of bulk at most 1048576: NARROWER than '..Said'. Prove '..Said' where nothing that the law and all that it calls make is longer than what came in: it says more and counts as full. Else prove '..UptoSaid'. A law counts once. -/
mutual
def uptoBulk {H : Type} : DataW H → Nat
  | .lit (.string bytes) => bytes.length + 1
  | .lit _ => 1
  | .nil => 1
  | .ptr d => uptoBulk d + 1
  | .slice elems spare => uptoBulkAll elems + uptoBulkAll spare + 1
  | .agg parts => uptoBulkAll parts + 1
  | .iface _ d => uptoBulk d + 1
  | .map entries => uptoBulkEntries entries + 1
  | .held _ => 1
def uptoBulkAll {H : Type} : List (DataW H) → Nat
  | [] => 0
  | d :: r => uptoBulk d + uptoBulkAll r
def uptoBulkEntries {H : Type} : List (Lit × DataW H) → Nat
  | [] => 0
  | x :: r => uptoBulkEntry x + uptoBulkEntries r
def uptoBulkEntry {H : Type} : Lit × DataW H → Nat
  | (.string bytes, d) => bytes.length + uptoBulk d + 1
  | (_, d) => uptoBulk d + 1
 end
def uptoSmall : (H : Type) → List (DataW H) → Bool := fun _ ds => decide (uptoBulkAll ds ≤ 1048576)
def OpenSpec.upto (s : _root_.Go.ChangeSpec) : _root_.Go.OpenSpec := { _root_.Go.OpenSpec.ofChange s with cond := some uptoSmall }

/-- 'scullinglaw.StageDecodes', WHERE WHAT IT READS IS OF BULK AT MOST 1048576: true; the input reads as it did. -/
def stageDecodesUptoRow : OpenClaim := { program := "ytdnogggadocilae", sum := "52ba202fbe50b651a1d1d0cda5f2b07ee76bb61b0dc102c4aad4c132c1237322", func := "sculling/scullinglaw.StageDecodes", spec := "stageDecodes", apart := false, narrowed := true }
def StageDecodesUptoSaid : Prop := stageDecodesUptoRow.holds Try.pinned (OpenSpec.upto stageDecodesSpec)

/-- 'scullinglaw.StageNew', WHERE WHAT IT READS IS OF BULK AT MOST 1048576: true; the input reads as it did. -/
def stageNewUptoRow : OpenClaim := { program := "ytdnogggadocilae", sum := "52ba202fbe50b651a1d1d0cda5f2b07ee76bb61b0dc102c4aad4c132c1237322", func := "sculling/scullinglaw.StageNew", spec := "stageNew", inPlace := ["internal/abi.NoEscape"], unfollowed := true, recurses := true, apart := false, narrowed := true }
def StageNewUptoSaid : Prop := stageNewUptoRow.holds Try.pinned (OpenSpec.upto stageNewSpec)

/-- 'scullinglaw.StageLoads', WHERE WHAT IT READS IS OF BULK AT MOST 1048576: true; the input reads as it did. -/
def stageLoadsUptoRow : OpenClaim := { program := "ytdnogggadocilae", sum := "52ba202fbe50b651a1d1d0cda5f2b07ee76bb61b0dc102c4aad4c132c1237322", func := "sculling/scullinglaw.StageLoads", spec := "stageLoads", apart := false, narrowed := true }
def StageLoadsUptoSaid : Prop := stageLoadsUptoRow.holds Try.pinned (OpenSpec.upto stageLoadsSpec)

/-- 'scullinglaw.StageStores', WHERE WHAT IT READS IS OF BULK AT MOST 1048576: true; the input reads as it did. -/
def stageStoresUptoRow : OpenClaim := { program := "ytdnogggadocilae", sum := "52ba202fbe50b651a1d1d0cda5f2b07ee76bb61b0dc102c4aad4c132c1237322", func := "sculling/scullinglaw.StageStores", spec := "stageStores", inPlace := ["internal/abi.NoEscape"], unfollowed := true, recurses := true, apart := false, narrowed := true }
def StageStoresUptoSaid : Prop := stageStoresUptoRow.holds Try.pinned (OpenSpec.upto stageStoresSpec)

end Rows
end Go.Proofs.Ytdnogggadocilae
