/-
  DERIVED. GIVEN WITH THE SEED: THE CARDS: each row of YtdkgciemnkgcpabDoorRows.lean that lists a variable, with what it lists TIED to the program's text (the seventh form; the later family's looks); each row that meets fmt, with fmt's text TOLD by the authors' own Lean function (tested against real Go, not proved from fmt's source: count such statements apart). THE CARD IS WHAT COUNTS. Prove the row's statement (the work); the ties are given (YtdkgciemnkgcpabDoorTie.lean); close each card by the builder's one call (the guide's Derived/Test/ToyasCard.lean, 'card_holds'). Laid BY PROGRAM, IN A SANDBOX (cutbox-door.mjs). By AI agents, Wed Nov 11 2026. No macro, syntax, notation, axiom, sorry.
-/
import Derived.Test.YtdkgciemnkgcpabDoorRows
import GoSem.ClaimSeven
namespace Go.Proofs.YtdkgciemnkgcpabDoor
namespace Rows

/-- THE TIED CARD OF 'scullingkeep.SectorsBack'. -/
def sectorsBackCard : Claim7 := { stood := { row := sectorsBackRow, standIns := [], harness := (true, "f86f963d52adc6eb9b7f1ddc7c91d4f173b7008e12c41d5f57164d47a57b57ba"), looks := false }, kinds := [], alts := [], laidByText := true, laidKinds := [.data, .data, .data], laidTests := true, laidLooks := .later }
def SectorsBackCardSaid : Prop := Claim7.holds Tryd.pinned (.plain (OpenSpec.ofChange sectorsBackSpec)) sectorsBackCard

/-- THE SECOND FORM's CARD OF 'scullingkeep.SectorsBack'. -/
def sectorsBackUptoCard : Claim7 := { stood := { row := sectorsBackUptoRow, standIns := [], harness := (true, "f86f963d52adc6eb9b7f1ddc7c91d4f173b7008e12c41d5f57164d47a57b57ba"), looks := false }, kinds := [], alts := [], laidByText := true, laidKinds := [.data, .data, .data], laidTests := true, laidLooks := .later }
def SectorsBackUptoCardSaid : Prop := Claim7.holds Tryd.pinned (.plain (OpenSpec.upto sectorsBackSpec)) sectorsBackUptoCard
end Rows
end Go.Proofs.YtdkgciemnkgcpabDoor
