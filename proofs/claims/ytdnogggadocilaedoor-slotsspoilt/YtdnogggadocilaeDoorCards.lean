/-
  DERIVED. GIVEN WITH THE SEED: THE CARDS: each row of YtdnogggadocilaeDoorRows.lean that lists a variable, with what it lists TIED to the program's text (the seventh form; the later family's looks); each row that meets fmt, with fmt's text TOLD by the authors' own Lean function (tested against real Go, not proved from fmt's source: count such statements apart). THE CARD IS WHAT COUNTS. Prove the row's statement (the work); the ties are given (YtdnogggadocilaeDoorTie.lean); close each card by the builder's one call (the guide's Derived/Test/ToyasCard.lean, 'card_holds'). Laid BY PROGRAM, IN A SANDBOX (cutbox-door.mjs). By AI agents, Wed Nov 11 2026. No macro, syntax, notation, axiom, sorry.
-/
import Derived.Test.YtdnogggadocilaeDoorRows
import GoSem.ClaimSeven
namespace Go.Proofs.YtdnogggadocilaeDoor
namespace Rows

/-- THE TIED CARD OF 'scullingkeep.SlotsTorn'. -/
def slotsTornCard : Claim7 := { stood := { row := slotsTornRow, standIns := [], harness := (true, "6359621deeeb33ead1094f3b59402949bbff41917c5621b309e7b7d95c1f21e1"), looks := false }, kinds := [], alts := [], laidByText := true, laidKinds := [.data, .data, .data], laidTests := true, laidLooks := .later }
def SlotsTornCardSaid : Prop := Claim7.holds Tryd.pinned (.plain (OpenSpec.ofChange slotsTornSpec)) slotsTornCard

/-- THE TIED CARD OF 'scullingkeep.SlotsSpoilt'. -/
def slotsSpoiltCard : Claim7 := { stood := { row := slotsSpoiltRow, standIns := [], harness := (true, "6359621deeeb33ead1094f3b59402949bbff41917c5621b309e7b7d95c1f21e1"), looks := false }, kinds := [], alts := [], laidByText := true, laidKinds := [.data, .data, .data], laidTests := true, laidLooks := .later }
def SlotsSpoiltCardSaid : Prop := Claim7.holds Tryd.pinned (.plain (OpenSpec.ofChange slotsSpoiltSpec)) slotsSpoiltCard

/-- THE SECOND FORM's CARD OF 'scullingkeep.SlotsTorn'. -/
def slotsTornUptoCard : Claim7 := { stood := { row := slotsTornUptoRow, standIns := [], harness := (true, "6359621deeeb33ead1094f3b59402949bbff41917c5621b309e7b7d95c1f21e1"), looks := false }, kinds := [], alts := [], laidByText := true, laidKinds := [.data, .data, .data], laidTests := true, laidLooks := .later }
def SlotsTornUptoCardSaid : Prop := Claim7.holds Tryd.pinned (.plain (OpenSpec.upto slotsTornSpec)) slotsTornUptoCard

/-- THE SECOND FORM's CARD OF 'scullingkeep.SlotsSpoilt'. -/
def slotsSpoiltUptoCard : Claim7 := { stood := { row := slotsSpoiltUptoRow, standIns := [], harness := (true, "6359621deeeb33ead1094f3b59402949bbff41917c5621b309e7b7d95c1f21e1"), looks := false }, kinds := [], alts := [], laidByText := true, laidKinds := [.data, .data, .data], laidTests := true, laidLooks := .later }
def SlotsSpoiltUptoCardSaid : Prop := Claim7.holds Tryd.pinned (.plain (OpenSpec.upto slotsSpoiltSpec)) slotsSpoiltUptoCard
end Rows
end Go.Proofs.YtdnogggadocilaeDoor
