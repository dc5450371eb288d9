/-
  DERIVED. GIVEN WITH THE SEED: THE CARDS: each row of YtpbiojnmegemdadDoorRows.lean that lists a variable, with what it lists TIED to the program's text (the seventh form; the later family's looks); each row that meets fmt, with fmt's text TOLD by the authors' own Lean function (tested against real Go, not proved from fmt's source: count such statements apart). THE CARD IS WHAT COUNTS. Prove the row's statement (the work); the ties are given (YtpbiojnmegemdadDoorTie.lean); close each card by the builder's one call (the guide's Derived/Test/ToyasCard.lean, 'card_holds'). Laid BY PROGRAM, IN A SANDBOX (cutbox-door.mjs). By AI agents, Wed Nov 11 2026. No macro, syntax, notation, axiom, sorry.
-/
import Derived.Test.YtpbiojnmegemdadDoorRows
import GoSem.ClaimSeven
namespace Go.Proofs.YtpbiojnmegemdadDoor
namespace Rows

/-- THE TIED CARD OF 'scullingkeep.EntriesBack'. -/
def entriesBackCard : Claim7 := { stood := { row := entriesBackRow, standIns := [], harness := (true, "2f746c522559db6c9ff22bb4321eeec6072652358aa2adaa3b94db2dce68beb2"), looks := false }, kinds := [], alts := [], laidByText := true, laidKinds := [.data, .data, .data], laidTests := true, laidLooks := .later }
def EntriesBackCardSaid : Prop := Claim7.holds Tryd.pinned (.plain (OpenSpec.ofChange entriesBackSpec)) entriesBackCard

/-- THE TIED CARD OF 'scullingkeep.PlaysOnce'. -/
def playsOnceCard : Claim7 := { stood := { row := playsOnceRow, standIns := [], harness := (true, "2f746c522559db6c9ff22bb4321eeec6072652358aa2adaa3b94db2dce68beb2"), looks := false }, kinds := [], alts := [], laidByText := true, laidKinds := [.data, .data, .data], laidTests := true, laidLooks := .later }
def PlaysOnceCardSaid : Prop := Claim7.holds Tryd.pinned (.plain (OpenSpec.ofChange playsOnceSpec)) playsOnceCard

/-- THE SECOND FORM's CARD OF 'scullingkeep.EntriesBack'. -/
def entriesBackUptoCard : Claim7 := { stood := { row := entriesBackUptoRow, standIns := [], harness := (true, "2f746c522559db6c9ff22bb4321eeec6072652358aa2adaa3b94db2dce68beb2"), looks := false }, kinds := [], alts := [], laidByText := true, laidKinds := [.data, .data, .data], laidTests := true, laidLooks := .later }
def EntriesBackUptoCardSaid : Prop := Claim7.holds Tryd.pinned (.plain (OpenSpec.upto entriesBackSpec)) entriesBackUptoCard

/-- THE SECOND FORM's CARD OF 'scullingkeep.PlaysOnce'. -/
def playsOnceUptoCard : Claim7 := { stood := { row := playsOnceUptoRow, standIns := [], harness := (true, "2f746c522559db6c9ff22bb4321eeec6072652358aa2adaa3b94db2dce68beb2"), looks := false }, kinds := [], alts := [], laidByText := true, laidKinds := [.data, .data, .data], laidTests := true, laidLooks := .later }
def PlaysOnceUptoCardSaid : Prop := Claim7.holds Tryd.pinned (.plain (OpenSpec.upto playsOnceSpec)) playsOnceUptoCard
end Rows
end Go.Proofs.YtpbiojnmegemdadDoor
