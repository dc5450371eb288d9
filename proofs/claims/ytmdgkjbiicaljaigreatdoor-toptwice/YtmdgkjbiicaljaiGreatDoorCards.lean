/-
  DERIVED. GIVEN WITH THE SEED: THE CARDS: each row of YtmdgkjbiicaljaiGreatDoorRows.lean that lists a variable, with what it lists TIED to the program's text (the seventh form; the later family's looks); each row that meets fmt, with fmt's text TOLD by the authors' own Lean function (tested against real Go, not proved from fmt's source: count such statements apart). THE CARD IS WHAT COUNTS. Prove the row's statement (the work); the ties are given (YtmdgkjbiicaljaiGreatDoorTie.lean); close each card by the builder's one call (the guide's Derived/Test/ToyasCard.lean, 'card_holds'). Laid BY PROGRAM, IN A SANDBOX (cutbox-door.mjs). By AI agents, Wed Nov 11 2026. No macro, syntax, notation, axiom, sorry.
-/
import Derived.Test.YtmdgkjbiicaljaiGreatDoorRows
import GoSem.ClaimSeven
namespace Go.Proofs.YtmdgkjbiicaljaiGreatDoor
namespace Rows

/-- THE TIED CARD OF 'scullingtop.TopLeaders'. -/
def topLeadersCard : Claim7 := { stood := { row := topLeadersRow, standIns := [], harness := (true, "19f6662dc289ee5cb00a9d22b134c03828f81e9f82cb5a6c89cda1b50d9bf87c"), looks := false }, kinds := [], alts := [], laidByText := true, laidKinds := [.data, .data, .data], laidTests := true, laidLooks := .later }
def TopLeadersCardSaid : Prop := Claim7.holds Tryz.pinned (.plain (OpenSpec.ofChange topLeadersSpec)) topLeadersCard

/-- THE TIED CARD OF 'scullingtop.TopCrash'. -/
def topCrashCard : Claim7 := { stood := { row := topCrashRow, standIns := [], harness := (true, "19f6662dc289ee5cb00a9d22b134c03828f81e9f82cb5a6c89cda1b50d9bf87c"), looks := false }, kinds := [], alts := [], laidByText := true, laidKinds := [.data, .data, .data], laidTests := true, laidLooks := .later }
def TopCrashCardSaid : Prop := Claim7.holds Tryz.pinned (.plain (OpenSpec.ofChange topCrashSpec)) topCrashCard

/-- THE TIED CARD OF 'scullingtop.TopTwice'. -/
def topTwiceCard : Claim7 := { stood := { row := topTwiceRow, standIns := [], harness := (true, "19f6662dc289ee5cb00a9d22b134c03828f81e9f82cb5a6c89cda1b50d9bf87c"), looks := false }, kinds := [], alts := [], laidByText := true, laidKinds := [.data, .data, .data], laidTests := true, laidLooks := .later }
def TopTwiceCardSaid : Prop := Claim7.holds Tryz.pinned (.plain (OpenSpec.ofChange topTwiceSpec)) topTwiceCard

/-- THE SECOND FORM's CARD OF 'scullingtop.TopLeaders'. -/
def topLeadersUptoCard : Claim7 := { stood := { row := topLeadersUptoRow, standIns := [], harness := (true, "19f6662dc289ee5cb00a9d22b134c03828f81e9f82cb5a6c89cda1b50d9bf87c"), looks := false }, kinds := [], alts := [], laidByText := true, laidKinds := [.data, .data, .data], laidTests := true, laidLooks := .later }
def TopLeadersUptoCardSaid : Prop := Claim7.holds Tryz.pinned (.plain (OpenSpec.upto topLeadersSpec)) topLeadersUptoCard

/-- THE SECOND FORM's CARD OF 'scullingtop.TopCrash'. -/
def topCrashUptoCard : Claim7 := { stood := { row := topCrashUptoRow, standIns := [], harness := (true, "19f6662dc289ee5cb00a9d22b134c03828f81e9f82cb5a6c89cda1b50d9bf87c"), looks := false }, kinds := [], alts := [], laidByText := true, laidKinds := [.data, .data, .data], laidTests := true, laidLooks := .later }
def TopCrashUptoCardSaid : Prop := Claim7.holds Tryz.pinned (.plain (OpenSpec.upto topCrashSpec)) topCrashUptoCard

/-- THE SECOND FORM's CARD OF 'scullingtop.TopTwice'. -/
def topTwiceUptoCard : Claim7 := { stood := { row := topTwiceUptoRow, standIns := [], harness := (true, "19f6662dc289ee5cb00a9d22b134c03828f81e9f82cb5a6c89cda1b50d9bf87c"), looks := false }, kinds := [], alts := [], laidByText := true, laidKinds := [.data, .data, .data], laidTests := true, laidLooks := .later }
def TopTwiceUptoCardSaid : Prop := Claim7.holds Tryz.pinned (.plain (OpenSpec.upto topTwiceSpec)) topTwiceUptoCard
end Rows
end Go.Proofs.YtmdgkjbiicaljaiGreatDoor
