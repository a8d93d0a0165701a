/-
  DERIVED. GIVEN WITH THE SEED: THE CARDS: each row of YtfjobnljdkiihaaGreatDoorRows.lean that lists a variable, with what it lists TIED to the program's text (the seventh form; the later family's looks); each row that meets fmt, with fmt's text TOLD by the authors' own Lean function (tested against real Go, not proved from fmt's source: count such statements apart). THE CARD IS WHAT COUNTS. Prove the row's statement (the work); the ties are given (YtfjobnljdkiihaaGreatDoorTie.lean); close each card by the builder's one call (the guide's Derived/Test/ToyasCard.lean, 'card_holds'). Laid BY PROGRAM, IN A SANDBOX (cutbox-door.mjs). By AI agents, Wed Nov 11 2026. No macro, syntax, notation, axiom, sorry.
-/
import Derived.Test.YtfjobnljdkiihaaGreatDoorRows
import GoSem.ClaimSeven
namespace Go.Proofs.YtfjobnljdkiihaaGreatDoor
namespace Rows

/-- THE TIED CARD OF 'hauberklaw06.ParseTrees'. -/
def parseTreesCard : Claim7 := { stood := { row := parseTreesRow, standIns := [], harness := (true, "f6658198653fb7adf415219c502416b482ab5065b665275a59247f46b2f77c55"), looks := false }, kinds := [], alts := [], laidByText := true, laidKinds := [.data, .data, .data, .data, .pinned, .pinned, .pinned, .pinned, .pinned, .pinned], laidTests := true, laidLooks := .later }
def ParseTreesCardSaid : Prop := Claim7.holds Tryz.pinned (.plain (OpenSpec.ofChange parseTreesSpec)) parseTreesCard

/-- THE TIED CARD OF 'hauberklaw06.ParseRaw'. -/
def parseRawCard : Claim7 := { stood := { row := parseRawRow, standIns := [], harness := (true, "f6658198653fb7adf415219c502416b482ab5065b665275a59247f46b2f77c55"), looks := false }, kinds := [], alts := [], laidByText := true, laidKinds := [.data, .data, .data, .data, .pinned, .pinned, .pinned, .pinned, .pinned, .pinned], laidTests := true, laidLooks := .later }
def ParseRawCardSaid : Prop := Claim7.holds Tryz.pinned (.plain (OpenSpec.ofChange parseRawSpec)) parseRawCard

/-- THE TIED CARD OF 'hauberklaw06.ParseArrows'. -/
def parseArrowsCard : Claim7 := { stood := { row := parseArrowsRow, standIns := [], harness := (true, "f6658198653fb7adf415219c502416b482ab5065b665275a59247f46b2f77c55"), looks := false }, kinds := [], alts := [], laidByText := true, laidKinds := [.data, .data, .data, .data, .pinned, .pinned, .pinned, .pinned, .pinned, .pinned], laidTests := true, laidLooks := .later }
def ParseArrowsCardSaid : Prop := Claim7.holds Tryz.pinned (.plain (OpenSpec.ofChange parseArrowsSpec)) parseArrowsCard

/-- THE SECOND FORM's CARD OF 'hauberklaw06.ParseTrees'. -/
def parseTreesUptoCard : Claim7 := { stood := { row := parseTreesUptoRow, standIns := [], harness := (true, "f6658198653fb7adf415219c502416b482ab5065b665275a59247f46b2f77c55"), looks := false }, kinds := [], alts := [], laidByText := true, laidKinds := [.data, .data, .data, .data, .pinned, .pinned, .pinned, .pinned, .pinned, .pinned], laidTests := true, laidLooks := .later }
def ParseTreesUptoCardSaid : Prop := Claim7.holds Tryz.pinned (.plain (OpenSpec.upto parseTreesSpec)) parseTreesUptoCard

/-- THE SECOND FORM's CARD OF 'hauberklaw06.ParseRaw'. -/
def parseRawUptoCard : Claim7 := { stood := { row := parseRawUptoRow, standIns := [], harness := (true, "f6658198653fb7adf415219c502416b482ab5065b665275a59247f46b2f77c55"), looks := false }, kinds := [], alts := [], laidByText := true, laidKinds := [.data, .data, .data, .data, .pinned, .pinned, .pinned, .pinned, .pinned, .pinned], laidTests := true, laidLooks := .later }
def ParseRawUptoCardSaid : Prop := Claim7.holds Tryz.pinned (.plain (OpenSpec.upto parseRawSpec)) parseRawUptoCard

/-- THE SECOND FORM's CARD OF 'hauberklaw06.ParseArrows'. -/
def parseArrowsUptoCard : Claim7 := { stood := { row := parseArrowsUptoRow, standIns := [], harness := (true, "f6658198653fb7adf415219c502416b482ab5065b665275a59247f46b2f77c55"), looks := false }, kinds := [], alts := [], laidByText := true, laidKinds := [.data, .data, .data, .data, .pinned, .pinned, .pinned, .pinned, .pinned, .pinned], laidTests := true, laidLooks := .later }
def ParseArrowsUptoCardSaid : Prop := Claim7.holds Tryz.pinned (.plain (OpenSpec.upto parseArrowsSpec)) parseArrowsUptoCard
end Rows
end Go.Proofs.YtfjobnljdkiihaaGreatDoor
