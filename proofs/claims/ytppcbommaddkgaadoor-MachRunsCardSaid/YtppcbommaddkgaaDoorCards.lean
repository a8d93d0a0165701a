/-
  DERIVED. GIVEN WITH THE SEED: THE CARDS: each row of YtppcbommaddkgaaDoorRows.lean that lists a variable, with what it lists TIED to the program's text (the seventh form; the later family's looks); each row that meets fmt, with fmt's text TOLD by the authors' own Lean function (tested against real Go, not proved from fmt's source: count such statements apart). THE CARD IS WHAT COUNTS. Prove the row's statement (the work); the ties are given (YtppcbommaddkgaaDoorTie.lean); close each card by the builder's one call (the guide's Derived/Test/ToyasCard.lean, 'card_holds'). Laid BY PROGRAM, IN A SANDBOX (cutbox-door.mjs). By AI agents, Wed Nov 11 2026. No macro, syntax, notation, axiom, sorry.
-/
import Derived.Test.YtppcbommaddkgaaDoorRows
import GoSem.ClaimSeven
namespace Go.Proofs.YtppcbommaddkgaaDoor
namespace Rows

/-- THE TIED CARD OF 'hauberklaw03.MachRuns'. -/
def machRunsCard : Claim7 := { stood := { row := machRunsRow, standIns := [], harness := (true, "639eb47d645c7bc82ab082b1db412a476b915defe3aef94d135f8249ca8c131d"), looks := false }, kinds := [], alts := [], laidByText := true, laidKinds := [.data, .data], laidTests := true, laidLooks := .later }
def MachRunsCardSaid : Prop := Claim7.holds Tryd.pinned (.plain (OpenSpec.ofChange machRunsSpec)) machRunsCard

/-- THE TIED CARD OF 'hauberklaw03.MachSteps'. -/
def machStepsCard : Claim7 := { stood := { row := machStepsRow, standIns := [], harness := (true, "639eb47d645c7bc82ab082b1db412a476b915defe3aef94d135f8249ca8c131d"), looks := false }, kinds := [], alts := [], laidByText := true, laidKinds := [.data, .data], laidTests := true, laidLooks := .later }
def MachStepsCardSaid : Prop := Claim7.holds Tryd.pinned (.plain (OpenSpec.ofChange machStepsSpec)) machStepsCard

/-- THE TIED CARD OF 'hauberklaw03.MachNews'. -/
def machNewsCard : Claim7 := { stood := { row := machNewsRow, standIns := [], harness := (true, "639eb47d645c7bc82ab082b1db412a476b915defe3aef94d135f8249ca8c131d"), looks := false }, kinds := [], alts := [], laidByText := true, laidKinds := [.data, .data], laidTests := true, laidLooks := .later }
def MachNewsCardSaid : Prop := Claim7.holds Tryd.pinned (.plain (OpenSpec.ofChange machNewsSpec)) machNewsCard

/-- THE TIED CARD OF 'hauberklaw03.MachParts'. -/
def machPartsCard : Claim7 := { stood := { row := machPartsRow, standIns := [], harness := (true, "639eb47d645c7bc82ab082b1db412a476b915defe3aef94d135f8249ca8c131d"), looks := false }, kinds := [], alts := [], laidByText := true, laidKinds := [.data, .data], laidTests := true, laidLooks := .later }
def MachPartsCardSaid : Prop := Claim7.holds Tryd.pinned (.plain (OpenSpec.ofChange machPartsSpec)) machPartsCard

/-- THE SECOND FORM's CARD OF 'hauberklaw03.MachRuns'. -/
def machRunsUptoCard : Claim7 := { stood := { row := machRunsUptoRow, standIns := [], harness := (true, "639eb47d645c7bc82ab082b1db412a476b915defe3aef94d135f8249ca8c131d"), looks := false }, kinds := [], alts := [], laidByText := true, laidKinds := [.data, .data], laidTests := true, laidLooks := .later }
def MachRunsUptoCardSaid : Prop := Claim7.holds Tryd.pinned (.plain (OpenSpec.upto machRunsSpec)) machRunsUptoCard

/-- THE SECOND FORM's CARD OF 'hauberklaw03.MachSteps'. -/
def machStepsUptoCard : Claim7 := { stood := { row := machStepsUptoRow, standIns := [], harness := (true, "639eb47d645c7bc82ab082b1db412a476b915defe3aef94d135f8249ca8c131d"), looks := false }, kinds := [], alts := [], laidByText := true, laidKinds := [.data, .data], laidTests := true, laidLooks := .later }
def MachStepsUptoCardSaid : Prop := Claim7.holds Tryd.pinned (.plain (OpenSpec.upto machStepsSpec)) machStepsUptoCard

/-- THE SECOND FORM's CARD OF 'hauberklaw03.MachNews'. -/
def machNewsUptoCard : Claim7 := { stood := { row := machNewsUptoRow, standIns := [], harness := (true, "639eb47d645c7bc82ab082b1db412a476b915defe3aef94d135f8249ca8c131d"), looks := false }, kinds := [], alts := [], laidByText := true, laidKinds := [.data, .data], laidTests := true, laidLooks := .later }
def MachNewsUptoCardSaid : Prop := Claim7.holds Tryd.pinned (.plain (OpenSpec.upto machNewsSpec)) machNewsUptoCard

/-- THE SECOND FORM's CARD OF 'hauberklaw03.MachParts'. -/
def machPartsUptoCard : Claim7 := { stood := { row := machPartsUptoRow, standIns := [], harness := (true, "639eb47d645c7bc82ab082b1db412a476b915defe3aef94d135f8249ca8c131d"), looks := false }, kinds := [], alts := [], laidByText := true, laidKinds := [.data, .data], laidTests := true, laidLooks := .later }
def MachPartsUptoCardSaid : Prop := Claim7.holds Tryd.pinned (.plain (OpenSpec.upto machPartsSpec)) machPartsUptoCard
end Rows
end Go.Proofs.YtppcbommaddkgaaDoor
