/-
  DERIVED. GIVEN WITH THE SEED: THE CARDS: each row of YtlghhailckoonaaDoorRows.lean that lists a variable, with what it lists TIED to the program's text (the seventh form; the later family's looks); each row that meets fmt, with fmt's text TOLD by the authors' own Lean function (tested against real Go, not proved from fmt's source: count such statements apart). THE CARD IS WHAT COUNTS. Prove the row's statement (the work); the ties are given (YtlghhailckoonaaDoorTie.lean); close each card by the builder's one call (the guide's Derived/Test/ToyasCard.lean, 'card_holds'). Laid BY PROGRAM, IN A SANDBOX (cutbox-door.mjs). By AI agents, Wed Nov 11 2026. No macro, syntax, notation, axiom, sorry.
-/
import Derived.Test.YtlghhailckoonaaDoorRows
import GoSem.ClaimSeven
namespace Go.Proofs.YtlghhailckoonaaDoor
namespace Rows

/-- THE TIED CARD OF 'hauberklaw03.MachRuns'. -/
def machRunsCard : Claim7 := { stood := { row := machRunsRow, standIns := [], harness := (true, "b671cbaef4dea88b42e20a650c3acd8dc196e864707a4baead678b7d3d4e4e21"), looks := false }, kinds := [], alts := [], laidByText := true, laidKinds := [.data, .data], laidTests := true, laidLooks := .later }
def MachRunsCardSaid : Prop := Claim7.holds Tryd.pinned (.plain (OpenSpec.ofChange machRunsSpec)) machRunsCard

/-- THE TIED CARD OF 'hauberklaw03.MachSteps'. -/
def machStepsCard : Claim7 := { stood := { row := machStepsRow, standIns := [], harness := (true, "b671cbaef4dea88b42e20a650c3acd8dc196e864707a4baead678b7d3d4e4e21"), looks := false }, kinds := [], alts := [], laidByText := true, laidKinds := [.data, .data], laidTests := true, laidLooks := .later }
def MachStepsCardSaid : Prop := Claim7.holds Tryd.pinned (.plain (OpenSpec.ofChange machStepsSpec)) machStepsCard

/-- THE TIED CARD OF 'hauberklaw03.MachNews'. -/
def machNewsCard : Claim7 := { stood := { row := machNewsRow, standIns := [], harness := (true, "b671cbaef4dea88b42e20a650c3acd8dc196e864707a4baead678b7d3d4e4e21"), looks := false }, kinds := [], alts := [], laidByText := true, laidKinds := [.data, .data], laidTests := true, laidLooks := .later }
def MachNewsCardSaid : Prop := Claim7.holds Tryd.pinned (.plain (OpenSpec.ofChange machNewsSpec)) machNewsCard

/-- THE TIED CARD OF 'hauberklaw03.MachParts'. -/
def machPartsCard : Claim7 := { stood := { row := machPartsRow, standIns := [], harness := (true, "b671cbaef4dea88b42e20a650c3acd8dc196e864707a4baead678b7d3d4e4e21"), looks := false }, kinds := [], alts := [], laidByText := true, laidKinds := [.data, .data], laidTests := true, laidLooks := .later }
def MachPartsCardSaid : Prop := Claim7.holds Tryd.pinned (.plain (OpenSpec.ofChange machPartsSpec)) machPartsCard

/-- THE TIED CARD OF 'hauberklaw03.MachKeeps'. -/
def machKeepsCard : Claim7 := { stood := { row := machKeepsRow, standIns := [], harness := (true, "b671cbaef4dea88b42e20a650c3acd8dc196e864707a4baead678b7d3d4e4e21"), looks := false }, kinds := [], alts := [], laidByText := true, laidKinds := [.data, .data], laidTests := true, laidLooks := .later }
def MachKeepsCardSaid : Prop := Claim7.holds Tryd.pinned (.plain (OpenSpec.ofChange machKeepsSpec)) machKeepsCard

/-- THE TIED CARD OF 'hauberklaw03.MachEchoes'. -/
def machEchoesCard : Claim7 := { stood := { row := machEchoesRow, standIns := [], harness := (true, "b671cbaef4dea88b42e20a650c3acd8dc196e864707a4baead678b7d3d4e4e21"), looks := false }, kinds := [], alts := [], laidByText := true, laidKinds := [.data, .data], laidTests := true, laidLooks := .later }
def MachEchoesCardSaid : Prop := Claim7.holds Tryd.pinned (.plain (OpenSpec.ofChange machEchoesSpec)) machEchoesCard

/-- THE SECOND FORM's CARD OF 'hauberklaw03.MachRuns'. -/
def machRunsUptoCard : Claim7 := { stood := { row := machRunsUptoRow, standIns := [], harness := (true, "b671cbaef4dea88b42e20a650c3acd8dc196e864707a4baead678b7d3d4e4e21"), looks := false }, kinds := [], alts := [], laidByText := true, laidKinds := [.data, .data], laidTests := true, laidLooks := .later }
def MachRunsUptoCardSaid : Prop := Claim7.holds Tryd.pinned (.plain (OpenSpec.upto machRunsSpec)) machRunsUptoCard

/-- THE SECOND FORM's CARD OF 'hauberklaw03.MachSteps'. -/
def machStepsUptoCard : Claim7 := { stood := { row := machStepsUptoRow, standIns := [], harness := (true, "b671cbaef4dea88b42e20a650c3acd8dc196e864707a4baead678b7d3d4e4e21"), looks := false }, kinds := [], alts := [], laidByText := true, laidKinds := [.data, .data], laidTests := true, laidLooks := .later }
def MachStepsUptoCardSaid : Prop := Claim7.holds Tryd.pinned (.plain (OpenSpec.upto machStepsSpec)) machStepsUptoCard

/-- THE SECOND FORM's CARD OF 'hauberklaw03.MachNews'. -/
def machNewsUptoCard : Claim7 := { stood := { row := machNewsUptoRow, standIns := [], harness := (true, "b671cbaef4dea88b42e20a650c3acd8dc196e864707a4baead678b7d3d4e4e21"), looks := false }, kinds := [], alts := [], laidByText := true, laidKinds := [.data, .data], laidTests := true, laidLooks := .later }
def MachNewsUptoCardSaid : Prop := Claim7.holds Tryd.pinned (.plain (OpenSpec.upto machNewsSpec)) machNewsUptoCard

/-- THE SECOND FORM's CARD OF 'hauberklaw03.MachParts'. -/
def machPartsUptoCard : Claim7 := { stood := { row := machPartsUptoRow, standIns := [], harness := (true, "b671cbaef4dea88b42e20a650c3acd8dc196e864707a4baead678b7d3d4e4e21"), looks := false }, kinds := [], alts := [], laidByText := true, laidKinds := [.data, .data], laidTests := true, laidLooks := .later }
def MachPartsUptoCardSaid : Prop := Claim7.holds Tryd.pinned (.plain (OpenSpec.upto machPartsSpec)) machPartsUptoCard

/-- THE SECOND FORM's CARD OF 'hauberklaw03.MachKeeps'. -/
def machKeepsUptoCard : Claim7 := { stood := { row := machKeepsUptoRow, standIns := [], harness := (true, "b671cbaef4dea88b42e20a650c3acd8dc196e864707a4baead678b7d3d4e4e21"), looks := false }, kinds := [], alts := [], laidByText := true, laidKinds := [.data, .data], laidTests := true, laidLooks := .later }
def MachKeepsUptoCardSaid : Prop := Claim7.holds Tryd.pinned (.plain (OpenSpec.upto machKeepsSpec)) machKeepsUptoCard

/-- THE SECOND FORM's CARD OF 'hauberklaw03.MachEchoes'. -/
def machEchoesUptoCard : Claim7 := { stood := { row := machEchoesUptoRow, standIns := [], harness := (true, "b671cbaef4dea88b42e20a650c3acd8dc196e864707a4baead678b7d3d4e4e21"), looks := false }, kinds := [], alts := [], laidByText := true, laidKinds := [.data, .data], laidTests := true, laidLooks := .later }
def MachEchoesUptoCardSaid : Prop := Claim7.holds Tryd.pinned (.plain (OpenSpec.upto machEchoesSpec)) machEchoesUptoCard
end Rows
end Go.Proofs.YtlghhailckoonaaDoor
