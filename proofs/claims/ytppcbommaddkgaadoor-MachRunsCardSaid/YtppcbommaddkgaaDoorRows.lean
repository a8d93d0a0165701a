/-
  NARROWER THAN 'FOR EVERY INPUT', by the rows' own cells (each row's printed sentence says how): MachRuns: laid · MachSteps: laid · MachNews: laid · MachParts: laid.
  DERIVED. THE GIVEN ROWS OF THIS SEAT. 4 by the template 'for every input the law returns true; each argument reads behind the call as it read before'; 0 by the template 'total and deterministic' (their statements: YtppcbommaddkgaaDoorTotals.lean).
  GIVEN WITH THE SEED: the statements are not yours to turn. If you find one false, say at which input.
  Laid BY PROGRAM, IN A SANDBOX (cutbox-rows.mjs): the forced cells as the released guide's own fill.sh prints them over the translation 082cad2ec739933e… (all of the seat's roots in one cut). By AI agents, Wed Nov 11 2026. No macro, syntax, notation, axiom, sorry.
-/
import Derived.Test.YtppcbommaddkgaaDoorChecked
import GoSem.Claim
import GoSem.ClaimJoined
import GoSem.ClaimMapViews
import Derived.JoinedTies
import Derived.KernelRfl
namespace Go.Proofs.YtppcbommaddkgaaDoor
/- THE CELL 'sum', in the pinned program and in every row, IS THE sha256 OF THE DUMP (.gsa) THAT YtppcbommaddkgaaDoorProg.lean LOADS. Nothing in Lean hashes anything: it is a label: what it is worth is what the hold of that sum in a sandbox is worth. -/
noncomputable def Tryd.pinned : Pinned := { name := "ytppcbommaddkgaadoor", sum := "082cad2ec739933ef420cdd2ef394230450b6e14264a9de13eb307ea8efc6efa", checked := Tryd.checked }
namespace Rows
def none {H : Type} : Left H := { results := [], args := [] }

/- WHAT THE LISTED PACKAGE-LEVEL VARIABLES READ AS WHEN THE CALL BEGINS. Each datum BY PROGRAM (the guide's laid-datum.mjs) off the statement by which the dump's own 'gosem.cut.vars' lays the variable. In a bare row this is a premise. The card (YtppcbommaddkgaaDoorCards.lean) ties it to the program's text. -/
def laid_hauberk_code_forms {H : Type} : DataW H := .agg [.agg [.lit (.bool true), .lit (.bool true), .lit (.bool true), .lit (.int .u32 4261441663), .lit (.int .i64 1), .lit (.int .i64 0), .lit (.int .i64 0), .agg [.agg [.lit (.int .i64 0), .lit (.int .i64 0), .lit (.int .i64 0)], .agg [.lit (.int .i64 0), .lit (.int .i64 0), .lit (.int .i64 0)], .agg [.lit (.int .i64 0), .lit (.int .i64 0), .lit (.int .i64 0)], .agg [.lit (.int .i64 0), .lit (.int .i64 0), .lit (.int .i64 0)]]], .agg [.lit (.bool true), .lit (.bool true), .lit (.bool false), .lit (.int .u32 28799), .lit (.int .i64 (-2048)), .lit (.int .i64 2047), .lit (.int .i64 1), .agg [.agg [.lit (.int .i64 0), .lit (.int .i64 20), .lit (.int .i64 12)], .agg [.lit (.int .i64 0), .lit (.int .i64 0), .lit (.int .i64 0)], .agg [.lit (.int .i64 0), .lit (.int .i64 0), .lit (.int .i64 0)], .agg [.lit (.int .i64 0), .lit (.int .i64 0), .lit (.int .i64 0)]]], .agg [.lit (.bool true), .lit (.bool true), .lit (.bool false), .lit (.int .u32 4227887231), .lit (.int .i64 0), .lit (.int .i64 63), .lit (.int .i64 1), .agg [.agg [.lit (.int .i64 0), .lit (.int .i64 20), .lit (.int .i64 6)], .agg [.lit (.int .i64 0), .lit (.int .i64 0), .lit (.int .i64 0)], .agg [.lit (.int .i64 0), .lit (.int .i64 0), .lit (.int .i64 0)], .agg [.lit (.int .i64 0), .lit (.int .i64 0), .lit (.int .i64 0)]]], .agg [.lit (.bool false), .lit (.bool true), .lit (.bool true), .lit (.int .u32 28799), .lit (.int .i64 (-2048)), .lit (.int .i64 2047), .lit (.int .i64 1), .agg [.agg [.lit (.int .i64 0), .lit (.int .i64 7), .lit (.int .i64 5)], .agg [.lit (.int .i64 5), .lit (.int .i64 25), .lit (.int .i64 7)], .agg [.lit (.int .i64 0), .lit (.int .i64 0), .lit (.int .i64 0)], .agg [.lit (.int .i64 0), .lit (.int .i64 0), .lit (.int .i64 0)]]], .agg [.lit (.bool false), .lit (.bool true), .lit (.bool true), .lit (.int .u32 28799), .lit (.int .i64 (-4096)), .lit (.int .i64 4094), .lit (.int .i64 2), .agg [.agg [.lit (.int .i64 11), .lit (.int .i64 7), .lit (.int .i64 1)], .agg [.lit (.int .i64 1), .lit (.int .i64 8), .lit (.int .i64 4)], .agg [.lit (.int .i64 5), .lit (.int .i64 25), .lit (.int .i64 6)], .agg [.lit (.int .i64 12), .lit (.int .i64 31), .lit (.int .i64 1)]]], .agg [.lit (.bool true), .lit (.bool false), .lit (.bool false), .lit (.int .u32 127), .lit (.int .i64 (-524288)), .lit (.int .i64 524287), .lit (.int .i64 1), .agg [.agg [.lit (.int .i64 0), .lit (.int .i64 12), .lit (.int .i64 20)], .agg [.lit (.int .i64 0), .lit (.int .i64 0), .lit (.int .i64 0)], .agg [.lit (.int .i64 0), .lit (.int .i64 0), .lit (.int .i64 0)], .agg [.lit (.int .i64 0), .lit (.int .i64 0), .lit (.int .i64 0)]]], .agg [.lit (.bool true), .lit (.bool false), .lit (.bool false), .lit (.int .u32 127), .lit (.int .i64 (-1048576)), .lit (.int .i64 1048574), .lit (.int .i64 2), .agg [.agg [.lit (.int .i64 12), .lit (.int .i64 12), .lit (.int .i64 8)], .agg [.lit (.int .i64 11), .lit (.int .i64 20), .lit (.int .i64 1)], .agg [.lit (.int .i64 1), .lit (.int .i64 21), .lit (.int .i64 10)], .agg [.lit (.int .i64 20), .lit (.int .i64 31), .lit (.int .i64 1)]]], .agg [.lit (.bool false), .lit (.bool false), .lit (.bool false), .lit (.int .u32 4294967295), .lit (.int .i64 1), .lit (.int .i64 0), .lit (.int .i64 0), .agg [.agg [.lit (.int .i64 0), .lit (.int .i64 0), .lit (.int .i64 0)], .agg [.lit (.int .i64 0), .lit (.int .i64 0), .lit (.int .i64 0)], .agg [.lit (.int .i64 0), .lit (.int .i64 0), .lit (.int .i64 0)], .agg [.lit (.int .i64 0), .lit (.int .i64 0), .lit (.int .i64 0)]]]]
def laid_hauberk_mach_operations {H : Type} : DataW H := .agg [.lit (.int .i64 0), .lit (.int .i64 0), .lit (.int .i64 0), .lit (.int .i64 0), .lit (.int .i64 0), .lit (.int .i64 0), .lit (.int .i64 0), .lit (.int .i64 0), .lit (.int .i64 0), .lit (.int .i64 0), .lit (.int .i64 0), .lit (.int .i64 0), .lit (.int .i64 0), .lit (.int .i64 0), .lit (.int .i64 0), .lit (.int .i64 0), .lit (.int .i64 0), .lit (.int .i64 0), .lit (.int .i64 0), .lit (.int .i64 0), .lit (.int .i64 0), .lit (.int .i64 0), .lit (.int .i64 0), .lit (.int .i64 0), .lit (.int .i64 0), .lit (.int .i64 0), .lit (.int .i64 0), .lit (.int .i64 0), .lit (.int .i64 1), .lit (.int .i64 4), .lit (.int .i64 5), .lit (.int .i64 6), .lit (.int .i64 9), .lit (.int .i64 10), .lit (.int .i64 3), .lit (.int .i64 7), .lit (.int .i64 8), .lit (.int .i64 18)]

/-- 'hauberklaw03.MachRuns': WHATEVER THE INPUT: true; the input reads as it did. -/
def machRunsSpec : ChangeSpec := { name := "machRuns", fn := fun _ => fun
  | [d1, d2, d3] => { results := [.lit (.bool true)], args := [d1, d2, d3] }
  | _ => none }
def machRunsRow : OpenClaim := { program := "ytppcbommaddkgaadoor", sum := "082cad2ec739933ef420cdd2ef394230450b6e14264a9de13eb307ea8efc6efa", func := "hauberk/hauberklaw03.MachRuns", spec := "machRuns", unfollowed := true, recurses := true, named := ["hauberk/mach.operations", "hauberk/code.forms"], apart := false, laid := [("hauberk/code.forms", laid_hauberk_code_forms), ("hauberk/mach.operations", laid_hauberk_mach_operations)] }
def MachRunsSaid : Prop := machRunsRow.holds Tryd.pinned (OpenSpec.ofChange machRunsSpec)

/-- ITS FALSE NEIGHBOUR: 'it returns false'. Refute it at one input. -/
def machRunsWrong : ChangeSpec := { name := "machRuns", fn := fun _ => fun
  | [d1, d2, d3] => { results := [.lit (.bool false)], args := [d1, d2, d3] }
  | _ => none }
def MachRunsWrongFalsely : Prop := machRunsRow.holds Tryd.pinned (OpenSpec.ofChange machRunsWrong)

/-- 'hauberklaw03.MachSteps': WHATEVER THE INPUT: true; the input reads as it did. -/
def machStepsSpec : ChangeSpec := { name := "machSteps", fn := fun _ => fun
  | [d1, d2, d3] => { results := [.lit (.bool true)], args := [d1, d2, d3] }
  | _ => none }
def machStepsRow : OpenClaim := { program := "ytppcbommaddkgaadoor", sum := "082cad2ec739933ef420cdd2ef394230450b6e14264a9de13eb307ea8efc6efa", func := "hauberk/hauberklaw03.MachSteps", spec := "machSteps", unfollowed := true, recurses := true, named := ["hauberk/mach.operations", "hauberk/code.forms"], apart := false, laid := [("hauberk/code.forms", laid_hauberk_code_forms), ("hauberk/mach.operations", laid_hauberk_mach_operations)] }
def MachStepsSaid : Prop := machStepsRow.holds Tryd.pinned (OpenSpec.ofChange machStepsSpec)

/-- ITS FALSE NEIGHBOUR: 'it returns false'. Refute it at one input. -/
def machStepsWrong : ChangeSpec := { name := "machSteps", fn := fun _ => fun
  | [d1, d2, d3] => { results := [.lit (.bool false)], args := [d1, d2, d3] }
  | _ => none }
def MachStepsWrongFalsely : Prop := machStepsRow.holds Tryd.pinned (OpenSpec.ofChange machStepsWrong)

/-- 'hauberklaw03.MachNews': WHATEVER THE INPUT: true; the input reads as it did. -/
def machNewsSpec : ChangeSpec := { name := "machNews", fn := fun _ => fun
  | [d1, d2] => { results := [.lit (.bool true)], args := [d1, d2] }
  | _ => none }
def machNewsRow : OpenClaim := { program := "ytppcbommaddkgaadoor", sum := "082cad2ec739933ef420cdd2ef394230450b6e14264a9de13eb307ea8efc6efa", func := "hauberk/hauberklaw03.MachNews", spec := "machNews", unfollowed := true, recurses := true, named := ["hauberk/mach.operations", "hauberk/code.forms"], apart := false, laid := [("hauberk/code.forms", laid_hauberk_code_forms), ("hauberk/mach.operations", laid_hauberk_mach_operations)] }
def MachNewsSaid : Prop := machNewsRow.holds Tryd.pinned (OpenSpec.ofChange machNewsSpec)

/-- ITS FALSE NEIGHBOUR: 'it returns false'. Refute it at one input. -/
def machNewsWrong : ChangeSpec := { name := "machNews", fn := fun _ => fun
  | [d1, d2] => { results := [.lit (.bool false)], args := [d1, d2] }
  | _ => none }
def MachNewsWrongFalsely : Prop := machNewsRow.holds Tryd.pinned (OpenSpec.ofChange machNewsWrong)

/-- 'hauberklaw03.MachParts': WHATEVER THE INPUT: true; the input reads as it did. -/
def machPartsSpec : ChangeSpec := { name := "machParts", fn := fun _ => fun
  | [d1, d2, d3] => { results := [.lit (.bool true)], args := [d1, d2, d3] }
  | _ => none }
def machPartsRow : OpenClaim := { program := "ytppcbommaddkgaadoor", sum := "082cad2ec739933ef420cdd2ef394230450b6e14264a9de13eb307ea8efc6efa", func := "hauberk/hauberklaw03.MachParts", spec := "machParts", unfollowed := true, recurses := true, named := ["hauberk/mach.operations", "hauberk/code.forms"], apart := false, laid := [("hauberk/code.forms", laid_hauberk_code_forms), ("hauberk/mach.operations", laid_hauberk_mach_operations)] }
def MachPartsSaid : Prop := machPartsRow.holds Tryd.pinned (OpenSpec.ofChange machPartsSpec)

/-- ITS FALSE NEIGHBOUR: 'it returns false'. Refute it at one input. -/
def machPartsWrong : ChangeSpec := { name := "machParts", fn := fun _ => fun
  | [d1, d2, d3] => { results := [.lit (.bool false)], args := [d1, d2, d3] }
  | _ => none }
def MachPartsWrongFalsely : Prop := machPartsRow.holds Tryd.pinned (OpenSpec.ofChange machPartsWrong)

/- THE SECOND FORM. 'bulk': how many values and letters a reading holds, each counted each time it is reached (what is shared counts as often as it is met; a slice's spare places count too). A statement '..UptoSaid' is the law's where the arguments, and the package variables that the reading takes, are together of bulk at most 1048576: NARROWER than '..Said'. Prove '..Said' where nothing that the law and all that it calls make is longer than what came in: it says more and counts as full. Else prove '..UptoSaid'. A law counts once. -/
mutual
def uptoBulk {H : Type} : DataW H → Nat
  | .lit (.string bytes) => bytes.length + 1
  | .lit _ => 1
  | .nil => 1
  | .ptr d => uptoBulk d + 1
  | .slice elems spare => uptoBulkAll elems + uptoBulkAll spare + 1
  | .agg parts => uptoBulkAll parts + 1
  | .iface _ d => uptoBulk d + 1
  | .map entries => uptoBulkEntries entries + 1
  | .held _ => 1
def uptoBulkAll {H : Type} : List (DataW H) → Nat
  | [] => 0
  | d :: r => uptoBulk d + uptoBulkAll r
def uptoBulkEntries {H : Type} : List (Lit × DataW H) → Nat
  | [] => 0
  | x :: r => uptoBulkEntry x + uptoBulkEntries r
def uptoBulkEntry {H : Type} : Lit × DataW H → Nat
  | (.string bytes, d) => bytes.length + uptoBulk d + 1
  | (_, d) => uptoBulk d + 1
 end
def uptoSmall : (H : Type) → List (DataW H) → Bool := fun _ ds => decide (uptoBulkAll ds ≤ 1048576)
def OpenSpec.upto (s : _root_.Go.ChangeSpec) : _root_.Go.OpenSpec := { _root_.Go.OpenSpec.ofChange s with cond := some uptoSmall }

/-- 'hauberklaw03.MachRuns', WHERE WHAT IT READS IS OF BULK AT MOST 1048576: true; the input reads as it did. -/
def machRunsUptoRow : OpenClaim := { program := "ytppcbommaddkgaadoor", sum := "082cad2ec739933ef420cdd2ef394230450b6e14264a9de13eb307ea8efc6efa", func := "hauberk/hauberklaw03.MachRuns", spec := "machRuns", unfollowed := true, recurses := true, named := ["hauberk/mach.operations", "hauberk/code.forms"], apart := false, laid := [("hauberk/code.forms", laid_hauberk_code_forms), ("hauberk/mach.operations", laid_hauberk_mach_operations)], narrowed := true }
def MachRunsUptoSaid : Prop := machRunsUptoRow.holds Tryd.pinned (OpenSpec.upto machRunsSpec)

/-- 'hauberklaw03.MachSteps', WHERE WHAT IT READS IS OF BULK AT MOST 1048576: true; the input reads as it did. -/
def machStepsUptoRow : OpenClaim := { program := "ytppcbommaddkgaadoor", sum := "082cad2ec739933ef420cdd2ef394230450b6e14264a9de13eb307ea8efc6efa", func := "hauberk/hauberklaw03.MachSteps", spec := "machSteps", unfollowed := true, recurses := true, named := ["hauberk/mach.operations", "hauberk/code.forms"], apart := false, laid := [("hauberk/code.forms", laid_hauberk_code_forms), ("hauberk/mach.operations", laid_hauberk_mach_operations)], narrowed := true }
def MachStepsUptoSaid : Prop := machStepsUptoRow.holds Tryd.pinned (OpenSpec.upto machStepsSpec)

/-- 'hauberklaw03.MachNews', WHERE WHAT IT READS IS OF BULK AT MOST 1048576: true; the input reads as it did. -/
def machNewsUptoRow : OpenClaim := { program := "ytppcbommaddkgaadoor", sum := "082cad2ec739933ef420cdd2ef394230450b6e14264a9de13eb307ea8efc6efa", func := "hauberk/hauberklaw03.MachNews", spec := "machNews", unfollowed := true, recurses := true, named := ["hauberk/mach.operations", "hauberk/code.forms"], apart := false, laid := [("hauberk/code.forms", laid_hauberk_code_forms), ("hauberk/mach.operations", laid_hauberk_mach_operations)], narrowed := true }
def MachNewsUptoSaid : Prop := machNewsUptoRow.holds Tryd.pinned (OpenSpec.upto machNewsSpec)

/-- 'hauberklaw03.MachParts', WHERE WHAT IT READS IS OF BULK AT MOST 1048576: true; the input reads as it did. -/
def machPartsUptoRow : OpenClaim := { program := "ytppcbommaddkgaadoor", sum := "082cad2ec739933ef420cdd2ef394230450b6e14264a9de13eb307ea8efc6efa", func := "hauberk/hauberklaw03.MachParts", spec := "machParts", unfollowed := true, recurses := true, named := ["hauberk/mach.operations", "hauberk/code.forms"], apart := false, laid := [("hauberk/code.forms", laid_hauberk_code_forms), ("hauberk/mach.operations", laid_hauberk_mach_operations)], narrowed := true }
def MachPartsUptoSaid : Prop := machPartsUptoRow.holds Tryd.pinned (OpenSpec.upto machPartsSpec)

end Rows
end Go.Proofs.YtppcbommaddkgaaDoor
