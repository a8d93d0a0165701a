/-
  NARROWER THAN 'FOR EVERY INPUT', by the rows' own cells (each row's printed sentence says how): CodeWords: laid · CodeReads: laid · CodeFields: laid · CodeApart: laid · CodeSteps: laid.
  DERIVED. THE GIVEN ROWS OF THIS SEAT. 5 by the template 'for every input the law returns true; each argument reads behind the call as it read before'; 0 by the template 'total and deterministic' (their statements: YtoooalkkjnkfjaaDoorTotals.lean).
  GIVEN WITH THE SEED: the statements are not yours to turn. If you find one false, say at which input.
  Laid BY PROGRAM, IN A SANDBOX (cutbox-rows.mjs): the forced cells as the released guide's own fill.sh prints them over the translation e0aa55c5817883ae… (all of the seat's roots in one cut). By AI agents, Wed Nov 11 2026. No macro, syntax, notation, axiom, sorry.
-/
import Derived.Test.YtoooalkkjnkfjaaDoorChecked
import GoSem.Claim
import GoSem.ClaimJoined
import GoSem.ClaimMapViews
import Derived.JoinedTies
import Derived.KernelRfl
namespace Go.Proofs.YtoooalkkjnkfjaaDoor
/- THE CELL 'sum', in the pinned program and in every row, IS THE sha256 OF THE DUMP (.gsa) THAT YtoooalkkjnkfjaaDoorProg.lean LOADS. Nothing in Lean hashes anything: it is a label: what it is worth is what the hold of that sum in a sandbox is worth. -/
noncomputable def Tryd.pinned : Pinned := { name := "ytoooalkkjnkfjaadoor", sum := "e0aa55c5817883ae7c04eeafbedfa7ba2ab246a0cc34277bec7d74c5f5b052cb", checked := Tryd.checked }
namespace Rows
def none {H : Type} : Left H := { results := [], args := [] }

/- WHAT THE LISTED PACKAGE-LEVEL VARIABLES READ AS WHEN THE CALL BEGINS. Each datum BY PROGRAM (the guide's laid-datum.mjs) off the statement by which the dump's own 'gosem.cut.vars' lays the variable. In a bare row this is a premise. The card (YtoooalkkjnkfjaaDoorCards.lean) ties it to the program's text. -/
def laid_hauberk_code_forms {H : Type} : DataW H := .agg [.agg [.lit (.bool true), .lit (.bool true), .lit (.bool true), .lit (.int .u32 4261441663), .lit (.int .i64 1), .lit (.int .i64 0), .lit (.int .i64 0), .agg [.agg [.lit (.int .i64 0), .lit (.int .i64 0), .lit (.int .i64 0)], .agg [.lit (.int .i64 0), .lit (.int .i64 0), .lit (.int .i64 0)], .agg [.lit (.int .i64 0), .lit (.int .i64 0), .lit (.int .i64 0)], .agg [.lit (.int .i64 0), .lit (.int .i64 0), .lit (.int .i64 0)]]], .agg [.lit (.bool true), .lit (.bool true), .lit (.bool false), .lit (.int .u32 28799), .lit (.int .i64 (-2048)), .lit (.int .i64 2047), .lit (.int .i64 1), .agg [.agg [.lit (.int .i64 0), .lit (.int .i64 20), .lit (.int .i64 12)], .agg [.lit (.int .i64 0), .lit (.int .i64 0), .lit (.int .i64 0)], .agg [.lit (.int .i64 0), .lit (.int .i64 0), .lit (.int .i64 0)], .agg [.lit (.int .i64 0), .lit (.int .i64 0), .lit (.int .i64 0)]]], .agg [.lit (.bool true), .lit (.bool true), .lit (.bool false), .lit (.int .u32 4227887231), .lit (.int .i64 0), .lit (.int .i64 63), .lit (.int .i64 1), .agg [.agg [.lit (.int .i64 0), .lit (.int .i64 20), .lit (.int .i64 6)], .agg [.lit (.int .i64 0), .lit (.int .i64 0), .lit (.int .i64 0)], .agg [.lit (.int .i64 0), .lit (.int .i64 0), .lit (.int .i64 0)], .agg [.lit (.int .i64 0), .lit (.int .i64 0), .lit (.int .i64 0)]]], .agg [.lit (.bool false), .lit (.bool true), .lit (.bool true), .lit (.int .u32 28799), .lit (.int .i64 (-2048)), .lit (.int .i64 2047), .lit (.int .i64 1), .agg [.agg [.lit (.int .i64 0), .lit (.int .i64 7), .lit (.int .i64 5)], .agg [.lit (.int .i64 5), .lit (.int .i64 25), .lit (.int .i64 7)], .agg [.lit (.int .i64 0), .lit (.int .i64 0), .lit (.int .i64 0)], .agg [.lit (.int .i64 0), .lit (.int .i64 0), .lit (.int .i64 0)]]], .agg [.lit (.bool false), .lit (.bool true), .lit (.bool true), .lit (.int .u32 28799), .lit (.int .i64 (-4096)), .lit (.int .i64 4094), .lit (.int .i64 2), .agg [.agg [.lit (.int .i64 11), .lit (.int .i64 7), .lit (.int .i64 1)], .agg [.lit (.int .i64 1), .lit (.int .i64 8), .lit (.int .i64 4)], .agg [.lit (.int .i64 5), .lit (.int .i64 25), .lit (.int .i64 6)], .agg [.lit (.int .i64 12), .lit (.int .i64 31), .lit (.int .i64 1)]]], .agg [.lit (.bool true), .lit (.bool false), .lit (.bool false), .lit (.int .u32 127), .lit (.int .i64 (-524288)), .lit (.int .i64 524287), .lit (.int .i64 1), .agg [.agg [.lit (.int .i64 0), .lit (.int .i64 12), .lit (.int .i64 20)], .agg [.lit (.int .i64 0), .lit (.int .i64 0), .lit (.int .i64 0)], .agg [.lit (.int .i64 0), .lit (.int .i64 0), .lit (.int .i64 0)], .agg [.lit (.int .i64 0), .lit (.int .i64 0), .lit (.int .i64 0)]]], .agg [.lit (.bool true), .lit (.bool false), .lit (.bool false), .lit (.int .u32 127), .lit (.int .i64 (-1048576)), .lit (.int .i64 1048574), .lit (.int .i64 2), .agg [.agg [.lit (.int .i64 12), .lit (.int .i64 12), .lit (.int .i64 8)], .agg [.lit (.int .i64 11), .lit (.int .i64 20), .lit (.int .i64 1)], .agg [.lit (.int .i64 1), .lit (.int .i64 21), .lit (.int .i64 10)], .agg [.lit (.int .i64 20), .lit (.int .i64 31), .lit (.int .i64 1)]]], .agg [.lit (.bool false), .lit (.bool false), .lit (.bool false), .lit (.int .u32 4294967295), .lit (.int .i64 1), .lit (.int .i64 0), .lit (.int .i64 0), .agg [.agg [.lit (.int .i64 0), .lit (.int .i64 0), .lit (.int .i64 0)], .agg [.lit (.int .i64 0), .lit (.int .i64 0), .lit (.int .i64 0)], .agg [.lit (.int .i64 0), .lit (.int .i64 0), .lit (.int .i64 0)], .agg [.lit (.int .i64 0), .lit (.int .i64 0), .lit (.int .i64 0)]]]]

/-- 'hauberklaw02.CodeWords': WHATEVER THE INPUT: true; the input reads as it did. -/
def codeWordsSpec : ChangeSpec := { name := "codeWords", fn := fun _ => fun
  | [d] => { results := [.lit (.bool true)], args := [d] }
  | _ => none }
def codeWordsRow : OpenClaim := { program := "ytoooalkkjnkfjaadoor", sum := "e0aa55c5817883ae7c04eeafbedfa7ba2ab246a0cc34277bec7d74c5f5b052cb", func := "hauberk/hauberklaw02.CodeWords", spec := "codeWords", unfollowed := true, recurses := true, named := ["hauberk/code.forms"], apart := false, laid := [("hauberk/code.forms", laid_hauberk_code_forms)] }
def CodeWordsSaid : Prop := codeWordsRow.holds Tryd.pinned (OpenSpec.ofChange codeWordsSpec)

/-- ITS FALSE NEIGHBOUR: 'it returns false'. Refute it at one input. -/
def codeWordsWrong : ChangeSpec := { name := "codeWords", fn := fun _ => fun
  | [d] => { results := [.lit (.bool false)], args := [d] }
  | _ => none }
def CodeWordsWrongFalsely : Prop := codeWordsRow.holds Tryd.pinned (OpenSpec.ofChange codeWordsWrong)

/-- 'hauberklaw02.CodeReads': WHATEVER THE INPUT: true; the input reads as it did. -/
def codeReadsSpec : ChangeSpec := { name := "codeReads", fn := fun _ => fun
  | [d] => { results := [.lit (.bool true)], args := [d] }
  | _ => none }
def codeReadsRow : OpenClaim := { program := "ytoooalkkjnkfjaadoor", sum := "e0aa55c5817883ae7c04eeafbedfa7ba2ab246a0cc34277bec7d74c5f5b052cb", func := "hauberk/hauberklaw02.CodeReads", spec := "codeReads", unfollowed := true, recurses := true, named := ["hauberk/code.forms"], apart := false, laid := [("hauberk/code.forms", laid_hauberk_code_forms)] }
def CodeReadsSaid : Prop := codeReadsRow.holds Tryd.pinned (OpenSpec.ofChange codeReadsSpec)

/-- ITS FALSE NEIGHBOUR: 'it returns false'. Refute it at one input. -/
def codeReadsWrong : ChangeSpec := { name := "codeReads", fn := fun _ => fun
  | [d] => { results := [.lit (.bool false)], args := [d] }
  | _ => none }
def CodeReadsWrongFalsely : Prop := codeReadsRow.holds Tryd.pinned (OpenSpec.ofChange codeReadsWrong)

/-- 'hauberklaw02.CodeFields': WHATEVER THE INPUT: true; the input reads as it did. -/
def codeFieldsSpec : ChangeSpec := { name := "codeFields", fn := fun _ => fun
  | [d1, d2, d3] => { results := [.lit (.bool true)], args := [d1, d2, d3] }
  | _ => none }
def codeFieldsRow : OpenClaim := { program := "ytoooalkkjnkfjaadoor", sum := "e0aa55c5817883ae7c04eeafbedfa7ba2ab246a0cc34277bec7d74c5f5b052cb", func := "hauberk/hauberklaw02.CodeFields", spec := "codeFields", unfollowed := true, recurses := true, named := ["hauberk/code.forms"], apart := false, laid := [("hauberk/code.forms", laid_hauberk_code_forms)] }
def CodeFieldsSaid : Prop := codeFieldsRow.holds Tryd.pinned (OpenSpec.ofChange codeFieldsSpec)

/-- ITS FALSE NEIGHBOUR: 'it returns false'. Refute it at one input. -/
def codeFieldsWrong : ChangeSpec := { name := "codeFields", fn := fun _ => fun
  | [d1, d2, d3] => { results := [.lit (.bool false)], args := [d1, d2, d3] }
  | _ => none }
def CodeFieldsWrongFalsely : Prop := codeFieldsRow.holds Tryd.pinned (OpenSpec.ofChange codeFieldsWrong)

/-- 'hauberklaw02.CodeApart': WHATEVER THE INPUT: true; the input reads as it did. -/
def codeApartSpec : ChangeSpec := { name := "codeApart", fn := fun _ => fun
  | [d1, d2] => { results := [.lit (.bool true)], args := [d1, d2] }
  | _ => none }
def codeApartRow : OpenClaim := { program := "ytoooalkkjnkfjaadoor", sum := "e0aa55c5817883ae7c04eeafbedfa7ba2ab246a0cc34277bec7d74c5f5b052cb", func := "hauberk/hauberklaw02.CodeApart", spec := "codeApart", unfollowed := true, recurses := true, named := ["hauberk/code.forms"], apart := false, laid := [("hauberk/code.forms", laid_hauberk_code_forms)] }
def CodeApartSaid : Prop := codeApartRow.holds Tryd.pinned (OpenSpec.ofChange codeApartSpec)

/-- ITS FALSE NEIGHBOUR: 'it returns false'. Refute it at one input. -/
def codeApartWrong : ChangeSpec := { name := "codeApart", fn := fun _ => fun
  | [d1, d2] => { results := [.lit (.bool false)], args := [d1, d2] }
  | _ => none }
def CodeApartWrongFalsely : Prop := codeApartRow.holds Tryd.pinned (OpenSpec.ofChange codeApartWrong)

/-- 'hauberklaw02.CodeSteps': WHATEVER THE INPUT: true; the input reads as it did. -/
def codeStepsSpec : ChangeSpec := { name := "codeSteps", fn := fun _ => fun
  | [d1, d2] => { results := [.lit (.bool true)], args := [d1, d2] }
  | _ => none }
def codeStepsRow : OpenClaim := { program := "ytoooalkkjnkfjaadoor", sum := "e0aa55c5817883ae7c04eeafbedfa7ba2ab246a0cc34277bec7d74c5f5b052cb", func := "hauberk/hauberklaw02.CodeSteps", spec := "codeSteps", unfollowed := true, recurses := true, named := ["hauberk/code.forms"], apart := false, laid := [("hauberk/code.forms", laid_hauberk_code_forms)] }
def CodeStepsSaid : Prop := codeStepsRow.holds Tryd.pinned (OpenSpec.ofChange codeStepsSpec)

/-- ITS FALSE NEIGHBOUR: 'it returns false'. Refute it at one input. -/
def codeStepsWrong : ChangeSpec := { name := "codeSteps", fn := fun _ => fun
  | [d1, d2] => { results := [.lit (.bool false)], args := [d1, d2] }
  | _ => none }
def CodeStepsWrongFalsely : Prop := codeStepsRow.holds Tryd.pinned (OpenSpec.ofChange codeStepsWrong)

/- THE SECOND FORM. 'bulk': how many values and letters a reading holds, each counted each time it is reached (what is shared counts as often as it is met; a slice's spare places count too). A statement '..UptoSaid' is the law's where the arguments, and the package variables that the reading takes, are together of bulk at most 1048576: NARROWER than '..Said'. Prove '..Said' where nothing that the law and all that it calls make is longer than what came in: it says more and counts as full. Else prove '..UptoSaid'. A law counts once. -/
mutual
def uptoBulk {H : Type} : DataW H → Nat
  | .lit (.string bytes) => bytes.length + 1
  | .lit _ => 1
  | .nil => 1
  | .ptr d => uptoBulk d + 1
  | .slice elems spare => uptoBulkAll elems + uptoBulkAll spare + 1
  | .agg parts => uptoBulkAll parts + 1
  | .iface _ d => uptoBulk d + 1
  | .map entries => uptoBulkEntries entries + 1
  | .held _ => 1
def uptoBulkAll {H : Type} : List (DataW H) → Nat
  | [] => 0
  | d :: r => uptoBulk d + uptoBulkAll r
def uptoBulkEntries {H : Type} : List (Lit × DataW H) → Nat
  | [] => 0
  | x :: r => uptoBulkEntry x + uptoBulkEntries r
def uptoBulkEntry {H : Type} : Lit × DataW H → Nat
  | (.string bytes, d) => bytes.length + uptoBulk d + 1
  | (_, d) => uptoBulk d + 1
 end
def uptoSmall : (H : Type) → List (DataW H) → Bool := fun _ ds => decide (uptoBulkAll ds ≤ 1048576)
def OpenSpec.upto (s : _root_.Go.ChangeSpec) : _root_.Go.OpenSpec := { _root_.Go.OpenSpec.ofChange s with cond := some uptoSmall }

/-- 'hauberklaw02.CodeWords', WHERE WHAT IT READS IS OF BULK AT MOST 1048576: true; the input reads as it did. -/
def codeWordsUptoRow : OpenClaim := { program := "ytoooalkkjnkfjaadoor", sum := "e0aa55c5817883ae7c04eeafbedfa7ba2ab246a0cc34277bec7d74c5f5b052cb", func := "hauberk/hauberklaw02.CodeWords", spec := "codeWords", unfollowed := true, recurses := true, named := ["hauberk/code.forms"], apart := false, laid := [("hauberk/code.forms", laid_hauberk_code_forms)], narrowed := true }
def CodeWordsUptoSaid : Prop := codeWordsUptoRow.holds Tryd.pinned (OpenSpec.upto codeWordsSpec)

/-- 'hauberklaw02.CodeReads', WHERE WHAT IT READS IS OF BULK AT MOST 1048576: true; the input reads as it did. -/
def codeReadsUptoRow : OpenClaim := { program := "ytoooalkkjnkfjaadoor", sum := "e0aa55c5817883ae7c04eeafbedfa7ba2ab246a0cc34277bec7d74c5f5b052cb", func := "hauberk/hauberklaw02.CodeReads", spec := "codeReads", unfollowed := true, recurses := true, named := ["hauberk/code.forms"], apart := false, laid := [("hauberk/code.forms", laid_hauberk_code_forms)], narrowed := true }
def CodeReadsUptoSaid : Prop := codeReadsUptoRow.holds Tryd.pinned (OpenSpec.upto codeReadsSpec)

/-- 'hauberklaw02.CodeFields', WHERE WHAT IT READS IS OF BULK AT MOST 1048576: true; the input reads as it did. -/
def codeFieldsUptoRow : OpenClaim := { program := "ytoooalkkjnkfjaadoor", sum := "e0aa55c5817883ae7c04eeafbedfa7ba2ab246a0cc34277bec7d74c5f5b052cb", func := "hauberk/hauberklaw02.CodeFields", spec := "codeFields", unfollowed := true, recurses := true, named := ["hauberk/code.forms"], apart := false, laid := [("hauberk/code.forms", laid_hauberk_code_forms)], narrowed := true }
def CodeFieldsUptoSaid : Prop := codeFieldsUptoRow.holds Tryd.pinned (OpenSpec.upto codeFieldsSpec)

/-- 'hauberklaw02.CodeApart', WHERE WHAT IT READS IS OF BULK AT MOST 1048576: true; the input reads as it did. -/
def codeApartUptoRow : OpenClaim := { program := "ytoooalkkjnkfjaadoor", sum := "e0aa55c5817883ae7c04eeafbedfa7ba2ab246a0cc34277bec7d74c5f5b052cb", func := "hauberk/hauberklaw02.CodeApart", spec := "codeApart", unfollowed := true, recurses := true, named := ["hauberk/code.forms"], apart := false, laid := [("hauberk/code.forms", laid_hauberk_code_forms)], narrowed := true }
def CodeApartUptoSaid : Prop := codeApartUptoRow.holds Tryd.pinned (OpenSpec.upto codeApartSpec)

/-- 'hauberklaw02.CodeSteps', WHERE WHAT IT READS IS OF BULK AT MOST 1048576: true; the input reads as it did. -/
def codeStepsUptoRow : OpenClaim := { program := "ytoooalkkjnkfjaadoor", sum := "e0aa55c5817883ae7c04eeafbedfa7ba2ab246a0cc34277bec7d74c5f5b052cb", func := "hauberk/hauberklaw02.CodeSteps", spec := "codeSteps", unfollowed := true, recurses := true, named := ["hauberk/code.forms"], apart := false, laid := [("hauberk/code.forms", laid_hauberk_code_forms)], narrowed := true }
def CodeStepsUptoSaid : Prop := codeStepsUptoRow.holds Tryd.pinned (OpenSpec.upto codeStepsSpec)

end Rows
end Go.Proofs.YtoooalkkjnkfjaaDoor
