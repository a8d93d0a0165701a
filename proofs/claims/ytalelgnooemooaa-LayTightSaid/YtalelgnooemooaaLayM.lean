/- The sizes of package lay: its map. Conditions: each theorem's. -/
import Derived.Test.YtalelgnooemooaaLayH
import Derived.Maps.OwnSet
import Derived.Maps.Own
import Derived.DeepKeys5
import Derived.Deep.RegionHeld3
namespace Go.Proofs.Ytalelgnooemooaa
open Go.RowKit Go.Maps
set_option linter.unusedVariables false
set_option linter.unusedSimpArgs false
set_option maxRecDepth 100000
open Py
theorem laidOut : laidOutB Try.prog = true := by kernel_rfl
theorem lawTy : Keyed Try.prog 24 := Keyed.of_law (deep_law_laid laidOut (m := 4) (by omega) (by decide +kernel) (by kernel_rfl) (by kernel_rfl))
theorem keyT : Try.prog.keyType 24 = true := by kernel_rfl
theorem cellsI : Try.prog.cellsOf 3 = 1 := by kernel_rfl
theorem cellsS : Try.prog.cellsOf 9 = 1 := by kernel_rfl
theorem cellsT : Try.prog.cellsOf 24 = 3 := by kernel_rfl
def tyOk (t : Ty) : Prop := (Lit.int .i64 t.ba).wf = true ∧ (Lit.int .i64 t.st).wf = true ∧ t.sn.size ≤ maxLen
theorem sizeTys : ∃ m, Try.prog.types.size + 1 = m + 2 := ⟨Try.prog.types.size - 1, by decide +kernel⟩
theorem formedT (t : Ty) : Value.formed Try.prog 24 (.agg #[.int .i64 t.ba, .int .i64 t.st, .string t.sn]) = true := by
  simp [Value.formed, Try.underlying24, cellsT]
theorem litsI {m : Nat} {n : Int} (h : (Lit.int .i64 n).wf = true) : Try.prog.keyLits (m + 1) 3 [.int .i64 n] = some [.int .i64 n] := by
  unfold Program.keyLits
  simp [Try.underlying3, h]
theorem litsS {m : Nat} {n : ByteArray} (h : n.size ≤ maxLen) : Try.prog.keyLits (m + 1) 9 [.string n] = some [.string n.data.toList] := by
  unfold Program.keyLits
  simp [Try.underlying9, h]
def keyL (t : Ty) : Lit := .string (keyBytes [.int .i64 t.ba, .int .i64 t.st, .string t.sn.data.toList])
theorem key_ty (t : Ty) (h : tyOk t) : keyOf Try.prog 24 (.agg #[.int .i64 t.ba, .int .i64 t.st, .string t.sn]) = some (keyL t) := by
  obtain ⟨h1, h2, h3⟩ := h
  obtain ⟨m, hm⟩ := sizeTys
  have hl : Try.prog.keyLits (Try.prog.types.size + 1) 24 [.int .i64 t.ba, .int .i64 t.st, .string t.sn] = some [.int .i64 t.ba, .int .i64 t.st, .string t.sn.data.toList] := by
    rw [hm]
    unfold Program.keyLits
    simp only [Try.underlying24]
    simp [cellsI, cellsS, cellsT, litsI h1, litsI h2, litsS h3]
  unfold keyOf
  simp only [Try.underlying24, keyT, formedT, Value.cells, hl]
  rfl
theorem key_ne {t u : Ty} (ht : tyOk t) (hu : tyOk u) (h : t ≠ u) : keyL t ≠ keyL u := by
  intro e
  have a := key_ty t ht
  rw [e, ← key_ty u hu] at a
  have := lawTy.inj (key_ty t ht) (e ▸ key_ty u hu)
  apply h
  obtain ⟨tb, ts, tn⟩ := t
  obtain ⟨ub, us, un⟩ := u
  simp at this
  obtain ⟨rfl, rfl, rfl⟩ := this
  rfl
def tC : Ty := ⟨1, 0, ByteArray.empty⟩
def tI : Ty := ⟨2, 0, ByteArray.empty⟩
def tL : Ty := ⟨3, 0, ByteArray.empty⟩
/-- What the map has. -/
def mapV (t : Ty) : Int := if t = tC then 1 else if t = tI then 4 else if t = tL then 8 else 0
theorem okC : tyOk tC := ⟨by decide, by decide, Nat.zero_le _⟩
theorem okI : tyOk tI := ⟨by decide, by decide, Nat.zero_le _⟩
theorem okL : tyOk tL := ⟨by decide, by decide, Nat.zero_le _⟩
def isNum (D : DataW Unit) : Prop := ∀ t : Ty, tyOk t → D.atKey (keyL t) (.lit (.int .i64 0)) = .lit (.int .i64 (mapV t))
/-- The map in memory. -/
def NumsAt (w : World) (b : Nat) : Prop := ∃ D : DataW Unit, w.ownsMap Try.prog 24 (plainElem Try.prog 3) b 3 D ∧ isNum D
theorem run_makeMap3 (w : World) : (Instr.makeMap 67 none).run Try.prog w = .ok (.map (some w.heap.size)) (w.alloc (.map #[] 0)) := by
  simp [Instr.makeMap, Try.underlying67]
theorem put_run {w : World} {b n : Nat} {D : DataW Unit} (t : Ty) (v : Int) (ht : tyOk t) (hv : (Lit.int .i64 v).wf = true) (h : w.ownsMap Try.prog 24 (plainElem Try.prog 3) b n D) (hn : n < 3) :
    ∃ w', (Instr.mapUpdate 67 (.map (some b)) (.agg #[.int .i64 t.ba, .int .i64 t.st, .string t.sn]) (.int .i64 v)).run Try.prog w = .ok () w' ∧ w'.ownsMap Try.prog 24 (plainElem Try.prog 3) b (n + 1) (D.put (keyL t) (.lit (.int .i64 v))) ∧ w.grownBy w' (some b) :=
  h.update lawTy Try.underlying67 (by unfold maxLen; omega) (key_ty t ht) (plainElem_int Try.underlying3 hv)
theorem put_C {w : World} {b n : Nat} {D : DataW Unit} (h : w.ownsMap Try.prog 24 (plainElem Try.prog 3) b n D) (hn : n < 3) :
    ∃ w', (Instr.mapUpdate 67 (.map (some b)) (.agg #[.int .i64 1, .int .i64 0, .string ⟨#[]⟩]) (.int .i64 1)).run Try.prog w = .ok () w' ∧ w'.ownsMap Try.prog 24 (plainElem Try.prog 3) b (n + 1) (D.put (keyL tC) (.lit (.int .i64 1))) ∧ w.grownBy w' (some b) := put_run tC 1 okC (by decide) h hn
theorem put_I {w : World} {b n : Nat} {D : DataW Unit} (h : w.ownsMap Try.prog 24 (plainElem Try.prog 3) b n D) (hn : n < 3) :
    ∃ w', (Instr.mapUpdate 67 (.map (some b)) (.agg #[.int .i64 2, .int .i64 0, .string ⟨#[]⟩]) (.int .i64 4)).run Try.prog w = .ok () w' ∧ w'.ownsMap Try.prog 24 (plainElem Try.prog 3) b (n + 1) (D.put (keyL tI) (.lit (.int .i64 4))) ∧ w.grownBy w' (some b) := put_run tI 4 okI (by decide) h hn
theorem put_L {w : World} {b n : Nat} {D : DataW Unit} (h : w.ownsMap Try.prog 24 (plainElem Try.prog 3) b n D) (hn : n < 3) :
    ∃ w', (Instr.mapUpdate 67 (.map (some b)) (.agg #[.int .i64 3, .int .i64 0, .string ⟨#[]⟩]) (.int .i64 8)).run Try.prog w = .ok () w' ∧ w'.ownsMap Try.prog 24 (plainElem Try.prog 3) b (n + 1) (D.put (keyL tL) (.lit (.int .i64 8))) ∧ w.grownBy w' (some b) := put_run tL 8 okL (by decide) h hn
theorem tCI : tC ≠ tI := by decide
theorem tCL : tC ≠ tL := by decide
theorem tIL : tI ≠ tL := by decide
theorem num_of {w : World} {b : Nat} {D : DataW Unit} (h : w.ownsMap Try.prog 24 (plainElem Try.prog 3) b 3 D) (hC : D.atKey (keyL tC) (.lit (.int .i64 0)) = .lit (.int .i64 1)) (hI : D.atKey (keyL tI) (.lit (.int .i64 0)) = .lit (.int .i64 4)) (hL : D.atKey (keyL tL) (.lit (.int .i64 0)) = .lit (.int .i64 8))
    (hn : ∀ k, k ≠ keyL tC → k ≠ keyL tI → k ≠ keyL tL → D.atKey k (.lit (.int .i64 0)) = .lit (.int .i64 0)) : NumsAt w b := ⟨D, h, fun t ht => by
  unfold mapV
  by_cases h1 : t = tC
  · subst h1; rw [if_pos rfl]; exact hC
  by_cases h2 : t = tI
  · subst h2; rw [if_neg h1, if_pos rfl]; exact hI
  by_cases h3 : t = tL
  · subst h3; rw [if_neg h1, if_neg h2, if_pos rfl]; exact hL
  · rw [if_neg h1, if_neg h2, if_neg h3]
    exact hn _ (key_ne ht okC h1) (key_ne ht okI h2) (key_ne ht okL h3)⟩
theorem isKey (t : Ty) (h : tyOk t) : WideAt.IsKeyLit (keyL t) := trivial
theorem put3 {a b c : Lit} {x y z d : DataW Unit} (hab : a ≠ b) (hac : a ≠ c) (hbc : b ≠ c) (ka : WideAt.IsKeyLit a) (kb : WideAt.IsKeyLit b) (kc : WideAt.IsKeyLit c) :
    ((((DataW.map []).put a x).put b y).put c z).atKey a d = x ∧ ((((DataW.map []).put a x).put b y).put c z).atKey b d = y ∧ ((((DataW.map []).put a x).put b y).put c z).atKey c d = z ∧ ∀ k, k ≠ a → k ≠ b → k ≠ c → ((((DataW.map []).put a x).put b y).put c z).atKey k d = d := by
  have m0 : IsMap (DataW.map [] : DataW Unit) := isMap_empty
  refine ⟨?_, ?_, ?_, fun k h1 h2 h3 => ?_⟩
  · rw [atKey_put_other hac, atKey_put_other hab, atKey_put_same m0 ka]
  · rw [atKey_put_other hbc, atKey_put_same (m0.put _ _) kb]
  · rw [atKey_put_same ((m0.put _ _).put _ _) kc]
  · rw [atKey_put_other h3, atKey_put_other h2, atKey_put_other h1]
    rfl
set_option maxHeartbeats 2000000 in
theorem numbers_any (w : World) : Calls Try.prog 21 #[] w fun e w' => e = .returned (.map (some w.heap.size)) ∧ NumsAt w' w.heap.size ∧ Below w.heap.size w w' := by
  have hmm := run_makeMap3
  have h0 : ((w.alloc (.map #[] 0)).drew).ownsMap Try.prog 24 (plainElem Try.prog 3 (H := Unit)) w.heap.size 0 (.map []) := (World.ownsMap_made w _ _ _).drew
  obtain ⟨wC, rC, oC, gC⟩ := put_C h0 (by decide)
  obtain ⟨wI, rI, oI, gI⟩ := put_I h0 (by decide)
  obtain ⟨wL, rL, oL, gL⟩ := put_L h0 (by decide)
  obtain ⟨wCI, rCI, oCI, gCI⟩ := put_I oC (by decide)
  obtain ⟨wCL, rCL, oCL, gCL⟩ := put_L oC (by decide)
  obtain ⟨wIC, rIC, oIC, gIC⟩ := put_C oI (by decide)
  obtain ⟨wIL, rIL, oIL, gIL⟩ := put_L oI (by decide)
  obtain ⟨wLC, rLC, oLC, gLC⟩ := put_C oL (by decide)
  obtain ⟨wLI, rLI, oLI, gLI⟩ := put_I oL (by decide)
  obtain ⟨wCIL, rCIL, oCIL, gCIL⟩ := put_L oCI (by decide)
  obtain ⟨wCLI, rCLI, oCLI, gCLI⟩ := put_I oCL (by decide)
  obtain ⟨wICL, rICL, oICL, gICL⟩ := put_L oIC (by decide)
  obtain ⟨wILC, rILC, oILC, gILC⟩ := put_C oIL (by decide)
  obtain ⟨wLCI, rLCI, oLCI, gLCI⟩ := put_I oLC (by decide)
  obtain ⟨wLIC, rLIC, oLIC, gLIC⟩ := put_C oLI (by decide)
  have b0 : Below w.heap.size w ((w.alloc (.map #[] 0)).drew) := ((Below.refl _ _).alloc (Nat.le_refl _) _).drew
  have nCI := key_ne okC okI tCI
  have nCL := key_ne okC okL tCL
  have nIL := key_ne okI okL tIL
  obtain ⟨eCILC, eCILI, eCILL, eCILn⟩ := put3 (x := .lit (.int .i64 1)) (y := .lit (.int .i64 4)) (z := .lit (.int .i64 8)) (d := .lit (.int .i64 0)) nCI nCL nIL (isKey tC okC) (isKey tI okI) (isKey tL okL)
  have NCIL : NumsAt wCIL w.heap.size := num_of oCIL eCILC eCILI eCILL (fun k h1 h2 h3 => eCILn k h1 h2 h3)
  have xCIL : Below w.heap.size w wCIL := ((b0.grown gC b0.size (fun j hj => by cases hj; exact Nat.le_refl _)).grown gCI (Nat.le_trans b0.size gC.size) (fun j hj => by cases hj; exact Nat.le_refl _)).grown gCIL (Nat.le_trans (Nat.le_trans b0.size gC.size) gCI.size) (fun j hj => by cases hj; exact Nat.le_refl _)
  obtain ⟨eCLIC, eCLIL, eCLII, eCLIn⟩ := put3 (x := .lit (.int .i64 1)) (y := .lit (.int .i64 8)) (z := .lit (.int .i64 4)) (d := .lit (.int .i64 0)) nCL nCI nIL.symm (isKey tC okC) (isKey tL okL) (isKey tI okI)
  have NCLI : NumsAt wCLI w.heap.size := num_of oCLI eCLIC eCLII eCLIL (fun k h1 h2 h3 => eCLIn k h1 h3 h2)
  have xCLI : Below w.heap.size w wCLI := ((b0.grown gC b0.size (fun j hj => by cases hj; exact Nat.le_refl _)).grown gCL (Nat.le_trans b0.size gC.size) (fun j hj => by cases hj; exact Nat.le_refl _)).grown gCLI (Nat.le_trans (Nat.le_trans b0.size gC.size) gCL.size) (fun j hj => by cases hj; exact Nat.le_refl _)
  obtain ⟨eICLI, eICLC, eICLL, eICLn⟩ := put3 (x := .lit (.int .i64 4)) (y := .lit (.int .i64 1)) (z := .lit (.int .i64 8)) (d := .lit (.int .i64 0)) nCI.symm nIL nCL (isKey tI okI) (isKey tC okC) (isKey tL okL)
  have NICL : NumsAt wICL w.heap.size := num_of oICL eICLC eICLI eICLL (fun k h1 h2 h3 => eICLn k h2 h1 h3)
  have xICL : Below w.heap.size w wICL := ((b0.grown gI b0.size (fun j hj => by cases hj; exact Nat.le_refl _)).grown gIC (Nat.le_trans b0.size gI.size) (fun j hj => by cases hj; exact Nat.le_refl _)).grown gICL (Nat.le_trans (Nat.le_trans b0.size gI.size) gIC.size) (fun j hj => by cases hj; exact Nat.le_refl _)
  obtain ⟨eILCI, eILCL, eILCC, eILCn⟩ := put3 (x := .lit (.int .i64 4)) (y := .lit (.int .i64 8)) (z := .lit (.int .i64 1)) (d := .lit (.int .i64 0)) nIL nCI.symm nCL.symm (isKey tI okI) (isKey tL okL) (isKey tC okC)
  have NILC : NumsAt wILC w.heap.size := num_of oILC eILCC eILCI eILCL (fun k h1 h2 h3 => eILCn k h2 h3 h1)
  have xILC : Below w.heap.size w wILC := ((b0.grown gI b0.size (fun j hj => by cases hj; exact Nat.le_refl _)).grown gIL (Nat.le_trans b0.size gI.size) (fun j hj => by cases hj; exact Nat.le_refl _)).grown gILC (Nat.le_trans (Nat.le_trans b0.size gI.size) gIL.size) (fun j hj => by cases hj; exact Nat.le_refl _)
  obtain ⟨eLCIL, eLCIC, eLCII, eLCIn⟩ := put3 (x := .lit (.int .i64 8)) (y := .lit (.int .i64 1)) (z := .lit (.int .i64 4)) (d := .lit (.int .i64 0)) nCL.symm nIL.symm nCI (isKey tL okL) (isKey tC okC) (isKey tI okI)
  have NLCI : NumsAt wLCI w.heap.size := num_of oLCI eLCIC eLCII eLCIL (fun k h1 h2 h3 => eLCIn k h3 h1 h2)
  have xLCI : Below w.heap.size w wLCI := ((b0.grown gL b0.size (fun j hj => by cases hj; exact Nat.le_refl _)).grown gLC (Nat.le_trans b0.size gL.size) (fun j hj => by cases hj; exact Nat.le_refl _)).grown gLCI (Nat.le_trans (Nat.le_trans b0.size gL.size) gLC.size) (fun j hj => by cases hj; exact Nat.le_refl _)
  obtain ⟨eLICL, eLICI, eLICC, eLICn⟩ := put3 (x := .lit (.int .i64 8)) (y := .lit (.int .i64 4)) (z := .lit (.int .i64 1)) (d := .lit (.int .i64 0)) nIL.symm nCL.symm nCI.symm (isKey tL okL) (isKey tI okI) (isKey tC okC)
  have NLIC : NumsAt wLIC w.heap.size := num_of oLIC eLICC eLICI eLICL (fun k h1 h2 h3 => eLICn k h3 h2 h1)
  have xLIC : Below w.heap.size w wLIC := ((b0.grown gL b0.size (fun j hj => by cases hj; exact Nat.le_refl _)).grown gLI (Nat.le_trans b0.size gL.size) (fun j hj => by cases hj; exact Nat.le_refl _)).grown gLIC (Nat.le_trans (Nat.le_trans b0.size gL.size) gLI.size) (fun j hj => by cases hj; exact Nat.le_refl _)
  have HN : Hid ((NumsAt wCIL w.heap.size ∧ Below w.heap.size w wCIL) ∧ (NumsAt wCLI w.heap.size ∧ Below w.heap.size w wCLI) ∧ (NumsAt wICL w.heap.size ∧ Below w.heap.size w wICL) ∧ (NumsAt wILC w.heap.size ∧ Below w.heap.size w wILC) ∧ (NumsAt wLCI w.heap.size ∧ Below w.heap.size w wLCI) ∧ (NumsAt wLIC w.heap.size ∧ Below w.heap.size w wLIC)) := Lib.hid ⟨⟨NCIL, xCIL⟩, ⟨NCLI, xCLI⟩, ⟨NICL, xICL⟩, ⟨NILC, xILC⟩, ⟨NLCI, xLCI⟩, ⟨NLIC, xLIC⟩⟩
  clear NCIL xCIL eCILC eCILI eCILL eCILn NCLI xCLI eCLIC eCLII eCLIL eCLIn NICL xICL eICLC eICLI eICLL eICLn NILC xILC eILCC eILCI eILCL eILCn NLCI xLCI eLCIC eLCII eLCIL eLCIn NLIC xLIC eLICC eLICI eLICL eLICn oC gC oI gI oL gL oCI gCI oCL gCL oIC gIC oIL gIL oLC gLC oLI gLI oCIL gCIL oCLI gCLI oICL gICL oILC gILC oLCI gLCI oLIC gLIC h0 b0
  go_enter Try.func21, Try.ntmps21
  go_wp2_with fail
  go_region_held3 (fun _ => True) (trivial) (fail)
  all_goals
    go_wp2
    go_ret
    obtain ⟨y1, y2, y3, y4, y5, y6⟩ := HN.out
    first | exact ⟨rfl, y1⟩ | exact ⟨rfl, y2⟩ | exact ⟨rfl, y3⟩ | exact ⟨rfl, y4⟩ | exact ⟨rfl, y5⟩ | exact ⟨rfl, y6⟩
end Go.Proofs.Ytalelgnooemooaa
