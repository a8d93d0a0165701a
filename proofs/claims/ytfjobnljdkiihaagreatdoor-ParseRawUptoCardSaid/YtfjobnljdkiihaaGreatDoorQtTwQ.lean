/- The library's tables as the rows list them: a world that holds them; what the contracts ask, out of what is listed. Conditions: each theorem's. -/
import Derived.Test.YtfjobnljdkiihaaGreatDoorQtTwG
import Derived.Test.YtfjobnljdkiihaaGreatDoorRows
import Derived.PinnedBridge
import Derived.Deep.DeepHandedRow
import Derived.Deep.DeepWitnessRowRef
import Derived.Lib.LaidIn
import Derived.Lib.LaidSlice
import Derived.Lib.LaidU8
import Derived.Lib.LaidPrint
import Derived.Lib.AppendIntMem
namespace Go.Proofs.YtfjobnljdkiihaaGreatDoor
open Go.RowKit Go.Lib Go.Shelf Go.Proofs
set_option linter.unusedVariables false
set_option linter.unusedSimpArgs false
set_option maxRecDepth 1000000
def dat1 : DataW Unit → List Value
 | .lit (.int k n) => [.int k n]
 | _ => []
def dat2 : DataW Unit → List Value
 | .agg l => l.flatMap dat1
 | d => dat1 d
def dat3 : DataW Unit → Array Value
 | .agg l => (l.flatMap dat2).toArray
 | d => (dat1 d).toArray
noncomputable def laidW (os : Os) : World :=
 let N := (World.settled Tryz.prog os).heap.size
 let w0 := World.holding Tryz.prog os ⟨#[.cells (intCellsOf .u16 Pinned.isGraphicZ) 189, .cells (intCellsOf .u16 goPrintTabs.n16) 189, .cells (intCellsOf .u16 goPrintTabs.n32) 189, .cells (intCellsOf .u16 goPrintTabs.p16) 189, .cells (intCellsOf .u32 goPrintTabs.p32) 176], #[], []⟩
 let put (h : Array Obj) (g : Nat) (cs : Array Value) : Array Obj := h.modify g fun
  | .cells _ t frozen => .cells cs t frozen
  | o => o
 let h1 := put w0.heap 9 (dat3 Rows.laid_math_bits_deBruijn32tab)
 let h2 := put h1 10 (dat3 Rows.laid_math_bits_deBruijn64tab)
 let h3 := put h2 1 (dat3 Rows.laid_internal_strconv_uint64pow10)
 let h4 := put h3 3 (dat3 Rows.laid_unicode_utf8_acceptRanges)
 let h5 := put h4 8 #[.slice (some ⟨N + 0, 0, none⟩) Pinned.isGraphicZ.length Pinned.isGraphicZ.length]
 let h6 := put h5 5 #[.slice (some ⟨N + 1, 0, none⟩) goPrintTabs.n16.length goPrintTabs.n16.length]
 let h7 := put h6 7 #[.slice (some ⟨N + 2, 0, none⟩) goPrintTabs.n32.length goPrintTabs.n32.length]
 let h8 := put h7 4 #[.slice (some ⟨N + 3, 0, none⟩) goPrintTabs.p16.length goPrintTabs.p16.length]
 let h9 := put h8 6 #[.slice (some ⟨N + 4, 0, none⟩) goPrintTabs.p32.length goPrintTabs.p32.length]
 let h10 := put h9 2 (Lib.firstTab.map fun z => Value.int .u8 z).toArray
 { w0 with heap := h10 }
noncomputable abbrev N0 : Nat := (World.settled Tryz.prog default).heap.size
theorem piece0 (os : Os) (args : Array Value) : LaidIn Tryz.prog ((laidW os).forCall (fun _ _ => 0) ⟨#[], args, []⟩).memory [("math/bits.deBruijn32tab", Rows.laid_math_bits_deBruijn32tab), ("math/bits.deBruijn64tab", Rows.laid_math_bits_deBruijn64tab), ("internal/strconv.uint64pow10", Rows.laid_internal_strconv_uint64pow10), ("unicode/utf8.acceptRanges", Rows.laid_unicode_utf8_acceptRanges)] [9, 10, 1, 3] :=
 LaidIn.of_run [9, 10, 1, 3] 8 (by kernel_rfl) (by kernel_rfl) (by kernel_rfl) (by kernel_rfl)
theorem piece_strconv_isGraphic (os : Os) (args : Array Value) : LaidIn Tryz.prog ((laidW os).forCall (fun _ _ => 0) ⟨#[], args, []⟩).memory [("strconv.isGraphic", Lib.sliceData .u16 Pinned.isGraphicZ)] [8, N0 + 0] :=
 laidIn_slice (t := 190) (e := 189) (te := 189) Pinned.isGraphicZ (N0 + 0) (by kernel_rfl) (by kernel_rfl) (by kernel_rfl) (by kernel_rfl) (by kernel_rfl) (by kernel_rfl) (by kernel_rfl) (by kernel_rfl) (of_decide_eq_true (by kernel_rfl)) (of_decide_eq_true (by kernel_rfl))
theorem piece_strconv_isNotPrint16 (os : Os) (args : Array Value) : LaidIn Tryz.prog ((laidW os).forCall (fun _ _ => 0) ⟨#[], args, []⟩).memory [("strconv.isNotPrint16", Lib.sliceData .u16 goPrintTabs.n16)] [5, N0 + 1] :=
 laidIn_slice (t := 190) (e := 189) (te := 189) goPrintTabs.n16 (N0 + 1) (by kernel_rfl) (by kernel_rfl) (by kernel_rfl) (by kernel_rfl) (by kernel_rfl) (by kernel_rfl) (by kernel_rfl) (by kernel_rfl) (of_decide_eq_true (by kernel_rfl)) (of_decide_eq_true (by kernel_rfl))
theorem piece_strconv_isNotPrint32 (os : Os) (args : Array Value) : LaidIn Tryz.prog ((laidW os).forCall (fun _ _ => 0) ⟨#[], args, []⟩).memory [("strconv.isNotPrint32", Lib.sliceData .u16 goPrintTabs.n32)] [7, N0 + 2] :=
 laidIn_slice (t := 190) (e := 189) (te := 189) goPrintTabs.n32 (N0 + 2) (by kernel_rfl) (by kernel_rfl) (by kernel_rfl) (by kernel_rfl) (by kernel_rfl) (by kernel_rfl) (by kernel_rfl) (by kernel_rfl) (of_decide_eq_true (by kernel_rfl)) (of_decide_eq_true (by kernel_rfl))
theorem piece_strconv_isPrint16 (os : Os) (args : Array Value) : LaidIn Tryz.prog ((laidW os).forCall (fun _ _ => 0) ⟨#[], args, []⟩).memory [("strconv.isPrint16", Lib.sliceData .u16 goPrintTabs.p16)] [4, N0 + 3] :=
 laidIn_slice (t := 190) (e := 189) (te := 189) goPrintTabs.p16 (N0 + 3) (by kernel_rfl) (by kernel_rfl) (by kernel_rfl) (by kernel_rfl) (by kernel_rfl) (by kernel_rfl) (by kernel_rfl) (by kernel_rfl) (of_decide_eq_true (by kernel_rfl)) (of_decide_eq_true (by kernel_rfl))
theorem piece_strconv_isPrint32 (os : Os) (args : Array Value) : LaidIn Tryz.prog ((laidW os).forCall (fun _ _ => 0) ⟨#[], args, []⟩).memory [("strconv.isPrint32", Lib.sliceData .u32 goPrintTabs.p32)] [6, N0 + 4] :=
 laidIn_slice (t := 192) (e := 176) (te := 176) goPrintTabs.p32 (N0 + 4) (by kernel_rfl) (by kernel_rfl) (by kernel_rfl) (by kernel_rfl) (by kernel_rfl) (by kernel_rfl) (by kernel_rfl) (by kernel_rfl) (of_decide_eq_true (by kernel_rfl)) (of_decide_eq_true (by kernel_rfl))
theorem piece_f (os : Os) (args : Array Value) : LaidIn Tryz.prog ((laidW os).forCall (fun _ _ => 0) ⟨#[], args, []⟩).memory [("unicode/utf8.first", Lib.firstData)] [2] :=
 LaidIn.of_run [2] 8 (by kernel_rfl) (by kernel_rfl) (by kernel_rfl) (by kernel_rfl)
def laidL : List (String × DataW Unit) := [("math/bits.deBruijn32tab", Rows.laid_math_bits_deBruijn32tab), ("math/bits.deBruijn64tab", Rows.laid_math_bits_deBruijn64tab), ("internal/strconv.uint64pow10", Rows.laid_internal_strconv_uint64pow10), ("unicode/utf8.acceptRanges", Rows.laid_unicode_utf8_acceptRanges), ("strconv.isGraphic", Lib.sliceData .u16 Pinned.isGraphicZ), ("strconv.isNotPrint16", Lib.sliceData .u16 goPrintTabs.n16), ("strconv.isNotPrint32", Lib.sliceData .u16 goPrintTabs.n32), ("strconv.isPrint16", Lib.sliceData .u16 goPrintTabs.p16), ("strconv.isPrint32", Lib.sliceData .u32 goPrintTabs.p32), ("unicode/utf8.first", Lib.firstData)]
theorem isGraphic_eq : Pinned.isGraphic = Lib.sliceData .u16 Pinned.isGraphicZ := by kernel_rfl
theorem laid_parseTrees : Rows.parseTreesRow.laid = laidL := by
 simp only [Rows.parseTreesRow, laidL, Rows.laid_strconv_isGraphic, Rows.laid_strconv_isNotPrint16, Rows.laid_strconv_isNotPrint32, Rows.laid_strconv_isPrint16, Rows.laid_strconv_isPrint32, Rows.laid_unicode_utf8_first, isGraphic_eq, Pinned.isNotPrint16_eq, Pinned.isNotPrint32_eq, Pinned.isPrint16_eq, Pinned.isPrint32_eq, Pinned.utf8First_eq]
theorem laid_met (os : Os) (args : Array Value) : laidMet Tryz.prog laidL ((laidW os).forCall (fun _ _ => 0) ⟨#[], args, []⟩).memory :=
 (((((((piece0 os args).append (piece_strconv_isGraphic os args) (by kernel_rfl)).append (piece_strconv_isNotPrint16 os args) (by kernel_rfl)).append (piece_strconv_isNotPrint32 os args) (by kernel_rfl)).append (piece_strconv_isPrint16 os args) (by kernel_rfl)).append (piece_strconv_isPrint32 os args) (by kernel_rfl)).append (piece_f os args) (by kernel_rfl)).met
theorem pow10_reads {w : World} (h : VarReads Tryz.prog w "internal/strconv.uint64pow10" Rows.laid_internal_strconv_uint64pow10) : Pow10 w := by
 obtain ⟨g, t, cs, fuel, p, hg, hty, hvar, hd⟩ := h
 obtain rfl := Option.some.inj ((show Tryz.prog.globalNamed "internal/strconv.uint64pow10" = some 1 by kernel_rfl).symm.trans hg)
 obtain rfl := Option.some.inj ((show (Tryz.prog.globals[1]?).map (·.type) = some 181 by kernel_rfl).symm.trans hty)
 unfold Pow10 Lib.TabIs
 rw [hvar]
 have hd' : DataW.trod (fun _ => ()) Tryz.prog w 0 (fun _ => true) false fuel 181 cs.toList = some (tabData .u64 Lib.pow10Tab, p) := hd.trans (by rw [show (Rows.laid_internal_strconv_uint64pow10 : DataW Unit) = tabData .u64 Lib.pow10Tab by kernel_rfl])
 have := cells_of_tab (e := 34) (n := 20) (by kernel_rfl) (by kernel_rfl) (by kernel_rfl) (by kernel_rfl) hd'
 rw [← this]
theorem tb_of {w : World} (h : laidMet Tryz.prog laidL w) : Tb goPrintTabs w.heap.size w := fun w' hb =>
 ⟨tabBelow_of_tabIs (pow10_reads (laidMet.reads h (.tail _ (.tail _ (.head _))))) w' hb,
  printTabs_below (printTabs_of_reads (ρ := Tryz.lays177_ren) { Tryz.lays177 with } ⟨by kernel_rfl, by kernel_rfl, by kernel_rfl, by kernel_rfl, by kernel_rfl, by kernel_rfl, by kernel_rfl, by kernel_rfl, by kernel_rfl, by kernel_rfl⟩
   (laidMet.reads h (.tail _ (.tail _ (.tail _ (.tail _ (.tail _ (.tail _ (.tail _ (.head _))))))))) (laidMet.reads h (.tail _ (.tail _ (.tail _ (.tail _ (.tail _ (.head _)))))))
   (laidMet.reads h (.tail _ (.tail _ (.tail _ (.tail _ (.tail _ (.tail _ (.tail _ (.tail _ (.head _)))))))))) (laidMet.reads h (.tail _ (.tail _ (.tail _ (.tail _ (.tail _ (.tail _ (.head _))))))))) hb,
  Utf8Tabs_below (utf8Tabs_of_reads (ρ := Tryz.lays177_ren) { Tryz.lays177 with } ⟨by kernel_rfl, by kernel_rfl, by kernel_rfl, by kernel_rfl, by kernel_rfl, by kernel_rfl, by kernel_rfl⟩
   (laidMet.reads h (.tail _ (.tail _ (.tail _ (.tail _ (.tail _ (.tail _ (.tail _ (.tail _ (.tail _ (.head _))))))))))) (laidMet.reads h (.tail _ (.tail _ (.tail _ (.head _)))))) hb⟩
end Go.Proofs.YtfjobnljdkiihaaGreatDoor
