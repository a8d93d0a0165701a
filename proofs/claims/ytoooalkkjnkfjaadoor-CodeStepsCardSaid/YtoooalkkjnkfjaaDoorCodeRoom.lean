/- Room of package code, any Op of the tables: the least and the greatest Imm. At most new blocks in memory. Conditions: the table of forms as the program lays it. -/
import Derived.Test.YtoooalkkjnkfjaaDoorCodeDec
namespace Go.Proofs.YtoooalkkjnkfjaaDoor
open Go.RowKit Go.Maps
set_option linter.unusedVariables false
set_option linter.unusedSimpArgs false
open Pc

theorem formRoom (k : Nat) (hk : k < 8) : ∃ (b1 b2 b3 : Bool) (fx st a0 w0 c0 a1 w1 c1 a2 w2 c2 a3 w3 c3 : Int), fmL k = frmL b1 b2 b3 fx (loI (k : Int)) (hiI (k : Int)) st a0 w0 c0 a1 w1 c1 a2 w2 c2 a3 w3 c3 := by
  match k, hk with
  | 0, _ => exact ⟨_, _, _, _, _, _, _, _, _, _, _, _, _, _, _, _, _, rfl⟩
  | 1, _ => exact ⟨_, _, _, _, _, _, _, _, _, _, _, _, _, _, _, _, _, rfl⟩
  | 2, _ => exact ⟨_, _, _, _, _, _, _, _, _, _, _, _, _, _, _, _, _, rfl⟩
  | 3, _ => exact ⟨_, _, _, _, _, _, _, _, _, _, _, _, _, _, _, _, _, rfl⟩
  | 4, _ => exact ⟨_, _, _, _, _, _, _, _, _, _, _, _, _, _, _, _, _, rfl⟩
  | 5, _ => exact ⟨_, _, _, _, _, _, _, _, _, _, _, _, _, _, _, _, _, rfl⟩
  | 6, _ => exact ⟨_, _, _, _, _, _, _, _, _, _, _, _, _, _, _, _, _, rfl⟩
  | 7, _ => exact ⟨_, _, _, _, _, _, _, _, _, _, _, _, _, _, _, _, _, rfl⟩

set_option maxHeartbeats 2000000 in
theorem room_in (op o f g : Int) (k : Nat) (w : World) (h1 : 1 ≤ op) (h2 : op ≤ 55) (hk : k < 8) (hrow : Hid (rowOf op = ((k : Int), o, f, g))) (hF : FormsIn w) :
    Calls Tryd.prog 13 #[.int .i64 op] w fun e w' => e = .returned (.tuple #[.int .i64 (loI (k : Int)), .int .i64 (hiI (k : Int))]) ∧ Below w.heap.size w w' := by
  obtain ⟨b1, b2, b3, fx, st, a0, w0, c0, a1, w1', c1, a2, w2, c2, a3, w3, c3, hfm⟩ := formRoom k hk
  generalize loI (k : Int) = lo at *
  generalize hiI (k : Int) = hi at *
  go_enter Tryd.func13, Tryd.ntmps13
  go_wp2_with fail
  refine (shapes_any _).mono ?_
  rintro e w1 ⟨rfl, hown, hb⟩
  have hl := look_row op k o f g _ _ w1 h1 h2 hrow hown
  have hF3 := fun O : Obj => (hF.keep (hb.alloc hb.size O) (Nat.le_refl _)).at k hk
  simp only [hfm, Nat.mul_comm] at hF3
  have Hfm := Lib.hid hfm
  clear hfm
  go_wp2_with (first | (refine wpList_store_newd (o := ⟨none, _, _, _, _, _⟩) rfl 56 (.tmp 6) (.tmp 18) rfl (frmL b1 b2 b3 fx lo hi st a0 w0 c0 a1 w1' c1 a2 w2 c2 a3 w3 c3).toArray _ 56 (w1.heap.size + 1) (szA w1 _).symm rfl rfl sizeForm' rfl (frm_one b1 b2 b3 fx lo hi st a0 w0 c0 a1 w1' c1 a2 w2 c2 a3 w3 c3) ?_) | (refine wpList_load_mid (op := ⟨some 18, _, _, _, _, _⟩) rfl 56 (.tmp 17) rfl 0 (k * 19) rfl (frmL b1 b2 b3 fx lo hi st a0 w0 c0 a1 w1' c1 a2 w2 c2 a3 w3 c3) _ (hF3 _) Tryd.underlying56 rfl sizeForm' ?_))
  go_quiet (fail)
  go_wp2
  go_ret2
  exact ⟨rfl, belowN ((hb.alloc hb.size _).alloc (by simp; have := hb.size; omega) _)⟩
end Go.Proofs.YtoooalkkjnkfjaaDoor
