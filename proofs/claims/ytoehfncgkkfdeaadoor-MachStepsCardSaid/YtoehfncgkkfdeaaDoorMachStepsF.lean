/- MachSteps answers true of any arguments, and each argument reads afterwards as it did. No condition but that the arguments are of their Go types; the tables are tied to the program's text. -/
import Derived.Test.YtoehfncgkkfdeaaDoorMrgS
import Derived.Test.YtoehfncgkkfdeaaDoorMrgM
import Derived.Test.YtoehfncgkkfdeaaDoorMrgT
import Derived.Test.YtoehfncgkkfdeaaDoorTie
import Derived.Test.YtoehfncgkkfdeaaDoorCards
import Derived.SevenTiedAt
import Derived.Laws.IdiomArrays
namespace Go.Proofs.YtoehfncgkkfdeaaDoor
open Go.RowKit Go.Maps
set_option linter.unusedVariables false
set_option linter.unusedSimpArgs false
set_option maxRecDepth 10000
open Pm Pc Pl
set_option maxRecDepth 100000 in
set_option maxHeartbeats 4000000 in
theorem machSteps_out (op rd r1 r2 n : Int) (ys ms : List Int) (A1 A2 : Option Addr) (c1 c2 : Nat) (w : World) (hF : FormsIn w) (hO : OpsIn w) (hout : i5S (op, rd, r1, r2, n) ≠ 0 ∨ 40 < ys.length ∨ 300 < ms.length) :
    Calls Tryd.prog 4 #[.agg #[.int .i64 op, .int .i64 rd, .int .i64 r1, .int .i64 r2, .int .i64 n], .slice A1 ys.length c1, .slice A2 ms.length c2] w fun e w' => e = .returned (.bool true) ∧ Below w.heap.size w w' := by
  have h2 := hO.two hF
  have hI := insAt_new (w.alloc (Obj.cells #[.int .i64 op, .int .i64 rd, .int .i64 r1, .int .i64 r2, .int .i64 n] 49)) [(op, rd, r1, r2, n)] #[.int .i64 op, .int .i64 rd, .int .i64 r1, .int .i64 r2, .int .i64 n] rfl 49
  rw [szA] at hI
  have hB0 := bw_alloc (bw_alloc (Below.refl w.heap.size w) (Obj.cells #[.int .i64 op, .int .i64 rd, .int .i64 r1, .int .i64 r2, .int .i64 n] 49)) (Obj.cells #[.int .i64 op, .int .i64 rd, .int .i64 r1, .int .i64 r2, .int .i64 n] 49)
  have hbytes := bytes_any (c := 1) (l := [(op, rd, r1, r2, n)]) (by simp) hI
  have hcs : (((bytesOf [(op, rd, r1, r2, n)]).length : Int) == 0) = true ∨ ((((bytesOf [(op, rd, r1, r2, n)]).length : Int) == 0) = false ∧ decide (40 < (ys.length : Int)) = true) ∨ ((((bytesOf [(op, rd, r1, r2, n)]).length : Int) == 0) = false ∧ decide (40 < (ys.length : Int)) = false ∧ decide (300 < (ms.length : Int)) = true) := by
    cases hb : (((bytesOf [(op, rd, r1, r2, n)]).length : Int) == 0)
    · right
      have he : i5S (op, rd, r1, r2, n) = 0 := by
        by_cases h : i5S (op, rd, r1, r2, n) = 0
        · exact h
        · simp [bytesOf, bytesI, h] at hb
      rcases hout with h | h | h
      · exact absurd he h
      · exact .inl ⟨rfl, decide_eq_true (by omega)⟩
      · by_cases h40 : 40 < ys.length
        · exact .inl ⟨rfl, decide_eq_true (by omega)⟩
        · exact .inr ⟨rfl, decide_eq_false (by omega), decide_eq_true (by omega)⟩
    · exact .inl rfl
  have hbr := bytesOf_range [(op, rd, r1, r2, n)]
  have HBY := Lib.hid hbytes; have HB0 := Lib.hid hB0
  clear hI hbytes hB0 hout
  generalize bytesOf [(op, rd, r1, r2, n)] = bs at *
  go_enter Tryd.func4, Tryd.ntmps4
  go_wp2_with (first
    | ((with_reducible refine ld5 w.heap.size #[.int .i64 op, .int .i64 rd, .int .i64 r1, .int .i64 r2, .int .i64 n] ?_ ?_ ?_ ?_); rfl; exact heap_alloc_new w _; rfl)
    | fail)
  refine HBY.out.mono ?_
  rintro e w1 ⟨v, rfl, hown, hb1⟩
  obtain ⟨bA, bc, rfl, hbs, -⟩ := src_own hown hbr
  have hB1 : Below w.heap.size w w1 := HB0.out.trans (hb1.mono HB0.out.size)
  clear hown hbs hbr
  rcases hcs with d0 | ⟨d0, d1⟩ | ⟨d0, d1, d2⟩
  all_goals
    go_wp2_with fail
    refine (awake3 _ (hF.keep hB1 (Nat.le_refl _)) (hO.below hB1)).mono ?_
    rintro e w2 ⟨rfl, b2⟩
    have hB2 := hB1.trans (b2.mono hB1.size)
    go_wp2_with fail
    refine (awake3 _ (hF.keep hB2 (Nat.le_refl _)) (hO.below hB2)).mono ?_
    rintro e w3 ⟨rfl, b3⟩
    go_wp2_with fail
    go_ret
    exact ⟨rfl, hB2.trans (b3.mono hB2.size)⟩
/-- MachSteps, of all that may come in. -/
theorem machSteps_walk (op rd r1 r2 n : Int) (ys ms : List Int) (A1 A2 : Option Addr) (c1 c2 : Nat) (w : World) (hy : U64s w A1 ys) (hs : SrcIs w A2 ms) (hnil : A2 = none → c2 = 0) (hF : FormsIn w) (hO : OpsIn w) :
    Calls Tryd.prog 4 #[.agg #[.int .i64 op, .int .i64 rd, .int .i64 r1, .int .i64 r2, .int .i64 n], .slice A1 ys.length c1, .slice A2 ms.length c2] w fun e w' => e = .returned (.bool true) ∧ Below w.heap.size w w' := by
  by_cases h : i5S (op, rd, r1, r2, n) = 0 ∧ ys.length ≤ 40 ∧ ms.length ≤ 300
  · exact machSteps_in (go_all fun m q base w R A c oA sA on oc sn sc h h1 h2 h3 => rstep_any h h1 h2 h3) op rd r1 r2 n ys ms A1 A2 c1 c2 w hy hs hnil hF hO h.2.1 h.2.2 h.1
  · exact machSteps_out op rd r1 r2 n ys ms A1 A2 c1 c2 w hF hO (by
      by_cases h1 : i5S (op, rd, r1, r2, n) = 0
      · right
        by_cases h2 : ys.length ≤ 40
        · right
          by_cases h3 : ms.length ≤ 300
          · exact absurd ⟨h1, h2, h3⟩ h
          · omega
        · left; omega
      · exact .inl h1)
end Go.Proofs.YtoehfncgkkfdeaaDoor
namespace Go.Proofs.YtoehfncgkkfdeaaDoor.machSteps
open Go.ChangeShapes Go.WideShapes Go.ChangeAt Go.RowKit
set_option linter.unusedVariables false
set_option linter.unusedSimpArgs false
set_option maxRecDepth 100000
theorem own : ownKnob Tryd.prog.godebug = none := by kernel_rfl
theorem laidOut : laidOutB Tryd.prog = true := by kernel_rfl
theorem wf_of {k : IntKind} {n : Int} (h : (Lit.int k n).wf = true) : k.min ≤ n ∧ n ≤ k.max := by simpa [Lit.wf] using h
theorem u8_of {n : Int} (h : (Lit.int .u8 n).wf = true) : 0 ≤ n ∧ n < 256 := by have := wf_of h; simp [IntKind.min, IntKind.max, IntKind.signed, IntKind.bits] at this; omega
theorem u64_of {n : Int} (h : (Lit.int .u64 n).wf = true) : 0 ≤ n ∧ n < 18446744073709551616 := by have := wf_of h; simp [IntKind.min, IntKind.max, IntKind.signed, IntKind.bits] at this; omega
theorem i64_of {n : Int} (h : (Lit.int .i64 n).wf = true) : -9223372036854775808 ≤ n ∧ n < 9223372036854775808 := by have := wf_of h; simp [IntKind.min, IntKind.max, IntKind.signed, IntKind.bits] at this; omega
theorem cellsU64 : Tryd.prog.cellsOf 31 = 1 := by kernel_rfl
theorem cellsU8 : Tryd.prog.cellsOf 5 = 1 := by kernel_rfl
/-- A slice of integers that came in. -/
def NumsIn (w : World) (k : IntKind) (A : Option Addr) (xs : List Int) : Prop := 0 < xs.length → ∃ g o, A = some ⟨g, o, none⟩ ∧ g < w.heap.size ∧ ∀ j, j < xs.length → w.cell? ⟨g, o + j, none⟩ = some (.int k (xs.getD j 0))
theorem nums_in {H : Type} {enc : TypeId × Value → H} {W : World} {base : Nat} {t e : TypeId} {k : IntKind} {v : Value} {d : DataW H} {ps : List MemPlace} (ht : Tryd.prog.underlying t = some (.slice e)) (he : Tryd.prog.underlying e = some (.int k)) (hc : Tryd.prog.cellsOf e = 1)
    (hv : Value.okWide Tryd.prog W .any base t v) (h : DataW.Trod enc Tryd.prog W 0 (fun _ => true) true t v d ps) : ∃ (A : Option Addr) (c : Nat) (xs : List Int), v = .slice A xs.length c ∧ xs.length ≤ c ∧ c ≤ maxLen ∧ (∀ n ∈ xs, (Lit.int k n).wf = true) ∧ NumsIn W k A xs ∧ (A = none → c = 0) := by
  obtain ⟨a0, len, cap, rfl⟩ := okWide_slice ht hv
  obtain ⟨fuel, hf⟩ := h
  rcases open_ints ht he hc hf with ⟨hcs, hx⟩ | ⟨a, len', cap', zs, hcs, _, hl, hm, hz, hx, hcell, hwz⟩
  · simp [Value.cells] at hcs
    obtain ⟨rfl, rfl, rfl⟩ := hcs
    exact ⟨none, 0, [], rfl, Nat.le_refl _, Nat.zero_le _, fun n hn => by simp at hn, fun h0 => by simp at h0, fun _ => rfl⟩
  · simp [Value.cells] at hcs
    obtain ⟨rfl, rfl, rfl⟩ := hcs
    simp only [if_true] at hz
    have hlen : (zs.take len).length = len := by rw [List.length_take]; omega
    refine ⟨some a, cap, zs.take len, by rw [hlen], by rw [hlen]; exact hl, hm, fun n hn => hwz n (List.mem_of_mem_take hn), fun h0 => ?_, fun h => by cases h⟩
    obtain ⟨g, o, rfl, hc2⟩ := ints_at hcell (by omega)
    refine ⟨g, o, rfl, World.block_lt_of_cell? W _ (hc2 0 (by omega)), fun j hj => ?_⟩
    rw [hc2 j (by omega)]
    have hj' : j < len := by omega
    simp [List.getD_eq_getElem?_getD, List.getElem?_take, hj']

set_option maxRecDepth 100000 in
theorem lifted (os : Os) (started : os.Started) (H : Type) (enc : TypeId × Value → H) :
    ReturnsInHanded {} Tryd.checked os 4 .any (fun w args => (Rows.machStepsSpec.pre enc Tryd.prog Tryd.f4 [] false w args ∧ laidMetH Tryd.prog laidM w) ∧ sizedMet enc Tryd.prog Tryd.f4 (OpenSpec.ofChange Rows.machStepsSpec) false w args)
      (Rows.machStepsSpec.post enc Tryd.prog Tryd.f4 false true false false) := by
  refine returnsInHanded_of_change_and (C := Tryd.checked) (X := fun w _ => laidMetH Tryd.prog laidM w) (fun _ _ _ hh h => h.of_heap hh) own started (by kernel_rfl) Tryd.func4
    (ChangeSpec.witness_shaped (enc := enc) (C := Tryd.checked) (os := os) (X := fun w _ => laidMetH Tryd.prog laidM w) false (World.doorLaid Tryd.prog 46 os) #[ins 0 0 0 0 0, .slice none 0 0, .slice none 0 0] 8 rfl (World.shaped_of_RefB (by kernel_rfl) (by kernel_rfl)) (by kernel_rfl) (by kernel_rfl) (by kernel_rfl) (door_met2 os _)) ?_
  intro W base args ds gs before hval0 hW _ _ hL _
  have hval : ∀ (j : Nat) t v, Tryd.f4.params[j]? = some t → args[j]? = some v → Value.okWide Tryd.prog W .any base t v := hval0
  have hW' := hW
  obtain ⟨p, q, hA0, hV, rfl, hfz, hnd⟩ := hW
  have hA : DataW.TrodAll enc Tryd.prog W 0 (fun _ => true) true Tryd.f4.params.toList args.toList ds p := hA0
  rw [Tryd.params4] at hA hval
  obtain ⟨v0, vs0, d0, ds0, p0, q0, hargs, rfl, rfl, h0, r0⟩ := trodAll_cons hA
  obtain ⟨v1, vs1, d1, ds1, p1, q1, rfl, rfl, rfl, h1, r1⟩ := trodAll_cons r0
  obtain ⟨v2, vs2, d2, ds2, p2, q2, rfl, rfl, rfl, h2, r2⟩ := trodAll_cons r1
  obtain ⟨rfl, rfl, rfl⟩ := trodAll_nil r2
  obtain rfl : args = #[v0, v1, v2] := by cases args; simp_all
  obtain ⟨rfl, rfl⟩ := trodVars_none hV
  obtain ⟨hF, hO⟩ := both_of_laid hL
  obtain ⟨a0, a1, a2, a3, a4, rfl, rfl, rfl, aw0, aw1, aw2, aw3, aw4⟩ := open_instr (hval 0 49 v0 rfl rfl) h0
  obtain ⟨A, c, ys, rfl, hxc, hcm, hwf, hin, hnl⟩ := nums_in Tryd.underlying23 Tryd.underlying31 cellsU64 (hval 1 23 v1 rfl rfl) h1
  obtain ⟨A', c', ms, rfl, hyc, hym, hwy, hiny, hnl'⟩ := nums_in Tryd.underlying22 Tryd.underlying5 cellsU8 (hval 2 22 v2 rfl rfl) h2
  have hcalls := machSteps_walk a0 a1 a2 a3 a4 ys ms A A' c c' W ⟨fun b hb => u64_of (hwf b hb), hin⟩ ⟨fun b hb => u8_of (hwy b hb), fun h0 => by obtain ⟨g, o, e1, _, e3⟩ := hiny h0; exact ⟨g, o, e1, e3⟩⟩ hnl' hF hO
  clear hA0 hval0
  refine hcalls.mono fun e W' ⟨he, hg⟩ => ?_
  subst he
  exact ⟨_, rfl, post_reads laidOut (by rw [Tryd.params4]; intro t ht; simp at ht; rcases ht with rfl | rfl | rfl <;> exact ⟨by kernel_rfl, by decide +kernel⟩) rfl hW' (fun _ => trodAll_cons_mk (shut_bool Tryd.underlying4 _) trodAll_mk0) rfl rfl hg⟩

theorem over : Rows.machStepsRow.holds Tryd.pinned (OpenSpec.ofChange Rows.machStepsSpec) :=
  OpenClaim.holds_of_wide 4 Tryd.f4 rfl rfl rfl rfl rfl rfl rfl ⟨rfl, rfl, rfl, rfl, rfl⟩ rfl rfl rfl rfl rfl (by kernel_rfl) Tryd.func4 (by kernel_rfl)
    (of_decide_eq_true (by kernel_rfl)) (by unfold Func.isWrapper; first | (rw [if_pos (by decide +kernel)]; kernel_rfl) | (rw [if_neg (by decide +kernel)]; exact ⟨rfl, rfl⟩))
    (fun os started H enc _ => lifted os started H enc)

theorem noStand : ∀ t ∈ [49, 23, 22], Tryd.prog.wantsStandIn t = false := by
  intro t ht
  simp at ht
  rcases ht with rfl | rfl | rfl <;> kernel_rfl
theorem proved : Rows.MachStepsCardSaid :=
  Claim7.holds_tied_plain_at .later [] [.data, .data] true (true, "639eb47d645c7bc82ab082b1db412a476b915defe3aef94d135f8249ca8c131d") false
    over (fun _ h => by cases h) (by kernel_rfl) (fun _ h => by cases h) machSteps_row_tie rfl ⟨rfl, rfl⟩ (by kernel_rfl) rfl
    (fun f fn hf hfn => by
      obtain rfl : f = 4 := Option.some.inj ((show Tryd.prog.funcNamed "hauberk/hauberklaw03.MachSteps" = some 4 by kernel_rfl).symm.trans hf) |>.symm
      obtain rfl : fn = Tryd.f4 := (Option.some.inj (Tryd.func4.symm.trans hfn)).symm
      exact ⟨by kernel_rfl, fun j t ht => by
        rw [Tryd.params4] at ht
        exact noStand t (by
          have := Array.mem_of_getElem? ht
          simpa using this)⟩)
    (by kernel_rfl)
#print axioms proved
end Go.Proofs.YtoehfncgkkfdeaaDoor.machSteps
