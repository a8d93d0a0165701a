/- MachEchoes: what its program makes, of any input. Conditions: each theorem's. -/
import Derived.Test.YtlghhailckoonaaDoorMachM3
import Derived.Test.YtlghhailckoonaaDoorMachM2
import Derived.Laws.BytesArg
import Derived.Laws.IdiomStrings
import Derived.Test.YtlghhailckoonaaDoorRows
import Derived.ProofKit
import Derived.LaidMore
import Derived.OpenShut
import Derived.Below
import Derived.Carry
import Derived.ChangeSame
import Derived.ChangeSlices
namespace Go.Proofs.YtlghhailckoonaaDoor
open Go.RowKit Go.Maps
set_option linter.unusedVariables false
set_option linter.unusedSimpArgs false
set_option maxRecDepth 10000
open Pm Pc Pl
namespace Pm
def ecL : List In5 := [(28, 17, 0, 0, 2), (55, 0, 0, 0, 0), (47, 0, 10, 0, 20), (28, 17, 0, 0, 1), (55, 0, 0, 0, 0), (28, 5, 5, 0, 1), (53, 0, 0, 0, -24), (28, 10, 5, 0, 0), (28, 17, 0, 0, 3), (55, 0, 0, 0, 0)]
def ecM : List Int := (maNew (bytesOf ecL) 64).mem
theorem ec_len : (bytesOf ecL).length = 40 := by decide +kernel
theorem ec_d0 : DecAt ecM 0 28 17 0 0 2 := by unfold DecAt; decide +kernel
theorem ec_d4 : DecAt ecM 4 55 0 0 0 0 := by unfold DecAt; decide +kernel
theorem ec_d8 : DecAt ecM 8 47 0 10 0 20 := by unfold DecAt; decide +kernel
theorem ec_d12 : DecAt ecM 12 28 17 0 0 1 := by unfold DecAt; decide +kernel
theorem ec_d16 : DecAt ecM 16 55 0 0 0 0 := by unfold DecAt; decide +kernel
theorem ec_d20 : DecAt ecM 20 28 5 5 0 1 := by unfold DecAt; decide +kernel
theorem ec_d24 : DecAt ecM 24 53 0 0 0 (-24) := by unfold DecAt; decide +kernel
theorem ec_d28 : DecAt ecM 28 28 10 5 0 0 := by unfold DecAt; decide +kernel
theorem ec_d32 : DecAt ecM 32 28 17 0 0 3 := by unfold DecAt; decide +kernel
theorem ec_d36 : DecAt ecM 36 55 0 0 0 0 := by unfold DecAt; decide +kernel
theorem ec_dec {x : List Int} {pl st cd op n : Int} {R : Ru} {a rd r1 r2 : Nat} (hpl : pl = ((a : Nat) : Int)) (h : DecAt ecM a op rd r1 r2 n) : stepV ⟨ecM, x, pl, st, cd⟩ R = doV ⟨ecM, x, pl, st, cd⟩ R op rd r1 r2 n := stepV_dec (m := ⟨ecM, x, pl, st, cd⟩) hpl h
theorem set_ne (x : List Int) (i j : Nat) (v : Int) (h : i ≠ j) : (x.set i v).getD j 0 = x.getD j 0 := by
  simp only [List.getD_eq_getElem?_getD]; rw [List.getElem?_set_ne h]
theorem set_eq (x : List Int) (i : Nat) (v : Int) (h : i < x.length) : (x.set i v).getD i 0 = v := by
  simp only [List.getD_eq_getElem?_getD]; rw [List.getElem?_set_self h]; rfl
/-- ADDI: a register and a number below 2^11. -/
theorem ec_addi {x : List Int} {pl n : Int} {rd r1 : Nat} (R : Ru) (a : Nat) (hpl : pl = a) (hd : DecAt ecM a 28 rd r1 0 n) (h0 : 0 < rd) (hn : 0 ≤ n ∧ n < 2048) (v : Int) (hv : x.getD r1 0 = v) (hv0 : 0 ≤ v ∧ v < 1099511627776) (hp : pl < 64) :
    stepV ⟨ecM, x, pl, 0, 0⟩ R = some (⟨ecM, x.set rd (v + n), pl + 4, 0, 0⟩, R) := by
  refine (ec_dec hpl hd).trans ?_
  unfold doV
  rw [if_neg (by omega), if_pos (by omega), if_neg (by simp [markB]; omega)]
  unfold Ma.set Ma.nx Ma.reg
  dsimp only
  rw [if_pos h0, hv]
  have e1 : opV (opTab 28) v (n % 18446744073709551616) = v + n := by
    rw [show opTab 28 = 1 from rfl]; unfold opV; rw [if_pos rfl]; omega
  have e2 : (pl + 4) % 18446744073709551616 = pl + 4 := by omega
  rw [e1]
  dsimp only
  rw [e2]
theorem runV_x {m m' : Ma} {R R' : Ru} (h0 : m.st = 0) (h : stepV m R = some (m', R')) (n : Nat) : runV (n + 1) m R = runV n m' { R' with steps := R'.steps + 1 } := by
  rw [runV_go h0, h]
theorem ec_run : ∀ (inp : List Int) (x : List Int) (k s : Nat) (out : List Int), (∀ b ∈ inp, 0 ≤ b ∧ b < 256) → x.length = 32 → x.getD 0 0 = 0 → x.getD 5 0 = k → k + inp.length < 1000000 →
    ∃ x' : List Int, runV (7 * inp.length + 6) ⟨ecM, x, 0, 0, 0⟩ ⟨out, s, 0, inp, false, []⟩ = (⟨ecM, x', 40, 1, ((k + inp.length : Nat) : Int) % 256⟩, ⟨out ++ inp, s + (7 * inp.length + 6), 0, [], false, []⟩) := by
  intro inp
  have d0 := ec_d0
  have d4 := ec_d4
  have d8 := ec_d8
  have d12 := ec_d12
  have d16 := ec_d16
  have d20 := ec_d20
  have d24 := ec_d24
  have d28 := ec_d28
  have d32 := ec_d32
  have d36 := ec_d36
  induction inp with
  | nil =>
    intro x k s out _ hl h0 h5 hk
    have hk' : (k : Int) < 1000000 := by simp at hk; omega
    refine ⟨((((x.set 17 2).set 10 18446744073709551615).set 10 k).set 17 3), ?_⟩
    rw [show 7 * ([] : List Int).length + 6 = 0 + 1 + 1 + 1 + 1 + 1 + 1 from rfl]
    rw [runV_x rfl (ec_addi (x := x) (pl := 0) _ 0 rfl d0 (by decide) (by decide) 0 h0 (by decide) (by decide))]
    have s1 : stepV ⟨ecM, x.set 17 (0 + 2), 0 + 4, 0, 0⟩ ⟨out, s + 1, 0, [], false, []⟩ = some (⟨ecM, (x.set 17 2).set 10 18446744073709551615, 8, 0, 0⟩, ⟨out, s + 1, 0, [], false, []⟩) := by
      refine (ec_dec (a := 4) (by decide) d4).trans ?_
      have hr : (⟨ecM, x.set 17 (0 + 2), 0 + 4, 0, 0⟩ : Ma).reg 17 = 2 := set_eq x 17 _ (by omega)
      have hc : callV ⟨ecM, x.set 17 (0 + 2), 0 + 4, 0, 0⟩ ⟨out, s + 1, 0, [], false, []⟩ = some (⟨ecM, (x.set 17 2).set 10 18446744073709551615, 4, 0, 0⟩, ⟨out, s + 1, 0, [], false, []⟩) := by
        unfold callV; rw [hr, if_neg (by decide), if_pos rfl]; rfl
      unfold doV
      rw [if_neg (by decide), if_neg (by decide), if_neg (by decide), if_neg (by decide), if_neg (by decide), if_neg (by decide), if_neg (by decide), if_neg (by decide), if_neg (by decide), hc]
      rfl
    rw [runV_x rfl s1]
    have g10 : (((x.set 17 2).set 10 18446744073709551615)).getD 10 0 = 18446744073709551615 := set_eq _ 10 _ (by simp; omega)
    have g0 : (((x.set 17 2).set 10 18446744073709551615)).getD 0 0 = 0 := by rw [set_ne _ _ _ _ (by decide), set_ne _ _ _ _ (by decide), h0]
    have s2 : stepV ⟨ecM, (x.set 17 2).set 10 18446744073709551615, 8, 0, 0⟩ ⟨out, s + 1 + 1, 0, [], false, []⟩ = some (⟨ecM, (x.set 17 2).set 10 18446744073709551615, 28, 0, 0⟩, ⟨out, s + 1 + 1, 0, [], false, []⟩) := by
      refine (ec_dec (a := 8) (by decide) d8).trans ?_
      unfold doV Ma.reg
      rw [if_neg (by decide), if_neg (by decide), if_neg (by decide), if_neg (by decide), if_pos (by decide)]
      dsimp only
      rw [g10, g0, if_pos (show holdV 47 18446744073709551615 0 = true by decide +kernel)]
      rfl
    rw [runV_x rfl s2]
    have g5 : (((x.set 17 2).set 10 18446744073709551615)).getD 5 0 = k := by rw [set_ne _ _ _ _ (by decide), set_ne _ _ _ _ (by decide), h5]
    rw [runV_x rfl (ec_addi (pl := 28) _ 28 rfl d28 (by decide) (by decide) k g5 (by omega) (by decide))]
    have g0' : (((x.set 17 2).set 10 18446744073709551615).set 10 ((k : Int) + 0)).getD 0 0 = 0 := by rw [set_ne _ _ _ _ (by decide), g0]
    rw [runV_x rfl (ec_addi (pl := 28 + 4) _ 32 rfl d32 (by decide) (by decide) 0 g0' (by decide) (by decide))]
    have s5 : ∀ S : Nat, stepV ⟨ecM, (((x.set 17 2).set 10 18446744073709551615).set 10 ((k : Int) + 0)).set 17 (0 + 3), 28 + 4 + 4, 0, 0⟩ ⟨out, S, 0, [], false, []⟩ = some (⟨ecM, (((x.set 17 2).set 10 18446744073709551615).set 10 k).set 17 3, 40, 1, (k : Int) % 256⟩, ⟨out, S, 0, [], false, []⟩) := by
      intro S
      refine (ec_dec (a := 36) (by decide) d36).trans ?_
      have hr : (⟨ecM, (((x.set 17 2).set 10 18446744073709551615).set 10 ((k : Int) + 0)).set 17 (0 + 3), 28 + 4 + 4, 0, 0⟩ : Ma).reg 17 = 3 := set_eq _ 17 _ (by simp; omega)
      have hr10 : (⟨ecM, (((x.set 17 2).set 10 18446744073709551615).set 10 ((k : Int) + 0)).set 17 (0 + 3), 28 + 4 + 4, 0, 0⟩ : Ma).reg 10 = k := by
        show (((((x.set 17 2).set 10 18446744073709551615).set 10 ((k : Int) + 0)).set 17 (0 + 3))).getD 10 0 = k
        rw [set_ne _ _ _ _ (by decide), set_eq _ 10 _ (by simp; omega)]; omega
      have hc : callV ⟨ecM, (((x.set 17 2).set 10 18446744073709551615).set 10 ((k : Int) + 0)).set 17 (0 + 3), 28 + 4 + 4, 0, 0⟩ ⟨out, S, 0, [], false, []⟩ = some (⟨ecM, (((x.set 17 2).set 10 18446744073709551615).set 10 ((k : Int) + 0)).set 17 (0 + 3), 28 + 4 + 4, 1, (k : Int) % 256⟩, ⟨out, S, 0, [], false, []⟩) := by
        unfold callV; rw [hr, if_neg (by decide), if_neg (by decide), if_pos rfl, hr10]
      unfold doV
      rw [if_neg (by decide), if_neg (by decide), if_neg (by decide), if_neg (by decide), if_neg (by decide), if_neg (by decide), if_neg (by decide), if_neg (by decide), if_neg (by decide), hc, Int.add_zero]
      rfl
    rw [runV_x rfl (s5 _)]
    simp [runV]
  | cons b l ih =>
    intro x k s out hb hl h0 h5 hk
    have hb0 := hb b (List.mem_cons_self ..)
    have hk' : (k : Int) < 1000000 := by simp at hk; omega
    have hlen : (b :: l).length = l.length + 1 := rfl
    rw [hlen, show 7 * (l.length + 1) + 6 = 7 * l.length + 6 + 1 + 1 + 1 + 1 + 1 + 1 + 1 by omega]
    rw [runV_x rfl (ec_addi (x := x) (pl := 0) _ 0 rfl d0 (by decide) (by decide) 0 h0 (by decide) (by decide))]
    have s1 : stepV ⟨ecM, x.set 17 (0 + 2), 0 + 4, 0, 0⟩ ⟨out, s + 1, 0, b :: l, false, []⟩ = some (⟨ecM, (x.set 17 2).set 10 b, 8, 0, 0⟩, ⟨out, s + 1, 0, l, false, []⟩) := by
      refine (ec_dec (a := 4) (by decide) d4).trans ?_
      have hr : (⟨ecM, x.set 17 (0 + 2), 0 + 4, 0, 0⟩ : Ma).reg 17 = 2 := set_eq x 17 _ (by omega)
      have hc : callV ⟨ecM, x.set 17 (0 + 2), 0 + 4, 0, 0⟩ ⟨out, s + 1, 0, b :: l, false, []⟩ = some (⟨ecM, (x.set 17 2).set 10 b, 4, 0, 0⟩, ⟨out, s + 1, 0, l, false, []⟩) := by
        unfold callV; rw [hr, if_neg (by decide), if_pos rfl]; rfl
      unfold doV
      rw [if_neg (by decide), if_neg (by decide), if_neg (by decide), if_neg (by decide), if_neg (by decide), if_neg (by decide), if_neg (by decide), if_neg (by decide), if_neg (by decide), hc]
      rfl
    rw [runV_x rfl s1]
    have g10 : ((x.set 17 2).set 10 b).getD 10 0 = b := set_eq _ 10 _ (by simp; omega)
    have g0 : ((x.set 17 2).set 10 b).getD 0 0 = 0 := by rw [set_ne _ _ _ _ (by decide), set_ne _ _ _ _ (by decide), h0]
    have s2 : stepV ⟨ecM, (x.set 17 2).set 10 b, 8, 0, 0⟩ ⟨out, s + 1 + 1, 0, l, false, []⟩ = some (⟨ecM, (x.set 17 2).set 10 b, 12, 0, 0⟩, ⟨out, s + 1 + 1, 0, l, false, []⟩) := by
      refine (ec_dec (a := 8) (by decide) d8).trans ?_
      unfold doV Ma.reg
      rw [if_neg (by decide), if_neg (by decide), if_neg (by decide), if_neg (by decide), if_pos (by decide)]
      dsimp only
      rw [g10, g0, if_neg (by simp [holdV, wrap64]; omega)]
      rfl
    rw [runV_x rfl s2]
    rw [runV_x rfl (ec_addi (pl := 12) _ 12 rfl d12 (by decide) (by decide) 0 g0 (by decide) (by decide))]
    have s4 : ∀ S : Nat, stepV ⟨ecM, ((x.set 17 2).set 10 b).set 17 (0 + 1), 12 + 4, 0, 0⟩ ⟨out, S, 0, l, false, []⟩ = some (⟨ecM, ((x.set 17 2).set 10 b).set 17 1, 20, 0, 0⟩, ⟨out ++ [b], S, 0, l, false, []⟩) := by
      intro S
      refine (ec_dec (a := 16) (by decide) d16).trans ?_
      have hr : (⟨ecM, ((x.set 17 2).set 10 b).set 17 (0 + 1), 12 + 4, 0, 0⟩ : Ma).reg 17 = 1 := set_eq _ 17 _ (by simp; omega)
      have hr10 : (⟨ecM, ((x.set 17 2).set 10 b).set 17 (0 + 1), 12 + 4, 0, 0⟩ : Ma).reg 10 = b := by
        show (((x.set 17 2).set 10 b).set 17 (0 + 1)).getD 10 0 = b
        rw [set_ne _ _ _ _ (by decide), g10]
      have hc : callV ⟨ecM, ((x.set 17 2).set 10 b).set 17 (0 + 1), 12 + 4, 0, 0⟩ ⟨out, S, 0, l, false, []⟩ = some (⟨ecM, ((x.set 17 2).set 10 b).set 17 (0 + 1), 12 + 4, 0, 0⟩, ⟨out ++ [b], S, 0, l, false, []⟩) := by
        unfold callV; rw [hr, if_pos rfl, hr10, show b % 256 = b by omega]
      unfold doV
      rw [if_neg (by decide), if_neg (by decide), if_neg (by decide), if_neg (by decide), if_neg (by decide), if_neg (by decide), if_neg (by decide), if_neg (by decide), if_neg (by decide), hc]
      rfl
    rw [runV_x rfl (s4 _)]
    have g5 : (((x.set 17 2).set 10 b).set 17 1).getD 5 0 = k := by rw [set_ne _ _ _ _ (by decide), set_ne _ _ _ _ (by decide), set_ne _ _ _ _ (by decide), h5]
    rw [runV_x rfl (ec_addi (pl := 20) _ 20 rfl d20 (by decide) (by decide) k g5 (by omega) (by decide))]
    have s6 : ∀ S : Nat, stepV ⟨ecM, (((x.set 17 2).set 10 b).set 17 1).set 5 ((k : Int) + 1), 20 + 4, 0, 0⟩ ⟨out ++ [b], S, 0, l, false, []⟩ = some (⟨ecM, (((x.set 17 2).set 10 b).set 17 1).set 5 ((k : Int) + 1), 0, 0, 0⟩, ⟨out ++ [b], S, 0, l, false, []⟩) := by
      intro S
      refine (ec_dec (a := 24) (by decide) d24).trans ?_
      unfold doV
      rw [if_neg (by decide), if_neg (by decide), if_neg (by decide), if_neg (by decide), if_neg (by decide), if_neg (by decide), if_neg (by decide), if_pos (by decide)]
      rfl
    rw [runV_x rfl (s6 _)]
    obtain ⟨x', hx'⟩ := ih ((((x.set 17 2).set 10 b).set 17 1).set 5 ((k : Int) + 1)) (k + 1) (s + 1 + 1 + 1 + 1 + 1 + 1 + 1) (out ++ [b]) (fun c hc => hb c (List.mem_cons_of_mem _ hc)) (by simp [hl])
      (by rw [set_ne _ _ _ _ (by decide), set_ne _ _ _ _ (by decide), g0]) (by rw [set_eq _ 5 _ (by simp; omega)]; omega) (by simp at hk; omega)
    refine ⟨x', ?_⟩
    dsimp only
    rw [hx']
    simp only [List.append_assoc, List.cons_append, List.nil_append]
    rw [show k + 1 + l.length = k + (l.length + 1) by omega, show s + 1 + 1 + 1 + 1 + 1 + 1 + 1 + (7 * l.length + 6) = s + (7 * l.length + 6 + 1 + 1 + 1 + 1 + 1 + 1 + 1) by omega]
theorem ec_fin (inp : List Int) (hb : ∀ b ∈ inp, 0 ≤ b ∧ b < 256) (hn : inp.length ≤ 200) : ∃ x' : List Int, runV 3000 (maNew (bytesOf ecL) 64) ⟨[], 0, 0, inp, false, []⟩ = (⟨ecM, x', 40, 1, (inp.length : Int) % 256⟩, ⟨inp, 7 * inp.length + 6, 0, [], false, []⟩) := by
  obtain ⟨x', h⟩ := ec_run inp (List.replicate 32 0) 0 0 [] hb rfl rfl rfl (by omega)
  refine ⟨x', ?_⟩
  rw [show (3000 : Nat) = (7 * inp.length + 6) + (3000 - (7 * inp.length + 6)) by omega, runV_add]
  have e : runV (7 * inp.length + 6) (maNew (bytesOf ecL) 64) ⟨[], 0, 0, inp, false, []⟩ = _ := h
  rw [e]
  dsimp only
  rw [runV_stop (.inl (show (1 : Int) ≠ 0 by decide))]
  simp
end Pm
end Go.Proofs.YtlghhailckoonaaDoor
/- MachEchoes answers true, of any input; at most new blocks in memory. Conditions: the tables as the program lays them, bytes that come in. -/
namespace Go.Proofs.YtlghhailckoonaaDoor
open Go.RowKit Go.Maps
set_option linter.unusedVariables false
set_option linter.unusedSimpArgs false
set_option maxRecDepth 10000
open Pm Pc Pl
theorem str_own {w : World} {base : Nat} {A : Option Addr} {n c : Nat} {xs : List Int} (h : w.ownsRow base 5 1 (.slice A n c) xs.length (u8s xs)) : n = xs.length ∧ (convert 22 9 (.slice A n c)).run Tryd.prog w = .ok (.string (strOfNums xs)) w := by
  rcases h.2 with ⟨hv, hn⟩ | ⟨g, cap, cur, hv, hg, hh, hnc, _, hsz, htk⟩
  · injection hv with h1 h2 h3
    subst h1 h2
    have hx : xs = [] := List.eq_nil_of_length_eq_zero hn
    subst hx
    exact ⟨rfl, run_convert_bytes_nil (w := w) 22 5 Tryd.underlying22 Tryd.underlying5 0 c 9 Tryd.underlying9⟩
  · injection hv with h1 h2 h3
    subst h1 h2 h3
    refine ⟨rfl, run_convert_bytes_arg w 22 5 Tryd.underlying22 Tryd.underlying5 g 0 _ _ xs rfl (fun i hi => ?_) 9 Tryd.underlying9⟩
    rw [Nat.zero_add, cell_of_row w g i _ _ _ hh]
    have h1 : (u8s xs)[i]? = some (.int .u8 (xs.getD i 0)) := by simp [u8s, hi]
    rw [← htk, List.getElem?_take] at h1
    split at h1
    · simpa using h1
    · cases h1
theorem str_in {w : World} {A : Option Addr} {c : Nat} {xs : List Int} (h : 0 < xs.length → ∃ g o, A = some ⟨g, o, none⟩ ∧ ∀ j, j < xs.length → w.cell? ⟨g, o + j, none⟩ = some (.int .u8 (xs.getD j 0))) : (convert 22 9 (.slice A xs.length c)).run Tryd.prog w = .ok (.string (strOfNums xs)) w := by
  by_cases hz : xs.length = 0
  · have hx : xs = [] := List.eq_nil_of_length_eq_zero hz
    subst hx
    cases A with
    | none => exact run_convert_bytes_nil (w := w) 22 5 Tryd.underlying22 Tryd.underlying5 0 c 9 Tryd.underlying9
    | some a => exact run_convert_bytes_back w 22 9 5 a c [] Tryd.underlying22 Tryd.underlying5 Tryd.underlying9 (fun j hj => absurd hj (Nat.not_lt_zero j))
  · obtain ⟨g, o, rfl, hr⟩ := h (by omega)
    exact run_convert_bytes_arg w 22 5 Tryd.underlying22 Tryd.underlying5 g o _ c xs rfl hr 9 Tryd.underlying9
theorem ks_run_in {w0 w : World} {p q : Nat} {m : Ma} {A : Option Addr} {c : Nat} {xs : List Int} (h : Ks w0 w p q m) (f : Int) (hf : f ≤ 1073741824) {N : Nat} (hN : f.toNat = N) (hi : InpIs w w.heap.size p q A xs) (hc : xs.length ≤ c) {fin : Ma × Ru} (hfin : runV N m ⟨[], 0, 0, xs, false, []⟩ = fin) : Calls Tryd.prog 13 #[.pointer (some ⟨p, 0, none⟩), .slice A xs.length c, .int .i64 f] w fun e w' => ∃ oA n oc, e = .returned (.agg #[.int .i64 fin.1.st, .int .u8 fin.1.cd, .int .i64 0, .slice oA n oc, .int .i64 fin.2.steps, .int .i64 fin.2.checks]) ∧ w'.ownsRow w.heap.size 5 1 (.slice oA n oc) fin.2.out.length (u8s fin.2.out) ∧ Ks w0 w' p q fin.1 ∧ Fj w.heap.size p q w w' := by
  subst hfin
  subst hN
  refine (run_any f h.at_ h.ok h.pq h.one hi hc h.forms h.ops hf).mono ?_
  rintro e w' ⟨ov, rfl, hov, hm, hok, -, hfj⟩
  obtain ⟨oA, n, oc, rfl⟩ := own_slice hov
  exact ⟨oA, n, oc, rfl, hov, h.next hm hok hfj, hfj⟩
set_option maxRecDepth 100000 in
set_option maxHeartbeats 4000000 in
theorem machEchoes_walk (xs : List Int) (A : Option Addr) (c : Nat) (w : World) (hb : ∀ b ∈ xs, 0 ≤ b ∧ b < 256) (hA : 0 < xs.length → ∃ g o, A = some ⟨g, o, none⟩ ∧ g < w.heap.size ∧ ∀ j, j < xs.length → w.cell? ⟨g, o + j, none⟩ = some (.int .u8 (xs.getD j 0))) (hc : xs.length ≤ c) (hF : FormsIn w) (hO : OpsIn w) :
    Calls Tryd.prog 8 #[.slice A xs.length c] w fun e w' => e = .returned (.bool true) ∧ Below w.heap.size w w' := by
  have h2 := hO.two hF
  by_cases h200 : xs.length ≤ 200
  · have hd : decide (200 < (xs.length : Int)) = false := decide_eq_false (by omega)
    obtain ⟨x', hfin⟩ := ec_fin xs hb h200
    have HFIN := Lib.hid hfin; clear hfin
    go_enter Tryd.func8, Tryd.ntmps8
    go_wp2_with fail
    refine (awake3 _ hF hO).mono ?_
    rintro e w1 ⟨rfl, b1⟩
    have hF1 := hF.keep b1 (Nat.le_refl _)
    have hO1 := hO.below b1
    clear hF hO
    go_wp2_with fail
    refine (bytes_any (l := ecL) (by decide) (insAt_new w1 ecL _ rfl _)).mono ?_
    rintro e w2 ⟨v, rfl, hown, b2⟩
    obtain ⟨A2, c2, rfl, hsrc, -⟩ := src_own hown (bytesOf_range _)
    have hle : (bytesOf ecL).length ≤ 64 := by rw [ec_len]; decide
    have B2 : Below w1.heap.size w1 w2 := ((Below.refl w1.heap.size w1).alloc (Nat.le_refl _) _).trans (b2.mono (by simp only [szA]; omega))
    have hF2 := hF1.keep B2 (Nat.le_refl _)
    have hO2 := hO1.below B2
    have B12 := b1.trans (B2.mono b1.size)
    clear hF1 hO1 b1 B2 b2 hown
    go_wp2_with fail
    refine (ks_new (w0 := w) (N := 64) hle (by decide) hsrc hF2 hO2 B12 h2).mono ?_
    rintro e w3 ⟨rfl, k3⟩
    clear hF2 hO2 hsrc hle
    have hq : w.heap.size ≤ w2.heap.size := B12.size
    clear B12
    generalize w2.heap.size = q at *
    go_wp2_with fail
    have hin : InpIs w3 w3.heap.size (q + 1) q A xs := by
      refine ⟨fun i => ?_, fun h0 => ?_⟩
      · by_cases hi : i < xs.length
        · have e : xs.getD i 0 = xs[i] := by simp [List.getD, hi]
          rw [e]; exact hb _ (List.getElem_mem hi)
        · have e : xs.getD i 0 = 0 := by simp [List.getD, List.getElem?_eq_none (Nat.le_of_not_lt hi)]
          rw [e]; omega
      · obtain ⟨g, o, rfl, hg, hr⟩ := hA h0
        have := k3.below.size
        exact ⟨g, o, rfl, by omega, by omega, by omega, fun j hj => (k3.below.cell (p := ⟨g, o + j, none⟩) hg).trans (hr j hj)⟩
    refine (ks_run_in k3 3000 (by decide) (N := 3000) rfl hin hc HFIN.out).mono ?_
    rintro e w4 ⟨oA, on, oc, rfl, hov, k4, -⟩
    dsimp only at hov k4
    have hkb := k4.below
    have hR := szA w4 (.cells #[.int .i64 1, .int .u8 ((xs.length : Int) % 256), .int .i64 0, .slice oA on oc, .int .i64 ((7 * xs.length + 6 : Nat) : Int), .int .i64 ((0 : Nat) : Int)] 39)
    obtain ⟨hon, hs1⟩ := str_own (hov.alloc (.cells #[.int .i64 1, .int .u8 ((xs.length : Int) % 256), .int .i64 0, .slice oA on oc, .int .i64 ((7 * xs.length + 6 : Nat) : Int), .int .i64 0] 39))
    subst hon
    have hs2 : (convert 22 9 (.slice A xs.length c)).run Tryd.prog (w4.alloc (.cells #[.int .i64 1, .int .u8 ((xs.length : Int) % 256), .int .i64 0, .slice oA xs.length oc, .int .i64 ((7 * xs.length + 6 : Nat) : Int), .int .i64 0] 39)) = .ok (.string (strOfNums xs)) (w4.alloc (.cells #[.int .i64 1, .int .u8 ((xs.length : Int) % 256), .int .i64 0, .slice oA xs.length oc, .int .i64 ((7 * xs.length + 6 : Nat) : Int), .int .i64 0] 39)) := str_in (fun h0 => by
      obtain ⟨g, o, rfl, hg, hr⟩ := hA h0
      have := hkb.size
      exact ⟨g, o, rfl, fun j hj => (World.cell?_alloc_lt w4 _ _ (by show g < w4.heap.size; omega)).trans ((hkb.cell (p := ⟨g, o + j, none⟩) hg).trans (hr j hj))⟩)
    have hm1 : ((7 * xs.length + 6 : Nat) : Int) = 7 * (xs.length : Int) + 6 := by omega
    rw [hm1] at hs1 hs2 ⊢
    clear hov hA hin HFIN hm1 hR
    go_wp2_with fail

    go_ret
    exact ⟨rfl, hkb.alloc hkb.size _⟩
  · have hd : decide (200 < (xs.length : Int)) = true := decide_eq_true (by omega)
    go_enter Tryd.func8, Tryd.ntmps8
    go_wp2_with fail
    refine (awake3 _ hF hO).mono ?_
    rintro e w1 ⟨rfl, b1⟩
    go_wp2_with fail
    refine (awake3 _ (hF.keep b1 (Nat.le_refl _)) (hO.below b1)).mono ?_
    rintro e w2 ⟨rfl, b2⟩
    go_wp2
    go_ret
    exact ⟨rfl, b1.trans (b2.mono b1.size)⟩
end Go.Proofs.YtlghhailckoonaaDoor
/- The end of a row whose arguments are read alone: only new blocks were made. No condition on the arguments. -/
namespace Go.Proofs.YtlghhailckoonaaDoor
open Go.ChangeShapes Go.WideShapes Go.ChangeAt Go.RowKit
set_option linter.unusedVariables false
set_option linter.unusedSimpArgs false
theorem trodAll_below {H : Type} {enc : TypeId × Value → H} {P : Program} (hl : laidOutB P = true) {W W' : World} (hb : Below W.heap.size W W') : ∀ {ts : List TypeId} {vs : List Value} {ds : List (DataW H)} {ps : List MemPlace}, (∀ t ∈ ts, P.readableRec t = true ∧ t < P.types.size) →
    DataW.TrodAll enc P W 0 (fun _ => true) true ts vs ds ps → (∀ x ∈ ps, x.block < W.heap.size) → DataW.TrodAll enc P W' 0 (fun b => decide (b < W.heap.size)) true ts vs ds ps
  | [], [], [], _, _, h, _ => h
  | _ :: _, _ :: _, _ :: _, _, hT, ⟨p, q, h1, h2, e⟩, hs => ⟨p, q, Below.trod hl (hT _ (List.mem_cons.2 (Or.inl rfl))).1 (hT _ (List.mem_cons.2 (Or.inl rfl))).2 h1 hb (fun x hx => hs x (by rw [e]; exact List.mem_append_left _ hx)), trodAll_below hl hb (fun t ht => hT t (List.mem_cons.2 (Or.inr ht))) h2 (fun x hx => hs x (by rw [e]; exact List.mem_append_right _ hx)), e⟩
theorem post_reads {H : Type} {enc : TypeId × Value → H} {P : Program} {f : Func} {s : ChangeSpec} {W W' : World} {args : Array Value} {v : Value} {ds gs : List (DataW H)} {before : List MemPlace}
    (hl : laidOutB P = true) (hT : ∀ t ∈ f.params.toList, P.readableRec t = true ∧ t < P.types.size) (hv : s.vars = [])
    (hW : DataW.Whole enc P f.params.toList s.vars false W args.toList ds gs before)
    (hres : ∀ b : Nat, DataW.TrodAll enc P W' b (fun _ => false) false f.resultTypes.toList (v.resultList f.resultTypes.size) (s.fn H (ds ++ gs)).results [])
    (hargs : (s.fn H (ds ++ gs)).args = ds) (hvars : (s.fn H (ds ++ gs)).vars = []) (hb : Below W.heap.size W W') : s.post enc P f false true false false W args v W' := by
  have hlt : ∀ x ∈ before, x.block < W.heap.size := fun x hx => by simpa using hW.lt x hx
  have hW0 := hW
  obtain ⟨p, q, hA, hV, e, _⟩ := hW
  rw [hv] at hV
  have hq : gs = [] ∧ q = [] := by
    cases gs with
    | nil => exact ⟨rfl, hV⟩
    | cons => exact hV.elim
  obtain ⟨rfl, rfl⟩ := hq
  rw [List.append_nil] at e
  subst e
  refine ⟨ds, [], before, [], before, [], hW0, hres _, ?_, ?_, hb.frame _, fun h => by cases h⟩
  · rw [hargs]
    exact trodAll_below hl hb hT hA hlt
  · rw [hvars, hv]; exact rfl
end Go.Proofs.YtlghhailckoonaaDoor
