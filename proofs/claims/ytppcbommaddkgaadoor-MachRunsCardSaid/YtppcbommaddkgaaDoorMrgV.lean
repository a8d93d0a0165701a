/- What the statements of layer 3 share, of this claim. Conditions: each theorem's. -/
import Derived.Test.YtppcbommaddkgaaDoorMrgG
import Derived.Deep.OwnRows
import Derived.Laws.CopyOwn
import Derived.Test.YtppcbommaddkgaaDoorMrgB
import Derived.Test.YtppcbommaddkgaaDoorMrgC
import Derived.Laws.BytesArg
import Derived.Laws.IdiomStrings
import Derived.Deep.RegionHeld3
import Derived.Deep.MidRow
import Derived.Deep.RegionHeld
import Derived.Test.YtppcbommaddkgaaDoorMrgI
import Derived.StillTailTactics
import Derived.Test.YtppcbommaddkgaaDoorMrgM
import Derived.Test.YtppcbommaddkgaaDoorCodeLawsH
import Derived.Test.YtppcbommaddkgaaDoorRows
import Derived.ProofKit
import Derived.LaidMore
import Derived.OpenShut
import Derived.MapViews
import Derived.DeepKeys2
import Derived.Stop.Joined
import Derived.Below
import Derived.ChangeSame
import Derived.Test.YtppcbommaddkgaaDoorMrgF
import Derived.Carry
import Derived.ChangeSlices
namespace Go.Proofs.YtppcbommaddkgaaDoor
open Go.RowKit Go.Maps
set_option linter.unusedVariables false
set_option linter.unusedSimpArgs false
set_option maxRecDepth 10000
open Pm Pc Pl
theorem u8s_one (l : List Int) : ∀ v ∈ u8s l, v.oneCell' = true := by
  intro v hv
  simp only [u8s, List.mem_map] at hv
  obtain ⟨x, _, rfl⟩ := hv
  rfl
theorem cat_peek (l : List Int) (a n : Nat) (h : a + n ≤ l.length) : (u8s ((l.drop a).take n) ++ List.drop (u8s ((l.drop a).take n)).length (u8s (List.replicate n 0))).toArray = (u8s ((l.drop a).take n)).toArray := by
  have : (u8s ((l.drop a).take n)).length = n := by simp [u8s]; omega
  rw [this, show List.drop n (u8s (List.replicate n 0)) = [] from List.drop_eq_nil_of_le (by simp [u8s]), List.append_nil]
set_option maxHeartbeats 2000000 in
theorem peek_in {w : World} {p q : Nat} {m : Ma} (a n : Nat) (hm : MachAt w p q m) (hok : m.ok) (hn : 0 < n) (ha : a + n ≤ m.mem.length) :
    Calls Tryd.prog 25 #[.pointer (some ⟨p, 0, none⟩), .int .i64 a, .int .i64 n] w fun e w' => e = .returned (.tuple #[.slice (some ⟨w.heap.size, 0, none⟩) n n, .int .i64 0]) ∧ w'.heap[w.heap.size]? = some (.cells (u8s ((m.mem.drop a).take n)).toArray 5) ∧ Below w.heap.size w w' := by
  have hN := hok.2.1
  have hmk := run_make_row' (P := Tryd.prog) 22 5 (.int .u8 0) 1 Tryd.underlying22 (by kernel_rfl) rfl .i64 .i64 n (by omega) (by omega)
  rw [made_u8] at hmk
  have c0 := hm.c0
  have lp := hm.lp
  have lq := hm.lq
  have hlen : (u8s ((m.mem.drop a).take n)).length = Nat.min (m.mem.length - a) n := by
    rw [show Nat.min (m.mem.length - a) n = n from Nat.min_eq_right (by omega)]
    simp [u8s]; omega
  have hsrc : ∀ j v, (u8s ((m.mem.drop a).take n))[j]? = some v → (w.alloc (.cells (u8s (List.replicate n 0)).toArray 5)).cell? ((⟨q, a, none⟩ : Addr).add j) = some v := by
    intro j v hv
    have hj : j < n := by
      rcases Nat.lt_or_ge j n with h | h
      · exact h
      · rw [List.getElem?_eq_none (by simp [u8s]; omega)] at hv; cases hv
    rw [add_at, World.cell?_alloc_lt _ _ _ lq, hm.cm (a + j) (by omega)]
    have hlt : a + j < m.mem.length := by omega
    simp [u8s, List.getElem?_take, hj, hlt] at hv ⊢
    exact hv
  have HL := Lib.hid hlen; have HS := Lib.hid hsrc
  clear hlen hsrc
  obtain ⟨N, hNe⟩ : ∃ N, m.mem.length = N := ⟨_, rfl⟩
  have HNE := Lib.hid hNe
  rw [hNe] at c0 ha hN
  clear hNe
  have d1 : decide ((a : Int) > (N : Int) - (n : Int)) = false := by simp; omega
  have hcap : ¬ N = a := by omega
  have hmin : (u8s ((m.mem.drop a).take n)).length = Nat.min (N - a) n := by rw [HL.out, HNE.out]
  have hfit : 0 + (u8s ((m.mem.drop a).take n)).length ≤ (u8s (List.replicate n 0)).toArray.size := by
    rw [hmin, show Nat.min (N - a) n = n from Nat.min_eq_right (by omega)]; simp [u8s]
  have HMIN := Lib.hid hmin; have HFIT := Lib.hid hfit
  clear hmin hfit
  go_enter Tryd.func25, Tryd.ntmps25
  go_wp2_with (refine wpList_copy_own (o := ⟨some 35, _, _, _, _, _⟩) rfl (.tmp 28) (.tmp 34) 22 22 rfl 5 Tryd.underlying22 (by kernel_rfl) w.heap.size 0 n n ⟨q, a, none⟩ (N - a) (N - a) rfl rfl (u8s (List.replicate n 0)).toArray 5 (heap_alloc_new w _) (u8s ((m.mem.drop a).take n)) HMIN.out HS.out HFIT.out (u8s_one _) ?_)
  go_ret2
  refine ⟨rfl, ?_, below_setRow ((Below.refl _ _).alloc (Nat.le_refl _) _) (Nat.le_refl _) _⟩
  rw [setRow_heap _ w.heap.size _ _ _ _ (heap_alloc_new w _), cat_peek m.mem a n (by rw [HNE.out]; exact ha)]
theorem conv_own {w : World} {base : Nat} {A : Option Addr} {n c : Nat} {xs : List Int} (h : w.ownsRow base 5 1 (.slice A n c) xs.length (u8s xs)) : n = xs.length ∧ (convert 22 9 (.slice A n c)).run Tryd.prog w = .ok (.string (strOfNums xs)) w := by
  rcases h.2 with ⟨hv, hn⟩ | ⟨g, cap, cur, hv, hg, hh, hnc, _, hsz, htk⟩
  · injection hv with h1 h2 h3
    subst h1 h2
    have hx : xs = [] := List.eq_nil_of_length_eq_zero hn
    subst hx
    exact ⟨rfl, run_convert_bytes_nil (w := w) 22 5 Tryd.underlying22 Tryd.underlying5 0 c 9 Tryd.underlying9⟩
  · injection hv with h1 h2 h3
    subst h1 h2 h3
    refine ⟨rfl, run_convert_bytes_arg w 22 5 Tryd.underlying22 Tryd.underlying5 g 0 _ _ xs rfl (fun i hi => ?_) 9 Tryd.underlying9⟩
    rw [Nat.zero_add, cell_of_row w g i _ _ _ hh]
    have h1 : (u8s xs)[i]? = some (.int .u8 (xs.getD i 0)) := by simp [u8s, hi]
    rw [← htk, List.getElem?_take] at h1
    split at h1
    · simpa using h1
    · cases h1
theorem conv_in {w : World} {A : Option Addr} {c : Nat} {xs : List Int} (h : 0 < xs.length → ∃ g o, A = some ⟨g, o, none⟩ ∧ ∀ j, j < xs.length → w.cell? ⟨g, o + j, none⟩ = some (.int .u8 (xs.getD j 0))) : (convert 22 9 (.slice A xs.length c)).run Tryd.prog w = .ok (.string (strOfNums xs)) w := by
  by_cases hz : xs.length = 0
  · have hx : xs = [] := List.eq_nil_of_length_eq_zero hz
    subst hx
    cases A with
    | none => exact run_convert_bytes_nil (w := w) 22 5 Tryd.underlying22 Tryd.underlying5 0 c 9 Tryd.underlying9
    | some a => exact run_convert_bytes_back w 22 9 5 a c [] Tryd.underlying22 Tryd.underlying5 Tryd.underlying9 (fun j hj => absurd hj (Nat.not_lt_zero j))
  · obtain ⟨g, o, rfl, hr⟩ := h (by omega)
    exact run_convert_bytes_arg w 22 5 Tryd.underlying22 Tryd.underlying5 g o _ c xs rfl hr 9 Tryd.underlying9
set_option maxHeartbeats 4000000 in
theorem same_true {w : World} {base base' : Nat} {A A' : Option Addr} {n c n' c' : Nat} {xs : List Int} (st cd s k : Int) (h : w.ownsRow base 5 1 (.slice A n c) xs.length (u8s xs)) (h' : w.ownsRow base' 5 1 (.slice A' n' c') xs.length (u8s xs)) :
    Calls Tryd.prog 13 #[.agg #[.int .i64 st, .int .u8 cd, .int .i64 0, .slice A n c, .int .i64 s, .int .i64 k], .agg #[.int .i64 st, .int .u8 cd, .int .i64 0, .slice A' n' c', .int .i64 s, .int .i64 k]] w fun e w' => e = .returned (.bool true) ∧ Below w.heap.size w w' := by
  have b1 := (Below.refl w.heap.size w).alloc (Nat.le_refl _) (Obj.cells #[.int .i64 st, .int .u8 cd, .int .i64 0, .slice A n c, .int .i64 s, .int .i64 k] 39)
  have b2 := b1.alloc b1.size (Obj.cells #[.int .i64 st, .int .u8 cd, .int .i64 0, .slice A' n' c', .int .i64 s, .int .i64 k] 39)
  obtain ⟨hn, hs⟩ := conv_own ((h.alloc (Obj.cells #[.int .i64 st, .int .u8 cd, .int .i64 0, .slice A n c, .int .i64 s, .int .i64 k] 39)).alloc (Obj.cells #[.int .i64 st, .int .u8 cd, .int .i64 0, .slice A' n' c', .int .i64 s, .int .i64 k] 39))
  obtain ⟨hn', hs'⟩ := conv_own ((h'.alloc (Obj.cells #[.int .i64 st, .int .u8 cd, .int .i64 0, .slice A n c, .int .i64 s, .int .i64 k] 39)).alloc (Obj.cells #[.int .i64 st, .int .u8 cd, .int .i64 0, .slice A' n' c', .int .i64 s, .int .i64 k] 39))
  subst hn hn'
  have HB := Lib.hid b2
  clear h h' b1 b2
  go_enter Tryd.func13, Tryd.ntmps13
  go_wp2_with fail
  go_ret
  exact ⟨rfl, HB.out⟩
namespace Pm
end Pm
namespace Pm
def shf (R D : Ru) : Ru := ⟨R.out ++ D.out, R.steps + D.steps, R.checks + D.checks, D.inp, R.wat, if R.wat then R.seen ++ D.seen else R.seen⟩
def shO (R : Ru) (o : Option (Ma × Ru)) : Option (Ma × Ru) := match o with
  | some x => some (x.1, shf R x.2)
  | none => none
theorem shf_note (R D : Ru) (a : Ac) (hd : D.wat = true) : (shf R D).note a = shf R (D.note a) ∧ (D.note a).wat = true ∧ (D.inp = [] → (D.note a).inp = []) := by
  obtain ⟨o, s, c, i, w, e⟩ := R
  obtain ⟨o2, s2, c2, i2, w2, e2⟩ := D
  cases hd
  cases w <;> simp [shf, Ru.note]
theorem shf_call (m : Ma) (R D : Ru) (hd : D.wat = true) : callV m (shf R D) = shO R (callV m D) ∧ ∀ x, callV m D = some x → x.2.wat = true ∧ (D.inp = [] → x.2.inp = []) := by
  obtain ⟨o, s, c, i, w, e⟩ := R
  obtain ⟨o2, s2, c2, i2, w2, e2⟩ := D
  cases hd
  unfold callV
  by_cases h1 : m.reg 17 = 1
  · rw [if_pos h1, if_pos h1]
    refine ⟨by simp [shO, shf], fun x hx => ?_⟩
    injection hx with hx
    rw [← hx]
    exact ⟨rfl, id⟩
  rw [if_neg h1, if_neg h1]
  by_cases h2 : m.reg 17 = 2
  · rw [if_pos h2, if_pos h2]
    cases i2 with
    | nil => exact ⟨rfl, fun x hx => by injection hx with hx; rw [← hx]; exact ⟨rfl, id⟩⟩
    | cons b l => exact ⟨rfl, fun x hx => by injection hx with hx; rw [← hx]; exact ⟨rfl, fun h => by cases h⟩⟩
  rw [if_neg h2, if_neg h2]
  by_cases h3 : m.reg 17 = 3
  · rw [if_pos h3, if_pos h3]
    exact ⟨rfl, fun x hx => by injection hx with hx; rw [← hx]; exact ⟨rfl, id⟩⟩
  rw [if_neg h3, if_neg h3]
  by_cases h4 : m.reg 17 = 4 ∨ m.reg 17 = 5
  · rw [if_pos h4, if_pos h4]
    exact ⟨rfl, fun x hx => by injection hx with hx; rw [← hx]; exact ⟨rfl, id⟩⟩
  rw [if_neg h4, if_neg h4]
  exact ⟨rfl, fun x hx => by cases hx⟩
theorem shf_do (m : Ma) (R D : Ru) (hd : D.wat = true) (op : Int) (rd r1 r2 : Nat) (n : Int) : doV m (shf R D) op rd r1 r2 n = shO R (doV m D op rd r1 r2 n) ∧ ∀ x, doV m D op rd r1 r2 n = some x → x.2.wat = true ∧ (D.inp = [] → x.2.inp = []) := by
  unfold doV
  by_cases k1 : op ≤ 27
  · rw [if_pos k1, if_pos k1]
    exact ⟨rfl, fun x hx => by injection hx with hx; rw [← hx]; exact ⟨hd, id⟩⟩
  rw [if_neg k1, if_neg k1]
  by_cases k2 : op ≤ 37
  · rw [if_pos k2, if_pos k2]
    by_cases hk : markB op rd r1 r2 n = true
    · rw [if_pos hk, if_pos hk]
      exact ⟨rfl, fun x hx => by injection hx with hx; rw [← hx]; exact ⟨hd, id⟩⟩
    · rw [if_neg hk, if_neg hk]
      exact ⟨rfl, fun x hx => by injection hx with hx; rw [← hx]; exact ⟨hd, id⟩⟩
  rw [if_neg k2, if_neg k2]
  by_cases k3 : op ≤ 41
  · rw [if_pos k3, if_pos k3]
    by_cases hb : hasB (m.ad r1 n) (widthV op) m.mem.length = true
    · rw [if_pos hb, if_pos hb]
      have := shf_note R D ⟨m.pl, m.ad r1 n, widthV op, false⟩ hd
      exact ⟨by rw [this.1]; rfl, fun x hx => by injection hx with hx; rw [← hx]; exact this.2⟩
    · rw [if_neg hb, if_neg hb]
      exact ⟨rfl, fun x hx => by cases hx⟩
  rw [if_neg k3, if_neg k3]
  by_cases k4 : op ≤ 44
  · rw [if_pos k4, if_pos k4]
    by_cases hb : hasB (m.ad r1 n) (widthV op) m.mem.length = true
    · rw [if_pos hb, if_pos hb]
      have := shf_note R D ⟨m.pl, m.ad r1 n, widthV op, true⟩ hd
      exact ⟨by rw [this.1]; rfl, fun x hx => by injection hx with hx; rw [← hx]; exact this.2⟩
    · rw [if_neg hb, if_neg hb]
      exact ⟨rfl, fun x hx => by cases hx⟩
  rw [if_neg k4, if_neg k4]
  by_cases k5 : op ≤ 50
  · rw [if_pos k5, if_pos k5]
    exact ⟨rfl, fun x hx => by injection hx with hx; rw [← hx]; exact ⟨hd, id⟩⟩
  rw [if_neg k5, if_neg k5]
  by_cases k6 : op = 51
  · rw [if_pos k6, if_pos k6]
    exact ⟨rfl, fun x hx => by injection hx with hx; rw [← hx]; exact ⟨hd, id⟩⟩
  rw [if_neg k6, if_neg k6]
  by_cases k7 : op = 52
  · rw [if_pos k7, if_pos k7]
    exact ⟨rfl, fun x hx => by injection hx with hx; rw [← hx]; exact ⟨hd, id⟩⟩
  rw [if_neg k7, if_neg k7]
  by_cases k8 : op = 53
  · rw [if_pos k8, if_pos k8]
    exact ⟨rfl, fun x hx => by injection hx with hx; rw [← hx]; exact ⟨hd, id⟩⟩
  rw [if_neg k8, if_neg k8]
  by_cases k9 : op = 54
  · rw [if_pos k9, if_pos k9]
    exact ⟨rfl, fun x hx => by injection hx with hx; rw [← hx]; exact ⟨hd, id⟩⟩
  rw [if_neg k9, if_neg k9]
  obtain ⟨c1, c2⟩ := shf_call m R D hd
  rw [c1]
  cases hc : callV m D with
  | none => exact ⟨rfl, fun x hx => by cases hx⟩
  | some y => exact ⟨rfl, fun x hx => by injection hx with hx; rw [← hx]; exact c2 y hc⟩
theorem shf_step (m : Ma) (R D : Ru) (hd : D.wat = true) : stepV m (shf R D) = shO R (stepV m D) ∧ ∀ x, stepV m D = some x → x.2.wat = true ∧ (D.inp = [] → x.2.inp = []) := by
  unfold stepV
  by_cases h : hasB m.pl 4 m.mem.length = true ∧ findOp (wordAt m) ≠ 0
  · rw [if_pos h, if_pos h]
    exact shf_do m R D hd _ _ _ _ _
  · rw [if_neg h, if_neg h]
    exact ⟨rfl, fun x hx => by cases hx⟩
theorem shf_run (n : Nat) (m : Ma) (R D : Ru) (hd : D.wat = true) : runV n m (shf R D) = ((runV n m D).1, shf R (runV n m D).2) ∧ (runV n m D).2.wat = true := by
  induction n generalizing m D with
  | zero => exact ⟨rfl, hd⟩
  | succ n ih =>
    by_cases h0 : m.st = 0
    · rw [runV_go h0, runV_go h0, (shf_step m R D hd).1]
      have h2 := (shf_step m R D hd).2
      cases hs : stepV m D with
      | none => exact ⟨rfl, hd⟩
      | some x =>
        have := ih x.1 { x.2 with steps := x.2.steps + 1 } (h2 x hs).1
        exact ⟨this.1, this.2⟩
    · rw [runV_stop (.inl h0), runV_stop (.inl h0)]
      exact ⟨rfl, hd⟩
end Pm
namespace Pm
def Ma.setR (m : Ma) (k : Nat) (v : Int) : Ma := if k < 32 then m.set k v else m
def setN (m : Ma) (ys : List Int) : Nat → Ma
  | 0 => m
  | n + 1 => (setN m ys n).setR n (ys.getD n 0)
end Pm
theorem ks_setR {w0 w : World} {p q : Nat} {m : Ma} (h : Ks w0 w p q m) (k : Nat) (v : Int) (hv : 0 ≤ v ∧ v < 18446744073709551616) :
    Calls Tryd.prog 19 #[.pointer (some ⟨p, 0, none⟩), .int .i64 k, .int .u64 v] w fun e w' => e = .returned (.tuple #[]) ∧ Ks w0 w' p q (m.setR k v) ∧ Fr [p] w w' := by
  by_cases hk : k < 32
  · rw [Ma.setR, if_pos hk]
    refine (set_any h.at_ h.ok.1 hk v).mono ?_
    rintro e w' ⟨rfl, rfl⟩
    exact ⟨rfl, h.next (h.at_.setW h.ok.1 hk h.pq v) (Ma.set_ok h.ok k hv) (fj_p h (fr_setW w p k v)), fr_setW w p k v⟩
  · rw [Ma.setR, if_neg hk]
    have hk' : 32 ≤ k := by omega
    clear hk
    go_enter Tryd.func19, Tryd.ntmps19
    go_wp2
    go_end0
    exact ⟨rfl, h, Fr.refl _ _⟩
def U64s (w : World) (A : Option Addr) (ys : List Int) : Prop := (∀ v ∈ ys, 0 ≤ v ∧ v < 18446744073709551616) ∧ (0 < ys.length → ∃ g o, A = some ⟨g, o, none⟩ ∧ g < w.heap.size ∧ ∀ j, j < ys.length → w.cell? ⟨g, o + j, none⟩ = some (.int .u64 (ys.getD j 0)))
theorem U64s.below {w w' : World} {A : Option Addr} {ys : List Int} (h : U64s w A ys) (hb : Below w.heap.size w w') : U64s w' A ys :=
  ⟨h.1, fun h0 => by obtain ⟨g, o, e, hg, hr⟩ := h.2 h0; exact ⟨g, o, e, Nat.lt_of_lt_of_le hg hb.size, fun j hj => (hb.cell (p := ⟨g, o + j, none⟩) hg).trans (hr j hj)⟩⟩
theorem SrcIs.below {w w' : World} {A : Option Addr} {xs : List Int} (h : SrcIs w A xs) (hb : Below w.heap.size w w') : SrcIs w' A xs :=
  ⟨h.1, fun h0 => by obtain ⟨ib, off, e, hr⟩ := h.2 h0; subst e; exact ⟨ib, off, rfl, fun j hj => (hb.cell (p := ⟨ib, off + j, none⟩) (World.block_lt_of_cell? w _ (hr j hj))).trans (hr j hj)⟩⟩
theorem getD_u64 {ys : List Int} (h : ∀ v ∈ ys, 0 ≤ v ∧ v < 18446744073709551616) (j : Nat) : 0 ≤ ys.getD j 0 ∧ ys.getD j 0 < 18446744073709551616 := by
  by_cases hj : j < ys.length
  · have e : ys.getD j 0 = ys[j] := by simp [List.getD, hj]
    rw [e]; exact h _ (List.getElem_mem hj)
  · have e : ys.getD j 0 = 0 := by simp [List.getD, List.getElem?_eq_none (Nat.le_of_not_lt hj)]
    rw [e]; omega
theorem ks_new2 {w0 w : World} {A : Option Addr} {c N : Nat} {xs : List Int} (hN : xs.length ≤ N) (hN' : N ≤ 4194304) (hr : SrcIs w A xs) (hF : FormsIn w) (hO : OpsIn w) (hb : Below w0.heap.size w0 w) (h2 : 1 < w0.heap.size) {n : Int} (hn : n = N) :
    Calls Tryd.prog 8 #[.slice A xs.length c, .int .i64 n] w fun e w' => e = .returned (.tuple #[.pointer (some ⟨w.heap.size + 1, 0, none⟩), .int .i64 0]) ∧ Ks w0 w' (w.heap.size + 1) w.heap.size (maNew xs N) ∧ Below w.heap.size w w' ∧ w.heap.size + 2 ≤ w'.heap.size := by
  subst hn
  refine (new_any hN hN' hr).mono ?_
  rintro e w' ⟨rfl, hm, hb2⟩
  have := hb.size
  exact ⟨rfl, ⟨hm, maNew_ok hr.1 hN hN', hF.keep hb2 (Nat.le_refl _), hO.below hb2, hb.trans (hb2.mono hb.size), by omega, by omega, by omega, h2⟩, hb2, hm.lp⟩
theorem U64s.fr {w w' : World} {A : Option Addr} {ys : List Int} {S : List Nat} (h : U64s w A ys) (hf : Fr S w w') (hS : ∀ g ∈ S, w.heap.size ≤ g) : U64s w' A ys :=
  ⟨h.1, fun h0 => by obtain ⟨g, o, e, hg, hr⟩ := h.2 h0; exact ⟨g, o, e, Nat.lt_of_lt_of_le hg hf.size, fun j hj => (World.cell?_of_block (hf.block g hg (fun hm => by have := hS g hm; omega))).trans (hr j hj)⟩⟩
theorem row_fj {w w' : World} {p q g : Nat} {o : Obj} (h : w.heap[g]? = some o) (hf : Fj w.heap.size p q w w') (h1 : g ≠ p) (h2 : g ≠ q) : w'.heap[g]? = some o := (hf.fb.block g (lt_of_at h) (lt_of_at h) h1 h2).trans h
theorem own_bw {w w' : World} {B n s : Nat} {e : TypeId} {v : Value} {xs : List Value} (h : w.ownsRow B e s v n xs) (hf : Below w.heap.size w w') : w'.ownsRow B e s v n xs :=
  ownsRow_at2 h fun g cur hg hc => row_at hf (lt_of_at hc) hc
structure Kp (w X : World) (tb q0 q1 q2 : Nat) (a b : Nat) (m0 m1 m2 : Ma) : Prop where
  k0 : Ks w X (q0 + 1) q0 m0
  k1 : Ks w X (q1 + 1) q1 m1
  k2 : Ks w X (q2 + 1) q2 m2
  box : X.heap[tb]? = some (.cells #[.pointer (some ⟨q0 + 1, 0, none⟩), .pointer (some ⟨q1 + 1, 0, none⟩), .pointer (some ⟨q2 + 1, 0, none⟩)] 58)
  num : X.heap[w.heap.size]? = some (.cells #[.int .u8 a, .int .u8 b] 57)
  u01 : q0 + 1 < q1
  u12 : q1 + 1 < q2
  lt : w.heap.size < tb ∧ tb < q0
section
variable {w X X' : World} {tb q0 q1 q2 a b : Nat} {m0 m1 m2 m' : Ma}
theorem Kp.grow (h : Kp w X tb q0 q1 q2 a b m0 m1 m2) (hb : Below X.heap.size X X') : Kp w X' tb q0 q1 q2 a b m0 m1 m2 :=
  ⟨h.k0.grow hb, h.k1.grow hb, h.k2.grow hb, row_at hb (lt_of_at h.box) h.box, row_at hb (lt_of_at h.num) h.num, h.u01, h.u12, h.lt⟩
theorem Kp.c0 (h : Kp w X tb q0 q1 q2 a b m0 m1 m2) : X.cell? ⟨tb, 0, none⟩ = some (.pointer (some ⟨q0 + 1, 0, none⟩)) := by rw [cell_of_row _ _ 0 _ _ _ h.box]; rfl
theorem Kp.c1 (h : Kp w X tb q0 q1 q2 a b m0 m1 m2) : X.cell? ⟨tb, 1, none⟩ = some (.pointer (some ⟨q1 + 1, 0, none⟩)) := by rw [cell_of_row _ _ 1 _ _ _ h.box]; rfl
theorem Kp.c2 (h : Kp w X tb q0 q1 q2 a b m0 m1 m2) : X.cell? ⟨tb, 2, none⟩ = some (.pointer (some ⟨q2 + 1, 0, none⟩)) := by rw [cell_of_row _ _ 2 _ _ _ h.box]; rfl
theorem Kp.n0 (h : Kp w X tb q0 q1 q2 a b m0 m1 m2) : X.cell? ⟨w.heap.size, 0, none⟩ = some (.int .u8 a) := by rw [cell_of_row _ _ 0 _ _ _ h.num]; rfl
theorem Kp.n1 (h : Kp w X tb q0 q1 q2 a b m0 m1 m2) : X.cell? ⟨w.heap.size, 1, none⟩ = some (.int .u8 b) := by rw [cell_of_row _ _ 1 _ _ _ h.num]; rfl
end
theorem ks_far {w0 w w' : World} {p q s : Nat} {m : Ma} (h : Ks w0 w p q m) (hs : w0.heap.size ≤ s) (hp : s ≠ p ∧ s ≠ q) (hf : Fr [s] w w') : Ks w0 w' p q m := by
  have two := h.two
  refine ⟨h.at_.keep hf (by simp; omega) (by simp; omega), h.ok, ?_, ?_, h.below.trans ⟨hf.os, hf.tape, hf.output, hf.size, fun k hk => ?_⟩, h.pq, h.lp, h.lq, h.two⟩
  · refine ⟨Nat.lt_of_lt_of_le h.forms.1 hf.size, fun j v hv => (World.cell?_of_block (hf.block 1 h.forms.1 ?_)).trans (h.forms.2 j v hv)⟩
    simp only [List.mem_cons, List.not_mem_nil, or_false]
    show (1 : Nat) ≠ s
    omega
  · intro o a b
    refine (World.cell?_of_block (hf.block 0 (World.block_lt_of_cell? w _ (h.ops o a b)) ?_)).trans (h.ops o a b)
    simp only [List.mem_cons, List.not_mem_nil, or_false]
    show (0 : Nat) ≠ s
    omega
  · have := h.below.size
    exact hf.block k (by omega) (by simp; omega)
theorem fr_setRow (w : World) (b : Nat) (cs : Array Value) : Fr [b] w (w.setRow b cs) := ⟨rfl, rfl, rfl, by simp [World.setRow], fun k _ hk => setRow_other _ _ _ _ (by simpa using hk)⟩
theorem setN_ok {m : Ma} {ys : List Int} (hm : m.ok) (hr : ∀ v ∈ ys, 0 ≤ v ∧ v < 18446744073709551616) (n : Nat) : (setN m ys n).ok := by
  induction n with
  | zero => exact hm
  | succ n ih =>
    unfold setN Ma.setR
    split
    · exact Ma.set_ok ih n (getD_u64 hr n)
    · exact ih
theorem set_mem (m : Ma) (k : Nat) (v : Int) : (m.set k v).mem = m.mem ∧ (m.set k v).st = m.st := by unfold Ma.set; split <;> exact ⟨rfl, rfl⟩
theorem setN_mem (m : Ma) (ys : List Int) (n : Nat) : (setN m ys n).mem = m.mem ∧ (setN m ys n).st = m.st := by
  induction n with
  | zero => exact ⟨rfl, rfl⟩
  | succ n ih =>
    unfold setN Ma.setR
    split
    · exact ⟨(set_mem _ _ _).1.trans ih.1, (set_mem _ _ _).2.trans ih.2⟩
    · exact ih
structure LS (w0 w wr : World) (p q q2 : Nat) (m : Ma) (ys : List Int) (i : Nat) : Prop where
  ks : Ks w0 wr p q (setN m ys i)
  b0 : wr.heap[w.heap.size]? = some (.cells (mcs (setN m ys i) q2) 34)
  b1 : ∃ old : Array Value, old.size = 36 ∧ wr.heap[w.heap.size + 1]? = some (.cells old 34)
  fr : Fr [p] w wr
theorem ls_set {w0 w wr w3 : World} {p q q2 i : Nat} {m : Ma} {ys : List Int} (h : LS w0 w wr p q q2 m ys i) (hk : Ks w0 w3 p q (setN m ys (i + 1))) (hf : Fr [p] wr w3) (hp : p < w.heap.size ∧ q < w.heap.size) (hi : 0 < i ∧ i < 32) :
    LS w0 w (w3.setCell ⟨w.heap.size, 1 + i, none⟩ (.int .u64 (ys.getD i 0))) p q q2 m ys (i + 1) := by
  obtain ⟨o, z, h1⟩ := h.b1
  have k0 := hf.at_ h.b0 (by simp; omega)
  have k1 := hf.at_ h1 (by simp; omega)
  have fs : Fr [w.heap.size] w3 (w3.setCell ⟨w.heap.size, 1 + i, none⟩ (.int .u64 (ys.getD i 0))) := Fr.set _ _ _ _ (by simp)
  have hw0 : w0.heap.size ≤ w.heap.size := by have := h.ks.lp; omega
  refine ⟨ks_far hk hw0 (by omega) fs, ?_, ⟨o, z, fs.at_ k1 (by simp)⟩, ?_⟩
  · rw [heap_setCell_same _ _ _ _ _ _ k0, mcs_setX h.ks.ok.1 q2 hi.2]
    have : setN m ys (i + 1) = { setN m ys i with x := (setN m ys i).x.set i (ys.getD i 0) } := by
      show (setN m ys i).setR i (ys.getD i 0) = _
      unfold Ma.setR Ma.set
      rw [if_pos hi.2, if_pos hi.1]
    rw [this]
  · have hft := h.fr.trans hf
    exact ⟨fs.os.trans hft.os, fs.tape.trans hft.tape, fs.output.trans hft.output, Nat.le_trans hft.size fs.size, fun k hk hs => (fs.block k (Nat.lt_of_lt_of_le hk hft.size) (by simp; omega)).trans (hft.block k hk hs)⟩
theorem ls_not {w0 w wr w3 : World} {p q q2 i : Nat} {m : Ma} {ys : List Int} (h : LS w0 w wr p q q2 m ys i) (hk : Ks w0 w3 p q (setN m ys (i + 1))) (hf : Fr [p] wr w3) (hp : p < w.heap.size ∧ q < w.heap.size) (hi : ¬ (0 < i ∧ i < 32)) :
    LS w0 w w3 p q q2 m ys (i + 1) := by
  obtain ⟨o, z, h1⟩ := h.b1
  have e : setN m ys (i + 1) = setN m ys i := by
    show (setN m ys i).setR i (ys.getD i 0) = _
    unfold Ma.setR Ma.set
    by_cases h1 : i < 32
    · rw [if_pos h1, if_neg (by omega)]
    · rw [if_neg h1]
  exact ⟨hk, by rw [e]; exact hf.at_ h.b0 (by simp; omega), ⟨o, z, hf.at_ h1 (by simp; omega)⟩, h.fr.trans hf⟩
set_option maxHeartbeats 3000000 in
theorem lset_any {w0 w : World} {p q q2 n : Nat} {m : Ma} {A : Option Addr} {c : Nat} {ys : List Int} (hk : Ks w0 w p q m) (hr : ∀ v ∈ ys, 0 ≤ v ∧ v < 18446744073709551616) (hl : ys.length ≤ 40) (hn : n = ys.length)
    (hA : 0 < ys.length → ∃ g o, A = some ⟨g, o, none⟩ ∧ g < w.heap.size ∧ g ≠ p ∧ ∀ j, j < ys.length → w.cell? ⟨g, o + j, none⟩ = some (.int .u64 (ys.getD j 0))) :
    Calls Tryd.prog 10 #[.pointer (some ⟨p, 0, none⟩), .agg (mcs m q2), .slice A n c] w fun e w' => e = .returned (.agg (mcs (setN m ys ys.length) q2)) ∧ Ks w0 w' p q (setN m ys ys.length) ∧ Fr [p] w w' := by
  subst hn
  have hz := mcs_size hk.ok.1 q2
  have hp : p < w.heap.size ∧ q < w.heap.size := ⟨hk.at_.lp, hk.at_.lq⟩
  have H0 : Hid (∀ Z : Array Value, Z.size = 36 → LS w0 w ((w.alloc (Obj.cells (mcs m q2) 34)).alloc (Obj.cells Z 34)) p q q2 m ys 0) := Lib.hid fun Z hZ => by
    have hb := bw_alloc (bw_alloc (Below.refl w.heap.size w) (Obj.cells (mcs m q2) 34)) (Obj.cells Z 34)
    exact ⟨hk.grow hb, aa0 _ _ _, ⟨Z, hZ, aa1 _ _ _⟩, ⟨hb.os, hb.tape, hb.output, hb.size, fun k hk _ => hb.block k hk⟩⟩
  have HR := Lib.hid hr
  have HA := Lib.hid hA
  have HSZ := Lib.hid (fun i => mcs_size (setN_ok (ys := ys) hk.ok hr i).1 q2)
  clear hk hr hA
  generalize hcs : mcs m q2 = cs at *
  clear hcs
  go_enter Tryd.func10, Tryd.ntmps10
  go_wp2_with fail
  go_loopw [11] (fun k wr => ∃ i : Nat, i ≤ ys.length ∧ k = .int .i64 i ∧ LS w0 w wr p q q2 m ys i) (fun k _ => ys.length - (intOf k).toNat)
  case atStart => exact ⟨0, Nat.zero_le _, rfl, H0.out _ rfl⟩
  case round =>
    obtain ⟨i, hi, rfl, hls⟩ := hrel
    by_cases hlt : i < ys.length
    · obtain ⟨g, o, rfl, hg, hgp, hc⟩ := HA.out (by omega)
      have hc1 : wr.cell? ⟨g, o + i, none⟩ = some (.int .u64 (ys.getD i 0)) := (World.cell?_of_block (hls.fr.block g hg (by simp; omega))).trans (hc i hlt)
      have hS := Lib.hid (ks_setR hls.ks i (ys.getD i 0) (getD_u64 HR.out i))
      have hsn : (setN m ys i).setR i (ys.getD i 0) = setN m ys (i + 1) := rfl
      rw [hsn] at hS
      have HLS := Lib.hid hls
      have hwk : IntKind.i64.wrap (i : Int) = i := IntWalk.i64_in _ (by omega)
      clear hls hsn hc
      generalize hv : ys.getD i 0 = v at *
      go_wp2_with fail
      with_reducible refine hS.out.mono ?_
      rintro e w4 ⟨rfl, k4, f4⟩
      have K4 := Lib.hid k4; have F4 := Lib.hid f4
      have r0 := f4.at_ HLS.out.b0 (by simp; omega)
      have hcc : i < 32 → w4.cell? ⟨w.heap.size, 1 + i, none⟩ = some (.int .u64 ((setN m ys i).x.getD i 0)) := fun h => by
        rw [cell_of_row _ _ (1 + i) _ _ _ r0]; exact mcs_x HLS.out.ks.ok.1 q2 h
      have hff : w4.frozen? ⟨w.heap.size, 1 + i, none⟩ = false := frozen_of_row _ _ (1 + i) _ _ r0
      clear k4 f4 r0
      by_cases h0 : 0 < i
      · have d0 : decide (0 < (i : Int)) = true := decide_eq_true (by omega)
        by_cases h32 : i < 32
        · have d32 : decide ((i : Int) < 32) = true := decide_eq_true (by omega)
          have hcx := hcc h32
          have HN := Lib.hid (ls_set HLS.out K4.out F4.out hp ⟨h0, h32⟩)
          rw [hv] at HN
          clear hcc
          generalize (setN m ys i).x.getD i 0 = old at *
          go_wp2_with fail
          go_roundw
          case rel => exact ⟨i + 1, by omega, by go_num, HN.out⟩
          case measure => simp [intOf]; omega
        · have d32 : decide ((i : Int) < 32) = false := decide_eq_false (by omega)
          have HN := Lib.hid (ls_not HLS.out K4.out F4.out hp (by omega))
          clear hcc
          go_wp2_with fail
          go_roundw
          case rel => exact ⟨i + 1, by omega, by go_num, HN.out⟩
          case measure => simp [intOf]; omega
      · have d0 : decide (0 < (i : Int)) = false := decide_eq_false (by omega)
        have HN := Lib.hid (ls_not HLS.out K4.out F4.out hp (by omega))
        clear hcc
        go_wp2_with fail
        go_roundw
        case rel => exact ⟨i + 1, by omega, by go_num, HN.out⟩
        case measure => simp [intOf]; omega
    · obtain rfl : i = ys.length := by omega
      obtain ⟨o1, z1, r1⟩ := hls.b1
      have r0 := Lib.hid hls.b0
      have HLS := Lib.hid hls
      have hz1 := HSZ.out ys.length
      have ha1 := mcs_all (setN m ys ys.length) q2
      have R1 := Lib.hid r1
      clear hls r1
      generalize hce : mcs (setN m ys ys.length) q2 = ce at *
      have HCE := Lib.hid hce
      have HZ1 := Lib.hid hz1
      clear hce hz1
      go_wp2_with (first
        | ((with_reducible refine ld36 w.heap.size ce ?_ ?_ HZ1.out ?_); rfl; exact r0.out)
        | ((with_reducible refine st36 (w.heap.size + 1) ce o1 ?_ ?_ R1.out z1 HZ1.out ha1 ?_); rfl; rfl)
        | fail)
      refine bodyPost_ret (v := .agg ce) ?_ rfl ⟨by rw [HCE.out], ?_, ?_⟩
      · exact results_cell_row Tryd.results10 _ _ (w.heap.size + 1) 34 ce (0, 0) _ rfl (setRow_heap _ _ _ _ _ _ R1.out) Tryd.underlying34 rfl (by rw [HZ1.out]; exact szMach)
      · exact ks_far HLS.out.ks (by have := HLS.out.ks.lp; omega) (by omega) (fr_setRow _ _ _)
      · have fs := fr_setRow wr (w.heap.size + 1) ce
        have hft := HLS.out.fr
        exact ⟨fs.os.trans hft.os, fs.tape.trans hft.tape, fs.output.trans hft.output, Nat.le_trans hft.size fs.size, fun k hk hs => (fs.block k (Nat.lt_of_lt_of_le hk hft.size) (by simp; omega)).trans (hft.block k hk hs)⟩
end Go.Proofs.YtppcbommaddkgaaDoor
namespace Go.Proofs.YtppcbommaddkgaaDoor
open Go.RowKit
set_option linter.unusedVariables false
set_option linter.unusedSimpArgs false
set_option maxRecDepth 10000
open Pm Pc
theorem rtc {P : Program} {fn : Func} {p u : Tmp} {ty : TypeId} (h : fn.results = #[.cell p ty, .tmp u]) (tmps : Array Value) (w : World) (g : Nat) (t : TypeId) (cs : Array Value) (fr : Nat × Nat) (d : TypeDesc) (v : Value)
    (hp : tmps.getD p undef = .pointer (some ⟨g, 0, none⟩)) (hv : tmps.getD u undef = v) (hg : w.heap[g]? = some (.cells cs t fr))
    (hu : P.underlying ty = some d) (hd : (match d with | .struct _ | .array _ _ => true | _ => false) = true) (hi : (P.info? ty).map (·.size) = some cs.size) :
    (results fn tmps).run P w = .ok (.tuple #[.agg cs, v]) w := by
  rw [results_cell_tmp h]
  simp [hp, hv, asAddr, run_loadVar_row w g t ty cs fr d hg hu hd hi, Result.andThen]
def newC (A : Option Addr) (N : Nat) : Array Value := (Value.slice A N N :: (u64s (List.replicate 32 0) ++ [.int .u64 0, .int .i64 0, .int .u8 0])).toArray
theorem newC_size (A : Option Addr) (N : Nat) : (newC A N).size = 36 := rfl
theorem newC_all (A : Option Addr) (N : Nat) : (newC A N).all (·.oneCell') = true := by simp [newC, u64s, Value.oneCell']
theorem newC_mcs {xs : List Int} {N : Nat} (hN : xs.length ≤ N) (q : Nat) : newC (some ⟨q, 0, none⟩) N = mcs (maNew xs N) q := by
  unfold newC mcs Ma.cells
  rw [maNew_len hN]
  rfl
theorem bd36 {ops : Array Oper} {rest : List Oper} {Q : Exit → Act → World → Prop} {a : Act} {w : World} {dst : Option Tmp} {ty : TypeId} {pos : String} {af : Array Edge} {parts : Array (Nat × Operand)} (l : List (Nat × Value)) (cs : Array Value)
    (hb : Tryd.prog.built 34 l = some cs) (hl : (parts.toList.map fun (i, x) => (i, a.eval x)) = l) (h : wpList Tryd.prog ops Q rest (a.put dst (.agg cs)) w) : wpList Tryd.prog ops Q (⟨dst, .build 34 parts, ty, pos, af, none⟩ :: rest) a w := by
  subst hl
  exact wpList_buildTo rfl 34 parts rfl dst rfl cs (by rw [Array.toList_map]; exact hb) h
section
variable (w : World) (a b c : Obj)
theorem a3_0 : (((w.alloc a).alloc b).alloc c).heap[w.heap.size]? = some a := by
  rw [Below.heap_alloc _ _ _ (by simp; omega)]; exact aa0 w a b
theorem a3_1 : (((w.alloc a).alloc b).alloc c).heap[w.heap.size + 1]? = some b := by
  have := aa0 (w.alloc a) b c
  simpa using this
theorem a3_2 : (((w.alloc a).alloc b).alloc c).heap[w.heap.size + 2]? = some c := by
  have := aa1 (w.alloc a) b c
  simpa using this
end
def inK (xs : List Int) (N j : Nat) : List Int := xs.take j ++ List.replicate (N - j) 0
theorem inK_0 (xs : List Int) (N : Nat) : inK xs N 0 = List.replicate N 0 := by simp [inK]
theorem inK_len {xs : List Int} {N j : Nat} (h : xs.length ≤ N) (hj : j ≤ xs.length) : (inK xs N j).length = N := by simp [inK]; omega
theorem inK_end (xs : List Int) (N : Nat) : inK xs N xs.length = (maNew xs N).mem := by simp [inK, maNew]
theorem inK_step {xs : List Int} {N j : Nat} (h : xs.length ≤ N) (hj : j < xs.length) : (inK xs N j).set j (xs.getD j 0) = inK xs N (j + 1) := by
  apply List.ext_getElem
  · rw [List.length_set, inK_len h (by omega), inK_len h (by omega)]
  · intro i h1 h2
    simp only [inK, List.getElem_set, List.getElem_append, List.length_take, List.getElem_take, List.getElem_replicate]
    have e : xs.getD j 0 = xs[j] := by simp [List.getD, hj]
    by_cases hij : j = i
    · subst hij
      rw [if_pos rfl, e, dif_pos (by omega)]
    · rw [if_neg hij]
      split <;> split <;> first | rfl | omega
set_option maxHeartbeats 2000000 in
theorem rnew_any {w : World} {A : Option Addr} {c N : Nat} {xs : List Int} (hN : xs.length ≤ N) (hN' : N ≤ 4194304) (hr : SrcIs w A xs) :
    Calls Tryd.prog 9 #[.slice A xs.length c, .int .i64 N] w fun e w' => e = .returned (.tuple #[.agg (mcs (maNew xs N) (w.heap.size + 1)), .bool true]) ∧ w'.heap[w.heap.size + 1]? = some (.cells (u8s (maNew xs N).mem).toArray 5) ∧ Below w.heap.size w w' := by
  have hmk := run_make_row' (P := Tryd.prog) 22 5 (.int .u8 0) 1 Tryd.underlying22 (by kernel_rfl) rfl .i64 .i64 N (by omega) (by omega)
  rw [made_u8] at hmk
  have hb : Tryd.prog.built 34 [(0, .slice (some ⟨w.heap.size + 1, 0, none⟩) N N)] = some (newC (some ⟨w.heap.size + 1, 0, none⟩) N) := by kernel_rfl
  have hz := Lib.hid (newC_size (some ⟨w.heap.size + 1, 0, none⟩) N)
  have ha := newC_all (some ⟨w.heap.size + 1, 0, none⟩) N
  have hc0 : (newC (some ⟨w.heap.size + 1, 0, none⟩) N)[0]? = some (.slice (some ⟨w.heap.size + 1, 0, none⟩) N N) := rfl
  rw [← newC_mcs hN]
  have H := Lib.hid hr.2
  generalize newC (some ⟨w.heap.size + 1, 0, none⟩) N = Z at *
  have HB := Lib.hid hb
  clear hb hr
  go_enter Tryd.func9, Tryd.ntmps9
  go_wp2_with (first
    | ((with_reducible refine bd36 _ Z HB.out ?_ ?_); rfl)
    | ((with_reducible refine st36n (w.heap.size + 2) Z ?_ ?_ ?_ ?_ hz.out ha ?_); simp; rfl; rfl; rfl))
  have g0 := a3_0 w
  have g1 := a3_1 w
  have g2 := a3_2 w
  have gb : ∀ a b c : Obj, Below w.heap.size w (((w.alloc a).alloc b).alloc c) := fun a b c => bw_alloc (bw_alloc (bw_alloc (Below.refl _ _) _) _) _
  have G0 := Lib.hid g0; have G1 := Lib.hid g1; have G2 := Lib.hid g2; have GB := Lib.hid gb
  clear g0 g1 g2 gb
  go_loopw [22] (fun k wr => ∃ j : Nat, j ≤ xs.length ∧ k = .int .i64 j ∧ wr.heap[w.heap.size + 1]? = some (.cells (u8s (inK xs N j)).toArray 5) ∧ wr.heap[w.heap.size + 2]? = some (.cells Z 34) ∧ (∃ old : Array Value, old.size = 36 ∧ wr.heap[w.heap.size]? = some (.cells old 34)) ∧ Below w.heap.size w wr) (fun k _ => xs.length - (intOf k).toNat)
  case atStart => exact ⟨0, Nat.zero_le _, rfl, by rw [inK_0]; exact G1.out _ _ _, G2.out _ _ _, ⟨_, rfl, G0.out _ _ _⟩, GB.out _ _ _⟩
  case round =>
    obtain ⟨j, hj, rfl, hm, hzr, ⟨old, ho, hold⟩, hb⟩ := hrel
    by_cases hlt : j < xs.length
    · obtain ⟨ib, off, rfl, hsrc⟩ := H.out (by omega)
      have hib : ib < w.heap.size := World.block_lt_of_cell? w _ (hsrc 0 (by omega))
      have c0 : wr.cell? ⟨w.heap.size + 2, 0, none⟩ = some (.slice (some ⟨w.heap.size + 1, 0, none⟩) N N) := by rw [cell_of_row _ _ 0 _ _ _ hzr]; exact hc0
      have c1 : wr.cell? ⟨ib, off + j, none⟩ = some (.int .u8 (xs.getD j 0)) := (hb.cell (p := ⟨ib, off + j, none⟩) hib).trans (hsrc j hlt)
      have c2 : wr.cell? ⟨w.heap.size + 1, j, none⟩ = some (.int .u8 ((inK xs N j).getD j 0)) := by rw [cell_of_row _ _ j _ _ _ hm]; exact u8s_at _ _ (by rw [inK_len hN hj]; omega)
      have f2 : wr.frozen? ⟨w.heap.size + 1, j, none⟩ = false := frozen_of_row _ _ j _ _ hm
      have hst := inK_step hN hlt
      have hjN : j < N := by omega
      generalize (inK xs N j).getD j 0 = ov at *
      generalize xs.getD j 0 = xv at *
      have HM := Lib.hid hm; have HZ := Lib.hid hzr; have HO := Lib.hid hold; have HBL := Lib.hid hb; have HS := Lib.hid hst
      clear hm hzr hold hb hst hsrc
      go_wp2_with fail
      go_still_tail 8, (by kernel_rfl)
      change wpList _ _ _ _ _ wr.drew
      go_wp2
      go_roundw
      case rel =>
        refine ⟨j + 1, by omega, by go_num, ?_, ?_, ⟨old, ho, ?_⟩, ?_⟩
        · show (wr.setCell ⟨w.heap.size + 1, j, none⟩ (.int .u8 xv)).heap[w.heap.size + 1]? = _
          rw [heap_setCell_same _ _ _ _ _ _ HM.out, u8s_set, HS.out]
        · exact (Below.heap_setCell _ _ _ _ (by simp)).trans HZ.out
        · exact (Below.heap_setCell _ _ _ _ (by simp)).trans HO.out
        · exact (HBL.out.setCell (by simp) _).drew
      case measure => simp [intOf]; omega
    · obtain rfl : j = xs.length := by omega
      rw [inK_end] at hm
      have HM := Lib.hid hm; have HZ := Lib.hid hzr; have HO := Lib.hid hold; have HBL := Lib.hid hb
      clear hm hzr hold hb
      go_wp2_with (first
        | ((with_reducible refine ld36 (w.heap.size + 2) Z ?_ ?_ hz.out ?_); rfl; exact HZ.out)
        | ((with_reducible refine st36 w.heap.size Z old ?_ ?_ ?_ ho hz.out ha ?_); rfl; rfl; exact HO.out))
      exact bodyPost_ret (v := .tuple #[.agg Z, .bool true]) (rtc Tryd.results9 _ _ w.heap.size 34 _ (0, 0) _ _ rfl rfl (setRow_heap _ _ _ _ _ _ HO.out) Tryd.underlying34 rfl (by rw [hz.out]; exact szMach)) rfl
        ⟨rfl, (setRow_other _ _ _ _ (by omega)).trans HM.out, bw_setRow HBL.out (Nat.le_refl _) _⟩
end Go.Proofs.YtppcbommaddkgaaDoor
namespace Go.Proofs.YtppcbommaddkgaaDoor
open Go.RowKit
set_option linter.unusedVariables false
set_option linter.unusedSimpArgs false
set_option maxRecDepth 10000
open Pm Pc
set_option maxHeartbeats 1000000 in
theorem peek_no {w : World} {p N : Nat} {A : Option Addr} (a n : Int) (hx : w.cell? ⟨p, 0, none⟩ = some (.slice A N N)) (hN : N ≤ 4194304) (h : a < 0 ∨ (0 ≤ n ∧ n ≤ 8388608 ∧ (N : Int) < a + n)) (ha : a ≤ 8388608) :
    Calls Tryd.prog 25 #[.pointer (some ⟨p, 0, none⟩), .int .i64 a, .int .i64 n] w fun e w' => e = .returned (.tuple #[.slice none 0 0, .int .i64 1]) ∧ w' = w := by
  by_cases h1 : a < 0
  all_goals
    go_enter Tryd.func25, Tryd.ntmps25
    go_wp2_with fail
    go_ret2
    exact ⟨rfl, rfl⟩
set_option maxHeartbeats 1000000 in
theorem peek_0 {w : World} {p : Nat} {A : Option Addr} (hx : w.cell? ⟨p, 0, none⟩ = some (.slice A 0 0)) :
    Calls Tryd.prog 25 #[.pointer (some ⟨p, 0, none⟩), .int .i64 0, .int .i64 0] w fun e w' => e = .returned (.tuple #[.slice (some ⟨w.heap.size, 0, none⟩) 0 0, .int .i64 0]) ∧ Below w.heap.size w w' := by
  have lp := World.block_lt_of_cell? w _ hx
  simp only at lp
  have hmk : ∀ w : World, (Instr.makeSlice 22 (.int .i64 0) (.int .i64 0)).run Tryd.prog w = .ok (.slice (some ⟨w.heap.size, 0, none⟩) 0 0) (w.alloc (.cells (madeCells #[.int .u8 0] 0) 5)) := run_make_row' (P := Tryd.prog) 22 5 (.int .u8 0) 1 Tryd.underlying22 (by kernel_rfl) rfl .i64 .i64 0 (by omega) (by omega)
  go_enter Tryd.func25, Tryd.ntmps25
  go_wp2_with (refine wpList_copy_nothing (o := ⟨some 35, _, _, _, _, _⟩) rfl (.tmp 28) (.tmp 34) 22 22 rfl 5 Tryd.underlying22 (by kernel_rfl) (some ⟨w.heap.size, 0, none⟩) A 0 0 0 0 rfl rfl (by simp) ?_)
  go_ret2
  exact ⟨rfl, (Below.refl _ _).alloc (Nat.le_refl _) _⟩
theorem place_any {w : World} {p : Nat} {v : Int} (c : w.cell? ⟨p, 33, none⟩ = some (.int .u64 v)) : Calls Tryd.prog 20 #[.pointer (some ⟨p, 0, none⟩)] w fun e w' => e = .returned (.int .u64 v) ∧ w = w' := by
  go_enter Tryd.func20, Tryd.ntmps20
  go_wp2
  go_ret
  exact ⟨rfl, rfl⟩
def PeekAll (w : World) (l : List Int) (e : Ending) (w' : World) : Prop := ∃ A c, e = .returned (.tuple #[.slice A l.length c, .int .i64 0]) ∧ (0 < l.length → ∃ g o, A = some ⟨g, o, none⟩ ∧ ∀ j, j < l.length → w'.cell? ⟨g, o + j, none⟩ = some (.int .u8 (l.getD j 0))) ∧ Below w.heap.size w w'
def Reads (w : World) (p : Nat) (m : Ma) : Prop := (∀ k, k < 32 → w.cell? ⟨p, 1 + k, none⟩ = some (.int .u64 (m.x.getD k 0))) ∧ w.cell? ⟨p, 33, none⟩ = some (.int .u64 m.pl) ∧ ∃ A, w.cell? ⟨p, 0, none⟩ = some (.slice A m.mem.length m.mem.length)
set_option maxHeartbeats 4000000 in
theorem tells_any {w : World} {p q' : Nat} {m : Ma} (hx : m.x.length = 32) (hN : m.mem.length ≤ 4194304) (hm : Reads w p m) (hp : p < w.heap.size) (hq : q' < w.heap.size) (hr : w.heap[q']? = some (.cells (u8s m.mem).toArray 5))
    (hpk : ∀ W : World, Below w.heap.size w W → Calls Tryd.prog 25 #[.pointer (some ⟨p, 0, none⟩), .int .i64 0, .int .i64 (m.mem.length : Nat)] W (PeekAll W m.mem)) :
    Calls Tryd.prog 14 #[.pointer (some ⟨p, 0, none⟩), .agg (mcs m q')] w fun e w' => e = .returned (.bool true) ∧ Below w.heap.size w w' := by
  have b0 : Below w.heap.size w (w.alloc (Obj.cells (mcs m q') 34)) := bw_alloc (Below.refl _ _) _
  have bx : Hid (∀ k, k < 32 → (w.alloc (Obj.cells (mcs m q') 34)).cell? ⟨w.heap.size, 1 + k, none⟩ = some (.int .u64 (m.x.getD k 0))) := Lib.hid fun k hk => by rw [cell_of_row _ _ (1 + k) _ _ _ (heap_alloc_new w _)]; exact mcs_x hx q' hk
  have b33 : (w.alloc (Obj.cells (mcs m q') 34)).cell? ⟨w.heap.size, 33, none⟩ = some (.int .u64 m.pl) := by rw [cell_of_row _ _ 33 _ _ _ (heap_alloc_new w _)]; exact mcs_33 hx q'
  have bm : (w.alloc (Obj.cells (mcs m q') 34)).cell? ⟨w.heap.size, 0, none⟩ = some (.slice (some ⟨q', 0, none⟩) m.mem.length m.mem.length) := by rw [cell_of_row _ _ 0 _ _ _ (heap_alloc_new w _)]; exact mcs_0 m q'
  have bs : w.heap.size < (w.alloc (Obj.cells (mcs m q') 34)).heap.size := by simp
  have hz := mcs_size hx q'
  generalize mcs m q' = cs at *
  have hx0 : Hid (∀ k, k < 32 → (w.alloc (Obj.cells cs 34)).cell? ⟨p, 1 + k, none⟩ = some (.int .u64 (m.x.getD k 0))) := Lib.hid fun k hk => (b0.cell (p := ⟨p, 1 + k, none⟩) hp).trans (hm.1 k hk)
  have hpl := (b0.cell (p := ⟨p, 33, none⟩) hp).trans hm.2.1
  obtain ⟨PA, hpa⟩ := hm.2.2
  have hpa := (b0.cell (p := ⟨p, 0, none⟩) hp).trans hpa
  have hq0 := row_at b0 hq hr
  have HB := Lib.hid b0; have HK := Lib.hid hpk; have HZ := Lib.hid hz; have HQ := Lib.hid hq0; have HS := Lib.hid bs
  clear hm hr hpk b0 hz hq0 bs
  go_enter Tryd.func14, Tryd.ntmps14
  go_wp2_with fail
  generalize w.alloc (Obj.cells cs 34) = W at *
  go_loop [5] (fun k => ∃ r : Int, -1 ≤ r ∧ r ≤ 33 ∧ k = .int .i64 r) (fun k => (33 - intOf k).toNat)
  case atStart => exact ⟨-1, by omega, by omega, rfl⟩
  case round =>
    obtain ⟨r, hr0, hr1, rfl⟩ := hrel
    by_cases h33 : r = 33
    · subst h33
      go_wp2_with fail
      refine (HK.out W HB.out).mono ?_
      rintro e w2 ⟨A2, c2, rfl, hin, b2⟩
      have hpW : p < W.heap.size := Nat.lt_of_lt_of_le hp HB.out.size
      have cb0 := (b2.cell (p := ⟨w.heap.size, 0, none⟩) HS.out).trans bm
      have cb33 := (b2.cell (p := ⟨w.heap.size, 33, none⟩) HS.out).trans b33
      have cp0 := (b2.cell (p := ⟨p, 0, none⟩) hpW).trans hpa
      have cp33 := (b2.cell (p := ⟨p, 33, none⟩) hpW).trans hpl
      have cq := row_at b2 (Nat.lt_of_lt_of_le hq HB.out.size) HQ.out
      have s1 : ∀ k, (convert 22 9 (.slice A2 m.mem.length c2)).run Tryd.prog (w2.drewN k) = .ok (.string (strOfNums m.mem)) (w2.drewN k) := fun k => conv_in (w := w2.drewN k) hin
      have s2 : ∀ k, (convert 22 9 (.slice (some ⟨q', 0, none⟩) m.mem.length m.mem.length)).run Tryd.prog (w2.drewN k) = .ok (.string (strOfNums m.mem)) (w2.drewN k) := fun k => conv_in (w := w2.drewN k) fun h0 => ⟨q', 0, rfl, fun j hj => by
        rw [Nat.zero_add, cell_of_row _ _ j _ _ _ (show (w2.drewN k).heap[q']? = _ from cq)]; exact u8s_at _ _ hj⟩
      have HB2 := Lib.hid (HB.out.trans (b2.mono HB.out.size))
      clear bx hx0 b33 bm hpl hpa HB HQ HS hpW hin b2 cq HK
      generalize strOfNums m.mem = S at *
      generalize m.pl = PL at *
      generalize m.mem.length = N at *
      have hP : ∀ k, Calls Tryd.prog 20 #[.pointer (some ⟨p, 0, none⟩)] (w2.drewN k) fun e w' => e = .returned (.int .u64 PL) ∧ w2.drewN k = w' := fun k => place_any cp33
      have HP := Lib.hid hP
      clear hP
      have K1 := Lib.hid (peek_no 0 ((N : Int) + 1) cp0 hN (by omega) (by omega))
      have K2 := Lib.hid (peek_no (-1) 1 cp0 hN (by omega) (by omega))
      go_wp2_with fail
      with_reducible refine K1.out.mono ?_
      rintro e w3 ⟨rfl, rfl⟩
      go_wp2_with fail
      with_reducible refine K2.out.mono ?_
      rintro e w3 ⟨rfl, rfl⟩
      go_wp2_with fail
      go_quiet (with_reducible refine (HP.out _).mono ?_; rintro e w9 ⟨rfl, rfl⟩; exact ⟨rfl, _, rfl⟩)
      go_wp2
      go_ret
      exact ⟨rfl, HB2.out.os, HB2.out.tape, HB2.out.output, HB2.out.size, HB2.out.block⟩
    · by_cases hin : 0 ≤ r ∧ r < 32
      · obtain ⟨k, rfl⟩ := Int.eq_ofNat_of_zero_le hin.1
        have hk : k < 32 := by omega
        have e1 := bx.out k hk
        have e2 := hx0.out k hk
        generalize m.x.getD k 0 = v at *
        go_wp2_with (go_at_call 24; refine (reg_in p k _ _ hk e2).mono ?_; rintro e w1 ⟨rfl, rfl⟩)
        go_round
        case rel => exact ⟨(k : Int) + 1, by omega, by omega, by go_num⟩
        case measure => first | (simp [intOf]; done) | (simp [intOf]; omega)
      · have hd : (decide (0 ≤ r) && decide (r < 32)) = false := by simp; omega
        have hro : r < 0 ∨ 32 ≤ r := by omega
        rcases hro with hro | hro
        all_goals
          go_wp2_with (go_at_call 24; refine (reg_out p r _ (by omega)).mono ?_; rintro e w1 ⟨rfl, rfl⟩)
          go_round
          case rel => exact ⟨r + 1, by omega, by omega, by go_num⟩
          case measure => first | (simp [intOf]; done) | (simp [intOf]; omega)
theorem ld36g {ops : Array Oper} {rest : List Oper} {Q : Exit → Act → World → Prop} {a : Act} {w : World} {dst : Option Tmp} {ty : TypeId} {pos : String} {af : Array Edge} {gd : Option (Nat × Bool)} {x : Operand} (g : Nat) (cs : Array Value)
    (hw : Region.wanted ⟨dst, .load 34 x, ty, pos, af, gd⟩ (yielded ops a.tmps) = true) (hx : a.eval x = .pointer (some ⟨g, 0, none⟩)) (hg : w.heap[g]? = some (.cells cs 34)) (hz : cs.size = 36) (h : wpList Tryd.prog ops Q rest (a.put dst (.agg cs)) w) : wpList Tryd.prog ops Q (⟨dst, .load 34 x, ty, pos, af, gd⟩ :: rest) a w :=
  wpList_step fun K hK => by rw [if_pos hw]; exact wp_load_row _ x rfl g hx _ cs (0, 0) _ hg Tryd.underlying34 rfl (by rw [hz]; exact szMach) (hK _ _ h)
theorem peek_all {w : World} {p q : Nat} {m : Ma} (hm : MachAt w p q m) (hok : m.ok) : Calls Tryd.prog 25 #[.pointer (some ⟨p, 0, none⟩), .int .i64 0, .int .i64 (m.mem.length : Nat)] w (PeekAll w m.mem) := by
  by_cases h0 : m.mem.length = 0
  · have c0 := hm.c0
    rw [h0] at c0
    rw [h0]
    refine (peek_0 c0).mono ?_
    rintro e w' ⟨rfl, hb⟩
    exact ⟨some ⟨w.heap.size, 0, none⟩, 0, by rw [h0], fun h => by omega, hb⟩
  · refine (peek_in 0 m.mem.length hm hok (by omega) (by omega)).mono ?_
    rintro e w' ⟨rfl, hr, hb⟩
    refine ⟨_, _, rfl, fun _ => ⟨w.heap.size, 0, rfl, fun j hj => ?_⟩, hb⟩
    rw [Nat.zero_add, cell_of_row _ _ j _ _ _ hr]
    simp only [List.drop_zero, List.take_length]
    exact u8s_at _ _ hj
theorem reads_of {w : World} {p q : Nat} {m : Ma} (hm : MachAt w p q m) (hok : m.ok) : Reads w p m := ⟨fun k hk => hm.cx hok.1 hk, hm.cpl hok.1, ⟨_, hm.c0⟩⟩
theorem tells_ma {w : World} {p q q' : Nat} {m : Ma} (hm : MachAt w p q m) (hok : m.ok) (hr : w.heap[q']? = some (.cells (u8s m.mem).toArray 5)) :
    Calls Tryd.prog 14 #[.pointer (some ⟨p, 0, none⟩), .agg (mcs m q')] w fun e w' => e = .returned (.bool true) ∧ Below w.heap.size w w' :=
  tells_any hok.1 hok.2.1 (reads_of hm hok) hm.lp (lt_of_at hr) hr fun W hb => peek_all (hm.keep (Fr.below (S := []) hb) (by simp) (by simp)) hok
theorem u8s_cat (l k : List Int) : u8s (l ++ k) = u8s l ++ u8s k := by simp [u8s]
theorem app_u8 {ops : Array Oper} {rest : List Oper} {o : Oper} {a : Act} {w : World} {Q : Exit → Act → World → Prop} (hgd : o.guard = none) (s x : Operand)
    (ho : o.op = .call { callee := .builtin .append, args := #[s, x], argTypes := #[22, 22] }) (base m c : Nat) (xs ys : List Int) (v : Value) (hs : a.eval s = v) (hown : w.ownsRow base 5 1 v xs.length (u8s xs)) (A : Option Addr) (hx : a.eval x = .slice A m c) (hm : m = ys.length)
    (hsrc : 0 < ys.length → ∃ g o, A = some ⟨g, o, none⟩ ∧ ∀ j, j < ys.length → w.cell? ⟨g, o + j, none⟩ = some (.int .u8 (ys.getD j 0))) (hnil : A = none → c = 0) (hn : xs.length + ys.length ≤ 1073741824) (hb : base ≤ w.heap.size)
    (h : ∀ v' w', w'.ownsRow base 5 1 v' (xs ++ ys).length (u8s (xs ++ ys)) → Below base w w' → wpList Tryd.prog ops Q rest (a.put o.dst v') w') : wpList Tryd.prog ops Q (o :: rest) a w := by
  subst hm
  obtain ⟨i0, hi0, hz0, hz1, hz2⟩ := info_parts infoU8
  have hrun : ∃ v' w', (Builtin.append_ #[22, 22] o.type #[v, .slice A ys.length c]).run Tryd.prog w = .ok v' w' ∧ w'.ownsRow base 5 1 v' (xs ++ ys).length (u8s (xs ++ ys)) ∧ Below base w w' := by
    cases A with
    | none =>
      have hc := hnil rfl
      subst hc
      have h0 : ys.length = 0 := by
        rcases Nat.eq_zero_or_pos ys.length with h | h
        · exact h
        · obtain ⟨g, o, he, _⟩ := hsrc h; cases he
      have hy : ys = [] := List.eq_nil_of_length_eq_zero h0
      subst hy
      exact ⟨v, w, run_append_owned_none w base _ _ _ i0 1 Tryd.underlying22 hi0 v _ _ hown, by simpa using hown, Below.refl _ _⟩
    | some ad =>
      obtain ⟨v', w', h1, h2, h3, -⟩ := run_append_own (P := Tryd.prog) w base 22 o.type 5 i0 (.int .u8 0) 1 1 Tryd.underlying22 hi0 hz0 hz1 hz2 rfl (by decide) v xs.length (u8s xs) hown ad ys.length c (u8s ys) (by simp [u8s]) (fun j u hu => by
        have hj : j < ys.length := by
          have := List.getElem?_eq_some_iff.1 hu
          obtain ⟨h1, _⟩ := this
          simpa [u8s] using h1
        obtain ⟨g, o, he, hc⟩ := hsrc (by omega)
        injection he with he
        subst he
        rw [add_at, hc j hj, ← hu]
        have h9 := u8s_at ys j hj
        rw [List.getElem?_toArray] at h9
        exact h9.symm) (u8s_one ys) (by unfold maxLen; omega) (by omega) hb
      refine ⟨v', w', h1, ?_, (Below.refl base w).grown h3 hb fun k hk => by
        rcases Nat.lt_or_ge k base with hlt' | hge
        · exact absurd hk (own_base hown hlt')
        · exact hge⟩
      rw [u8s_cat, List.length_append]
      exact h2
  obtain ⟨v', w', h1, h2, h3⟩ := hrun
  refine wpList_plain hgd fun _ hK => ?_
  unfold Oper.wp execOp
  simp only [ho, resolve, invoke, builtin, Sem.run_bind, Sem.run_pure, Result.andThen_ok, List.map_toArray, List.map_cons, List.map_nil, hs, hx, h1]
  exact hK _ _ (h _ _ h2 h3)
structure Dm (w0 w : World) (s q2 : Nat) (m : Ma) : Prop where
  row : w.heap[s]? = some (.cells (mcs m q2) 34)
  mem : w.heap[q2]? = some (.cells (u8s m.mem).toArray 5)
  ls : w0.heap.size ≤ s
  lq : w0.heap.size ≤ q2
theorem Dm.keep {w0 w w' : World} {s q2 : Nat} {m : Ma} (h : Dm w0 w s q2 m) (hk : ∀ g, g = s ∨ g = q2 → w'.heap[g]? = w.heap[g]?) : Dm w0 w' s q2 m := ⟨(hk s (.inl rfl)).trans h.row, (hk q2 (.inr rfl)).trans h.mem, h.ls, h.lq⟩
theorem Dm.below {w0 w w' : World} {s q2 : Nat} {m : Ma} (h : Dm w0 w s q2 m) (hb : Below w.heap.size w w') : Dm w0 w' s q2 m := ⟨row_at hb (lt_of_at h.row) h.row, row_at hb (lt_of_at h.mem) h.mem, h.ls, h.lq⟩
theorem Dm.fj {w0 w w' : World} {p q s q2 : Nat} {m : Ma} (h : Dm w0 w s q2 m) (hf : Fj w.heap.size p q w w') (hs : s ≠ p ∧ s ≠ q) (hq : q2 ≠ p ∧ q2 ≠ q) : Dm w0 w' s q2 m := ⟨row_fj h.row hf hs.1 hs.2, row_fj h.mem hf hq.1 hq.2, h.ls, h.lq⟩
theorem Dm.fr {w0 w w' : World} {p s q2 : Nat} {m : Ma} (h : Dm w0 w s q2 m) (hf : Fr [p] w w') (hs : s ≠ p) (hq : q2 ≠ p) : Dm w0 w' s q2 m := ⟨hf.at_ h.row (by simpa using hs), hf.at_ h.mem (by simpa using hq), h.ls, h.lq⟩
theorem Fw.fr {w w' : World} {q : Nat} (h : Fw w.heap.size q w w') : Fr [q] w w' := ⟨h.fb.os, h.fb.tape, h.fb.output, h.fb.size, fun k hk hs => h.fb.block k hk hk (by simpa using hs) (by simpa using hs)⟩
theorem ld6 {ops : Array Oper} {rest : List Oper} {Q : Exit → Act → World → Prop} {a : Act} {w : World} {dst : Option Tmp} {ty : TypeId} {pos : String} {af : Array Edge} {x : Operand} (g : Nat) (cs : Array Value)
    (hx : a.eval x = .pointer (some ⟨g, 0, none⟩)) (hg : w.heap[g]? = some (.cells cs 39)) (hz : cs.size = 6) (h : wpList Tryd.prog ops Q rest (a.put dst (.agg cs)) w) : wpList Tryd.prog ops Q (⟨dst, .load 39 x, ty, pos, af, none⟩ :: rest) a w :=
  wpList_load_row rfl _ x rfl g hx _ cs (0, 0) _ hg Tryd.underlying39 rfl (by rw [hz]; exact size52) h
theorem st6 {ops : Array Oper} {rest : List Oper} {Q : Exit → Act → World → Prop} {a : Act} {w : World} {dst : Option Tmp} {ty : TypeId} {pos : String} {af : Array Edge} {x y : Operand} (g : Nat) (cs old : Array Value)
    (hx : a.eval x = .pointer (some ⟨g, 0, none⟩)) (hy : a.eval y = .agg cs) (hg : w.heap[g]? = some (.cells old 39)) (ho : old.size = 6) (hz : cs.size = 6) (ha : cs.all (·.oneCell') = true) (h : wpList Tryd.prog ops Q rest (a.put dst undef) (w.setRow g cs)) : wpList Tryd.prog ops Q (⟨dst, .store 39 x y, ty, pos, af, none⟩ :: rest) a w :=
  wpList_store_row rfl _ x y rfl g cs hx hy _ old hg (by rw [hz]; exact size52) (by rw [ho, hz]) ha h
theorem rnew2 {w : World} {A : Option Addr} {c N k : Nat} {xs : List Int} (hN : xs.length ≤ N) (hN' : N ≤ 4194304) (hr : SrcIs w A xs) {n : Int} (hn : n = N) (hk : k = xs.length) :
    Calls Tryd.prog 9 #[.slice A k c, .int .i64 n] w fun e w' => e = .returned (.tuple #[.agg (mcs (maNew xs N) (w.heap.size + 1)), .bool true]) ∧ w'.heap[w.heap.size + 1]? = some (.cells (u8s (maNew xs N).mem).toArray 5) ∧ Below w.heap.size w w' := by
  subst hn hk; exact rnew_any hN hN' hr
end Go.Proofs.YtppcbommaddkgaaDoor
namespace Go.Proofs.YtppcbommaddkgaaDoor
open Go.ChangeShapes Go.WideShapes Go.ChangeAt Go.WideMaps Go.WideElems Go.RowKit
set_option linter.unusedVariables false
set_option linter.unusedSimpArgs false
set_option maxRecDepth 10000
theorem gForms : Tryd.prog.globalNamed "hauberk/code.forms" = some 1 := by kernel_rfl
theorem tForms : (Tryd.prog.globals[1]?).map (·.type) = some 135 := by kernel_rfl
theorem keyForms : Tryd.prog.keyTypeAt 10 135 = true := by kernel_rfl
theorem tiledForms : Tryd.prog.tiled 10 135 = true := by kernel_rfl
theorem flatForms {H : Type} : (Rows.laid_hauberk_code_forms (H := H)).flat.map Lit.toCell = formCells := by kernel_rfl
end Go.Proofs.YtppcbommaddkgaaDoor
namespace Go.Proofs.YtppcbommaddkgaaDoor
open Go.ChangeShapes Go.WideShapes Go.ChangeAt Go.WideMaps Go.WideElems Go.RowKit
set_option linter.unusedVariables false
set_option linter.unusedSimpArgs false
open Pm
theorem gOps : Tryd.prog.globalNamed "hauberk/mach.operations" = some 0 := by kernel_rfl
theorem tOps : (Tryd.prog.globals[0]?).map (·.type) = some 99 := by kernel_rfl
theorem keyOps : Tryd.prog.keyTypeAt 10 99 = true := by kernel_rfl
theorem tiledOps : Tryd.prog.tiled 10 99 = true := by kernel_rfl
def opsCells : List Value := ((List.range 38).map fun o : Nat => Value.int .i64 (if o < 28 then 0 else opTab (o : Int)))
theorem flatOps {H : Type} : (Rows.laid_hauberk_mach_operations (H := H)).flat.map Lit.toCell = opsCells := by kernel_rfl
abbrev laidM {H : Type} : List (String × DataW H) := [("hauberk/code.forms", Rows.laid_hauberk_code_forms), ("hauberk/mach.operations", Rows.laid_hauberk_mach_operations)]
theorem both_of_laid {W : World} (h : laidMetH Tryd.prog laidM W) : FormsIn W ∧ OpsIn W := by
  rw [MakeChecks.laidMetH_plain _ _ _ (by kernel_rfl)] at h
  obtain ⟨ps, ⟨g0, t0, cs0, f0, p0, q0, hg0, ht0, hv0, hd0, rest⟩, hr⟩ := h
  obtain ⟨⟨g1, t1, cs1, f1, p1, q1, hg1, ht1, hv1, hd1, _⟩, _⟩ := rest
  refine ⟨?_, ?_⟩
  · obtain rfl := Option.some.inj (gForms.symm.trans hg0)
    obtain rfl := Option.some.inj (tForms.symm.trans ht0)
    have k := (keyLits_of_trod 10 _ keyForms _ _ _ hd0).1
    have c := cells_of_lits 10 _ tiledForms _ _ _ k
    have e : cs0.toList = formCells := c.trans flatForms
    have hc : ∀ j, W.cell? ⟨1, j, none⟩ = formCells[j]? := fun j => by
      have := World.var?_cell hg0 hv0 j
      rw [← e]
      simpa using this
    refine ⟨?_, fun j v hv => by rw [Nat.zero_add, hc]; exact hv⟩
    have h0 : W.cell? ⟨1, 0, none⟩ = some (.bool true) := (hc 0).trans rfl
    exact World.block_lt_of_cell? W _ h0
  · obtain rfl := Option.some.inj (gOps.symm.trans hg1)
    obtain rfl := Option.some.inj (tOps.symm.trans ht1)
    have k := (keyLits_of_trod 10 _ keyOps _ _ _ hd1).1
    have c := cells_of_lits 10 _ tiledOps _ _ _ k
    have e : cs1.toList = opsCells := c.trans flatOps
    intro o h1 h2
    have := World.var?_cell hg1 hv1 o
    rw [this, ← Array.getElem?_toList, e]
    unfold opsCells
    rw [List.getElem?_map, List.getElem?_range (by omega)]
    simp [show ¬ o < 28 by omega]
theorem door_met2 (os : Os) (args : Array Value) : laidMetH Tryd.prog laidM ((World.doorLaid Tryd.prog 46 os).forCall (fun _ _ => 0) ⟨#[], args, []⟩).memory :=
  laidMetH_of_parts3 (fuel := 8) (laidMet_of_run' 8 (by kernel_rfl) (by kernel_rfl)) (by kernel_rfl) (by kernel_rfl)
end Go.Proofs.YtppcbommaddkgaaDoor
namespace Go.Proofs.YtppcbommaddkgaaDoor
open Go.ChangeShapes Go.WideShapes Go.ChangeAt Go.RowKit
set_option linter.unusedVariables false
set_option linter.unusedSimpArgs false
theorem trodAll_below {H : Type} {enc : TypeId × Value → H} {P : Program} (hl : laidOutB P = true) {W W' : World} (hb : Below W.heap.size W W') : ∀ {ts : List TypeId} {vs : List Value} {ds : List (DataW H)} {ps : List MemPlace}, (∀ t ∈ ts, P.readableRec t = true ∧ t < P.types.size) →
    DataW.TrodAll enc P W 0 (fun _ => true) true ts vs ds ps → (∀ x ∈ ps, x.block < W.heap.size) → DataW.TrodAll enc P W' 0 (fun b => decide (b < W.heap.size)) true ts vs ds ps
  | [], [], [], _, _, h, _ => h
  | _ :: _, _ :: _, _ :: _, _, hT, ⟨p, q, h1, h2, e⟩, hs => ⟨p, q, Below.trod hl (hT _ (List.mem_cons.2 (Or.inl rfl))).1 (hT _ (List.mem_cons.2 (Or.inl rfl))).2 h1 hb (fun x hx => hs x (by rw [e]; exact List.mem_append_left _ hx)), trodAll_below hl hb (fun t ht => hT t (List.mem_cons.2 (Or.inr ht))) h2 (fun x hx => hs x (by rw [e]; exact List.mem_append_right _ hx)), e⟩
theorem post_reads {H : Type} {enc : TypeId × Value → H} {P : Program} {f : Func} {s : ChangeSpec} {W W' : World} {args : Array Value} {v : Value} {ds gs : List (DataW H)} {before : List MemPlace}
    (hl : laidOutB P = true) (hT : ∀ t ∈ f.params.toList, P.readableRec t = true ∧ t < P.types.size) (hv : s.vars = [])
    (hW : DataW.Whole enc P f.params.toList s.vars false W args.toList ds gs before)
    (hres : ∀ b : Nat, DataW.TrodAll enc P W' b (fun _ => false) false f.resultTypes.toList (v.resultList f.resultTypes.size) (s.fn H (ds ++ gs)).results [])
    (hargs : (s.fn H (ds ++ gs)).args = ds) (hvars : (s.fn H (ds ++ gs)).vars = []) (hb : Below W.heap.size W W') : s.post enc P f false true false false W args v W' := by
  have hlt : ∀ x ∈ before, x.block < W.heap.size := fun x hx => by simpa using hW.lt x hx
  have hW0 := hW
  obtain ⟨p, q, hA, hV, e, _⟩ := hW
  rw [hv] at hV
  have hq : gs = [] ∧ q = [] := by
    cases gs with
    | nil => exact ⟨rfl, hV⟩
    | cons => exact hV.elim
  obtain ⟨rfl, rfl⟩ := hq
  rw [List.append_nil] at e
  subst e
  refine ⟨ds, [], before, [], before, [], hW0, hres _, ?_, ?_, hb.frame _, fun h => by cases h⟩
  · rw [hargs]
    exact trodAll_below hl hb hT hA hlt
  · rw [hvars, hv]; exact rfl
end Go.Proofs.YtppcbommaddkgaaDoor
