/- MachKeeps: what its three steps make. Conditions: each theorem's. -/
import Derived.Test.YtlghhailckoonaaDoorMachM3
namespace Go.Proofs.YtlghhailckoonaaDoor
open Go.RowKit Go.Maps
set_option linter.unusedVariables false
set_option linter.unusedSimpArgs false
set_option maxRecDepth 10000
open Pm Pc Pl
namespace Pm
def kpL (st ld off : Int) : List In5 := [(st, 0, 0, 5, off), (ld, 6, 0, 0, off), (39, 7, 0, 0, off)]
/-- The three: how a byte, four, eight are stored and loaded. -/
def kpOk (st ld : Int) (n : Nat) : Prop := (st = 42 ∧ ld = 38 ∧ n = 1) ∨ (st = 43 ∧ ld = 40 ∧ n = 4) ∨ (st = 44 ∧ ld = 41 ∧ n = 8)
theorem kp_enc : ∀ off : Nat, off < 128 → encS 42 0 0 5 off = 0 ∧ encS 43 0 0 5 off = 0 ∧ encS 44 0 0 5 off = 0 ∧ encS 38 6 0 0 off = 0 ∧ encS 40 6 0 0 off = 0 ∧ encS 41 6 0 0 off = 0 ∧ encS 39 7 0 0 off = 0 := by decide +kernel
theorem kp_all {st ld : Int} {n off : Nat} (h : kpOk st ld n) (ho : off < 128) : ∀ i ∈ kpL st ld off, i5S i = 0 := by
  obtain ⟨h1, h2, h3, h4, h5, h6, h7⟩ := kp_enc off ho
  intro i hi
  simp only [kpL, List.mem_cons, List.not_mem_nil, or_false] at hi
  rcases h with ⟨rfl, rfl, rfl⟩ | ⟨rfl, rfl, rfl⟩ | ⟨rfl, rfl, rfl⟩ <;> rcases hi with rfl | rfl | rfl <;> assumption
def kpM (st ld : Int) (off : Nat) : List Int := (maNew (bytesOf (kpL st ld off)) 256).mem
theorem kp_dec {st ld : Int} {n off : Nat} (h : kpOk st ld n) (ho : off < 128) : (kpM st ld off).length = 256 ∧ DecAt (kpM st ld off) 0 st 0 0 5 off ∧ DecAt (kpM st ld off) 4 ld 6 0 0 off ∧ DecAt (kpM st ld off) 8 39 7 0 0 off := by
  have hl := (prog_bytes _ (kp_all h ho)).1
  have e : (kpL st ld off).length = 3 := rfl
  exact ⟨maNew_len (by omega), prog_dec _ 256 (kp_all h ho) (by omega) 0 (by omega) rfl, prog_dec _ 256 (kp_all h ho) (by omega) 1 (by omega) rfl, prog_dec _ 256 (kp_all h ho) (by omega) 2 (by omega) rfl⟩
theorem decAt_put {M : List Int} {a op n rd r1 r2} (off : Nat) (x : Int) (k : Nat) (h : DecAt M a op rd r1 r2 n) (ha : a + 4 ≤ off) : DecAt (putV M off x k) a op rd r1 r2 n := by
  unfold DecAt at h ⊢
  rw [getV_put M off a x k 4 (.inl ha), putV_len]
  exact h
/-- Registers: 5 is x, 6 and 7 are what was loaded. -/
def kpX (x u v : Int) : List Int := (((List.replicate 32 0).set 5 x).set 6 u).set 7 v
theorem kp_run {st ld x : Int} {n off : Nat} (h : kpOk st ld n) (ho : 64 ≤ off ∧ off < 128) (hm : off % n = 0) :
    runV 3 ((maNew (bytesOf (kpL st ld off)) 256).set 5 x) ⟨[], 0, 0, [], true, []⟩ =
      (⟨putV (kpM st ld off) off x n, kpX x (nrV true (getV (putV (kpM st ld off) off x n) off n) (8 * n)) (nrV false (getV (putV (kpM st ld off) off x n) off 1) 8), 12, 0, 0⟩,
       ⟨[], 3, 0, [], true, [⟨0, off, n, true⟩, ⟨4, off, n, false⟩, ⟨8, off, 1, false⟩]⟩) := by
  obtain ⟨hlen, d0, d4, d8⟩ := kp_dec h ho.2
  have e4 := decAt_put off x n d4 (by omega)
  have e8 := decAt_put off x n d8 (by omega)
  have hk1 : (off : Int) % 18446744073709551616 = off := by omega
  have hk2 : ((0 : Int) + (off : Int)) % 18446744073709551616 = off := by omega
  generalize hM : kpM st ld off = M at *
  have hm0 : (maNew (bytesOf (kpL st ld off)) 256).set 5 x = ⟨M, (List.replicate 32 0).set 5 x, 0, 0, 0⟩ := by rw [← hM]; rfl
  have hh : hasB off n 256 = true := by unfold hasB; rcases h with ⟨_, _, rfl⟩ | ⟨_, _, rfl⟩ | ⟨_, _, rfl⟩ <;> simp <;> omega
  have hh1 : hasB off 1 256 = true := by unfold hasB; simp; omega
  have had : ∀ (X : List Int) (pl : Int) (MM : List Int), X.getD 0 0 = 0 → (⟨MM, X, pl, 0, 0⟩ : Ma).ad 0 off = off := by
    intro X pl MM hX
    unfold Ma.ad Ma.reg
    dsimp only
    rw [hX, hk1, hk2]
  rw [hm0]
  have s1 : stepV ⟨M, (List.replicate 32 0).set 5 x, 0, 0, 0⟩ ⟨[], 0, 0, [], true, []⟩ = some (⟨putV M off x n, (List.replicate 32 0).set 5 x, 4, 0, 0⟩, ⟨[], 0, 0, [], true, [⟨0, off, n, true⟩]⟩) := by
    rw [stepV_dec (a := 0) rfl d0]
    unfold doV
    have a1 := had ((List.replicate 32 0).set 5 x) 0 M rfl
    have hx5 : (⟨M, (List.replicate 32 0).set 5 x, 0, 0, 0⟩ : Ma).reg 5 = x := rfl
    rcases h with ⟨rfl, rfl, rfl⟩ | ⟨rfl, rfl, rfl⟩ | ⟨rfl, rfl, rfl⟩
    all_goals
      rw [if_neg (by omega), if_neg (by omega), if_neg (by omega), if_pos (by omega), a1, hx5]
      simp only [hlen]
      first | rw [if_pos (show hasB (off : Int) (widthV 42) ((256 : Nat) : Int) = true from hh)] | rw [if_pos (show hasB (off : Int) (widthV 43) ((256 : Nat) : Int) = true from hh)] | rw [if_pos (show hasB (off : Int) (widthV 44) ((256 : Nat) : Int) = true from hh)]
      rfl
  have s2 : stepV ⟨putV M off x n, (List.replicate 32 0).set 5 x, 4, 0, 0⟩ ⟨[], 1, 0, [], true, [⟨0, off, n, true⟩]⟩ = some (⟨putV M off x n, ((List.replicate 32 0).set 5 x).set 6 (nrV true (getV (putV M off x n) off n) (8 * n)), 8, 0, 0⟩, ⟨[], 1, 0, [], true, [⟨0, off, n, true⟩, ⟨4, off, n, false⟩]⟩) := by
    rw [stepV_dec (a := 4) rfl e4]
    unfold doV
    have a1 := had ((List.replicate 32 0).set 5 x) 4 (putV M off x n) rfl
    have hl2 : (putV M off x n).length = 256 := by rw [putV_len, hlen]
    rcases h with ⟨rfl, rfl, rfl⟩ | ⟨rfl, rfl, rfl⟩ | ⟨rfl, rfl, rfl⟩
    all_goals
      rw [if_neg (by omega), if_neg (by omega), if_pos (by omega), a1]
      simp only [hl2]
      first | rw [if_pos (show hasB (off : Int) (widthV 38) ((256 : Nat) : Int) = true from hh)] | rw [if_pos (show hasB (off : Int) (widthV 40) ((256 : Nat) : Int) = true from hh)] | rw [if_pos (show hasB (off : Int) (widthV 41) ((256 : Nat) : Int) = true from hh)]
      rfl
  have s3 : stepV ⟨putV M off x n, ((List.replicate 32 0).set 5 x).set 6 (nrV true (getV (putV M off x n) off n) (8 * n)), 8, 0, 0⟩ ⟨[], 2, 0, [], true, [⟨0, off, n, true⟩, ⟨4, off, n, false⟩]⟩ = some (⟨putV M off x n, kpX x (nrV true (getV (putV M off x n) off n) (8 * n)) (nrV false (getV (putV M off x n) off 1) 8), 12, 0, 0⟩, ⟨[], 2, 0, [], true, [⟨0, off, n, true⟩, ⟨4, off, n, false⟩, ⟨8, off, 1, false⟩]⟩) := by
    rw [stepV_dec (a := 8) rfl e8]
    unfold doV
    have a1 := had (((List.replicate 32 0).set 5 x).set 6 (nrV true (getV (putV M off x n) off n) (8 * n))) 8 (putV M off x n) rfl
    have hl2 : (putV M off x n).length = 256 := by rw [putV_len, hlen]
    rw [if_neg (by omega), if_neg (by omega), if_pos (by omega), a1]
    simp only [hl2]
    rw [if_pos (show hasB (off : Int) (widthV 39) ((256 : Nat) : Int) = true from hh1)]
    rfl
  rw [show (3 : Nat) = 1 + (1 + 1) from rfl, runV_add 1 (1 + 1), runV_one rfl s1]
  dsimp only
  rw [runV_add 1 1, runV_one rfl s2]
  dsimp only
  rw [runV_one rfl s3]
end Pm
end Go.Proofs.YtlghhailckoonaaDoor
/- MachKeeps: what stands in the memory and the registers behind its three steps. Conditions: each theorem's. -/
namespace Go.Proofs.YtlghhailckoonaaDoor
open Go.RowKit Go.Maps
set_option linter.unusedVariables false
set_option linter.unusedSimpArgs false
set_option maxRecDepth 10000
open Pm Pc Pl
namespace Pm
theorem getV_mod (M : List Int) (n : Nat) : ∀ (a : Nat) (x : Nat), (∀ j, j < n → M.getD (a + j) 0 = (x : Int) / 256 ^ j % 256) → getV M a n = ((x % 256 ^ n : Nat) : Int) := by
  induction n with
  | zero => intro a x _; simp [getV, Nat.mod_one]
  | succ n ih =>
    intro a x h
    have h0 := h 0 (by omega)
    have h1 := ih (a + 1) (x / 256) fun j hj => by
      have := h (j + 1) (by omega)
      rw [show a + 1 + j = a + (j + 1) by omega, this, Int.pow_succ, Int.mul_comm, ← Int.ediv_ediv_of_nonneg (by decide)]
      rfl
    rw [getV, h1, ← Nat.add_zero a, h0, Nat.pow_succ, Nat.mul_comm (256 ^ n), Nat.mod_mul]
    simp
theorem kp_byte {st ld : Int} {n off : Nat} (x : Int) (h : kpOk st ld n) (ho : 64 ≤ off ∧ off < 128) (hm : off % n = 0) (j : Nat) (hj : j < 128) :
    (putV (kpM st ld off) off x n).getD (64 + j) 0 = if 64 + j < off ∨ off + n ≤ 64 + j then 0 else x / 256 ^ (64 + j - off) % 256 := by
  have hn : n ≤ 8 := by rcases h with h | h | h <;> omega
  have hle : off + n ≤ 256 := by omega
  have hl := (kp_dec h ho.2).1
  split
  · rename_i hc
    have hb := (prog_bytes _ (kp_all h ho.2)).1
    have e : (kpL st ld off).length = 3 := rfl
    have hp : ∀ k, (putV (kpM st ld off) off x k).getD (64 + j) 0 = (kpM st ld off).getD (64 + j) 0 ∨ n < k := by
      intro k
      induction k with
      | zero => exact .inl rfl
      | succ k ih =>
        by_cases hk : n < k + 1
        · exact .inr hk
        · rcases ih with ih | ih
          · refine .inl ?_
            rw [putV]
            simp only [List.getD_eq_getElem?_getD] at ih ⊢
            rw [List.getElem?_set_ne (by omega)]; exact ih
          · omega
    rcases hp n with hp | hp
    · rw [hp]
      unfold kpM maNew
      simp only [List.getD_eq_getElem?_getD]
      rw [List.getElem?_append_right (by omega), List.getElem?_replicate]
      split <;> rfl
    · omega
  · rename_i hc
    have := getV_putV (kpM st ld off) off x n (by omega) (64 + j - off) (by omega)
    rw [show off + (64 + j - off) = 64 + j by omega] at this
    exact this
theorem kp_six {st ld : Int} {n off : Nat} (x : Int) (hx : 0 ≤ x ∧ x < 18446744073709551616) (h : kpOk st ld n) (ho : 64 ≤ off ∧ off < 128) (hm : off % n = 0) : nrV true (getV (putV (kpM st ld off) off x n) off n) (8 * n) = nrV true x (8 * n) ∧ nrV false (getV (putV (kpM st ld off) off x n) off 1) 8 = x % 256 := by
  obtain ⟨X, rfl⟩ := Int.eq_ofNat_of_zero_le hx.1
  have hn : 1 ≤ n ∧ n ≤ 8 := by rcases h with h | h | h <;> omega
  have hl := (kp_dec h ho.2).1
  have hb : ∀ j, j < n → (putV (kpM st ld off) off (X : Int) n).getD (off + j) 0 = (X : Int) / 256 ^ j % 256 := fun j hj => getV_putV _ _ _ _ (by omega) j hj
  rw [getV_mod _ n off X hb, getV_mod _ 1 off X fun j hj => hb j (by omega)]
  refine ⟨?_, ?_⟩
  · have e : ((X % 256 ^ n : Nat) : Int) % 2 ^ (8 * (n : Int)).toNat = (X : Int) % 2 ^ (8 * (n : Int)).toNat := by
      rcases h with ⟨-, -, rfl⟩ | ⟨-, -, rfl⟩ | ⟨-, -, rfl⟩
      · rw [show (2 : Int) ^ (8 * ((1 : Nat) : Int)).toNat = 256 from rfl]; omega
      · rw [show (2 : Int) ^ (8 * ((4 : Nat) : Int)).toNat = 4294967296 from rfl]; omega
      · rw [show (2 : Int) ^ (8 * ((8 : Nat) : Int)).toNat = 18446744073709551616 from rfl]; omega
    unfold nrV
    rw [e]
  · unfold nrV
    rw [if_neg (by simp), show (2 : Int) ^ (8 : Int).toNat = 256 from rfl]
    omega
end Pm
end Go.Proofs.YtlghhailckoonaaDoor
/- MachKeeps answers true, of any arguments; at most new blocks in memory. Conditions: the tables as the program lays them, and that the arguments are of their Go types. -/
namespace Go.Proofs.YtlghhailckoonaaDoor
open Go.RowKit Go.Maps
set_option linter.unusedVariables false
set_option linter.unusedSimpArgs false
set_option maxRecDepth 10000
open Pm Pc Pl
theorem ks_watch {w0 w : World} {p q : Nat} {m : Ma} (h : Ks w0 w p q m) (f : Int) (hf : f ≤ 1073741824) {N : Nat} (hN : f.toNat = N) {fin : Ma × Ru} (hfin : runV N m ⟨[], 0, 0, [], true, []⟩ = fin) : Calls Tryd.prog 19 #[.pointer (some ⟨p, 0, none⟩), .slice none 0 0, .int .i64 f] w fun e w' => ∃ A n c sv, e = .returned (.tuple #[.agg #[.int .i64 fin.1.st, .int .u8 fin.1.cd, .int .i64 0, .slice A n c, .int .i64 fin.2.steps, .int .i64 fin.2.checks], sv]) ∧ w'.ownsRow w.heap.size 5 1 (.slice A n c) fin.2.out.length (u8s fin.2.out) ∧ w'.ownsRow w.heap.size 66 4 sv fin.2.seen.length (accs fin.2.seen) ∧ Ks w0 w' p q fin.1 ∧ Fj w.heap.size p q w w' := by
  subst hfin
  subst hN
  refine (watch_any (A := none) (c := 0) (xs := []) f h.at_ h.ok h.pq h.one ⟨fun i => by simp, fun h0 => by simp at h0⟩ (by decide) h.forms h.ops hf).mono ?_
  rintro e w' ⟨ov, sv, rfl, hov, hsv, hm, hok, -, hfj⟩
  obtain ⟨A, n, c, rfl⟩ := own_slice hov
  exact ⟨A, n, c, sv, rfl, hov, hsv, h.next hm hok hfj, hfj⟩
theorem kpL_len {st ld off : Int} : (kpL st ld off).length = 3 := rfl
theorem kp_bytes {st ld : Int} {n off : Nat} (h : kpOk st ld n) (ho : off < 128) : (bytesOf (kpL st ld off)).length = 12 := (prog_bytes _ (kp_all h ho)).1
theorem kp_rows {w : World} {base : Nat} {sv : Value} {a b c : Ac} (h : w.ownsRow base 66 4 sv 3 (accs [a, b, c])) : ∃ g k, sv = .slice (some ⟨g, 0, none⟩) 3 k ∧ w.rangeAt g 0 [.int .u64 a.pl, .int .u64 a.at_, .int .i64 a.n, .bool a.wr] ∧ w.rangeAt g 4 [.int .u64 b.pl, .int .u64 b.at_, .int .i64 b.n, .bool b.wr] := by
  rcases h.2 with ⟨rfl, hn⟩ | ⟨g, cap, cur, rfl, hg, hh, hnc, _, hsz, htk⟩
  · cases hn
  · refine ⟨g, cap, rfl, fun j v hj => ?_, fun j v hj => ?_⟩
    all_goals
      rw [cell_of_row w g _ _ _ _ hh]
      have hjl : j < 4 := by
        rcases Nat.lt_or_ge j 4 with h | h
        · exact h
        · rw [List.getElem?_eq_none (by simpa using h)] at hj; cases hj
    · have h1 : (accs [a, b, c])[0 + j]? = some v := by rw [Nat.zero_add, ← hj]; exact (List.getElem?_append_left (l₁ := [Value.int .u64 a.pl, .int .u64 a.at_, .int .i64 a.n, .bool a.wr]) (by simpa using hjl))
      rw [← htk, List.getElem?_take] at h1
      split at h1
      · simpa using h1
      · cases h1
    · have h1 : (accs [a, b, c])[4 + j]? = some v := by
        rw [← hj]
        show ([Value.int .u64 a.pl, .int .u64 a.at_, .int .i64 a.n, .bool a.wr] ++ ([Value.int .u64 b.pl, .int .u64 b.at_, .int .i64 b.n, .bool b.wr] ++ [Value.int .u64 c.pl, .int .u64 c.at_, .int .i64 c.n, .bool c.wr]))[4 + j]? = _
        rw [List.getElem?_append_right (by simp), List.getElem?_append_left (by simp; omega)]
        simp
      rw [← htk, List.getElem?_take] at h1
      split at h1
      · simpa using h1
      · cases h1
theorem kp_fin {st ld x : Int} {n off : Nat} (hx : 0 ≤ x ∧ x < 18446744073709551616) (h : kpOk st ld n) (ho : 64 ≤ off ∧ off < 128) (hm : off % n = 0) : ∃ (MM : List Int) (U V : Int), runV 3 ((maNew (bytesOf (kpL st ld off)) 256).set 5 x) ⟨[], 0, 0, [], true, []⟩ = (⟨MM, kpX x U V, 12, 0, 0⟩, ⟨[], 3, 0, [], true, [⟨0, off, n, true⟩, ⟨4, off, n, false⟩, ⟨8, off, 1, false⟩]⟩) ∧ U = nrV true x (8 * n) ∧ V = x % 256 ∧ MM.length = 256 ∧ ∀ j, j < 128 → MM.getD (64 + j) 0 = if 64 + j < off ∨ off + n ≤ 64 + j then 0 else x / 256 ^ (64 + j - off) % 256 :=
  ⟨_, _, _, kp_run h ho hm, (kp_six x hx h ho hm).1, (kp_six x hx h ho hm).2, by rw [putV_len]; exact (kp_dec h ho.2).1, fun j hj => kp_byte x h ho hm j hj⟩
theorem kp_and (x : Int) (hx : 0 ≤ x ∧ x < 18446744073709551616) : bits .and .u64 x 255 = x % 256 := by
  have h0 := hx.1
  have h1 := hx.2
  go_bits2
theorem sizeAcc : (Tryd.prog.info? 66).map (·.size) = some 4 := by kernel_rfl
set_option maxRecDepth 100000 in
set_option maxHeartbeats 4000000 in
theorem keeps_0 (x a d : Int) (w : World) (hx : 0 ≤ x ∧ x < 18446744073709551616) (ha : 0 ≤ a ∧ a < 256) (hd : 0 ≤ d ∧ d < 256) (hdk : d % 3 = 0) (hF : FormsIn w) (hO : OpsIn w) :
    Calls Tryd.prog 7 #[.int .u64 x, .int .u8 a, .int .u8 d] w fun e w' => e = .returned (.bool true) ∧ Below w.heap.size w w' := by
  have h2 := hO.two hF
  obtain ⟨off, hoff, ho, hm⟩ : ∃ off : Nat, (64 + a % 64 : Int) = off ∧ (64 ≤ off ∧ off < 128) ∧ off % 1 = 0 := ⟨(64 + a % 64).toNat, by omega, by omega, by omega⟩
  have hok : kpOk 42 38 1 := by unfold kpOk; decide
  obtain ⟨MM, U, V, hrun, hU, hV, hml, hbyte⟩ := kp_fin hx hok ho hm
  have hU' : U = nrV true x 8 := hU
  have hblen := kp_bytes hok ho.2
  have HRUN := Lib.hid hrun; have HU := Lib.hid hU'; have HV := Lib.hid hV; have HBYTE := Lib.hid hbyte; have HBL := Lib.hid hblen
  clear hrun hU hU' hV hbyte hblen
  have hand : bits .and .u64 x 255 = x % 256 := kp_and x hx
  have hix : ∀ (x0 x1 x2 : Int) (W : World), (Instr.index 24 (.agg #[.int .i64 x0, .int .i64 x1, .int .i64 x2]) (.int .i64 0)).run Tryd.prog W = .ok (.int .i64 x0) W := fun _ _ _ _ => by kernel_rfl
  go_enter Tryd.func7, Tryd.ntmps7
  go_wp2_with fail
  refine (awake3 _ hF hO).mono ?_
  rintro e w1 ⟨rfl, b1⟩
  have hF1 := hF.keep b1 (Nat.le_refl _)
  have hO1 := hO.below b1
  clear hF hO
  go_wp2_with fail
  go_region
  go_wp2_with fail
  have hia : InsAt ((w1.alloc (Obj.cells #[.int .i64 42, .int .i64 0, .int .i64 0, .int .i64 5, .int .i64 off, .int .i64 38, .int .i64 6, .int .i64 0, .int .i64 0, .int .i64 off, .int .i64 39, .int .i64 7, .int .i64 0, .int .i64 0, .int .i64 off] 49)).drew) (some ⟨w1.heap.size, 0, none⟩) (kpL 42 38 off) := insAt_new w1 (kpL 42 38 off) _ rfl _
  refine (bytes_any (c := 3) (by rw [kpL_len]; decide) hia).mono ?_
  clear hia
  rintro e w2 ⟨v, rfl, hown, b2⟩
  obtain ⟨A, c, rfl, hsrc, -⟩ := src_own hown (bytesOf_range _)
  have hle : (bytesOf (kpL 42 38 off)).length ≤ 256 := by rw [HBL.out]; decide
  have B2 : Below w1.heap.size w1 w2 := (((Below.refl w1.heap.size w1).alloc (Nat.le_refl _) _).drew).trans (b2.mono (by show w1.heap.size ≤ (w1.alloc _).heap.size; simp only [szA]; omega))
  have hF2 := hF1.keep B2 (Nat.le_refl _)
  have hO2 := hO1.below B2
  have B12 := b1.trans (B2.mono b1.size)
  clear hF1 hO1 b1 B2 b2 hown
  go_wp2_with fail
  refine (ks_new (w0 := w) (N := 256) hle (by decide) hsrc hF2 hO2 B12 h2).mono ?_
  rintro e w3 ⟨rfl, k3⟩
  clear hF2 hO2 B12 hsrc hle
  generalize w2.heap.size = q at *
  go_wp2_with fail
  refine (ks_set k3 (k := 5) (by omega) x hx).mono ?_
  rintro e w4 ⟨rfl, k4⟩
  clear k3
  go_wp2_with fail
  refine (ks_watch k4 3 (by decide) (N := 3) rfl HRUN.out).mono ?_
  rintro e w5 ⟨oA, on, oc, sv, rfl, hov, hsv, k5, -⟩
  clear k4
  dsimp only at hov hsv k5
  obtain ⟨sg, sk, rfl, r0, r1⟩ := kp_rows hsv
  dsimp only at r0 r1
  clear hov hsv
  go_wp2_with fail
  refine (narrow_any true x 8 _ hx.1 (by decide) (by decide)).mono ?_
  rintro e w6 ⟨rfl, rfl⟩
  have k6 := k5.grow ((Below.refl w5.heap.size w5).alloc (Nat.le_refl _) (.cells #[.int .i64 0, .int .u8 0, .int .i64 0, .slice oA on oc, .int .i64 3, .int .i64 0] 39))
  have hr6 : Calls Tryd.prog 24 #[.pointer (some ⟨q + 1, 0, none⟩), .int .i64 6] (w5.alloc (.cells #[.int .i64 0, .int .u8 0, .int .i64 0, .slice oA on oc, .int .i64 3, .int .i64 0] 39)) fun e w' => e = .returned (.int .u64 U) ∧ (w5.alloc (.cells #[.int .i64 0, .int .u8 0, .int .i64 0, .slice oA on oc, .int .i64 3, .int .i64 0] 39)) = w' := ks_reg k6 (k := 6) (by omega)
  have hr7 : Calls Tryd.prog 24 #[.pointer (some ⟨q + 1, 0, none⟩), .int .i64 7] (w5.alloc (.cells #[.int .i64 0, .int .u8 0, .int .i64 0, .slice oA on oc, .int .i64 3, .int .i64 0] 39)) fun e w' => e = .returned (.int .u64 V) ∧ (w5.alloc (.cells #[.int .i64 0, .int .u8 0, .int .i64 0, .slice oA on oc, .int .i64 3, .int .i64 0] 39)) = w' := ks_reg k6 (k := 7) (by omega)
  rw [HV.out] at hr7
  have hpk : Calls Tryd.prog 25 #[.pointer (some ⟨q + 1, 0, none⟩), .int .i64 64, .int .i64 128] (w5.alloc (.cells #[.int .i64 0, .int .u8 0, .int .i64 0, .slice oA on oc, .int .i64 3, .int .i64 0] 39)) fun e w' => e = .returned (.tuple #[.slice (some ⟨(w5.alloc (.cells #[.int .i64 0, .int .u8 0, .int .i64 0, .slice oA on oc, .int .i64 3, .int .i64 0] 39)).heap.size, 0, none⟩) 128 128, .int .i64 0]) ∧ w'.heap[(w5.alloc (.cells #[.int .i64 0, .int .u8 0, .int .i64 0, .slice oA on oc, .int .i64 3, .int .i64 0] 39)).heap.size]? = some (.cells (u8s ((MM.drop 64).take 128)).toArray 5) ∧ Below (w5.alloc (.cells #[.int .i64 0, .int .u8 0, .int .i64 0, .slice oA on oc, .int .i64 3, .int .i64 0] 39)).heap.size (w5.alloc (.cells #[.int .i64 0, .int .u8 0, .int .i64 0, .slice oA on oc, .int .i64 3, .int .i64 0] 39)) w' := peek_in 64 128 k6.at_ k6.ok (by decide) (by show 64 + 128 ≤ MM.length; rw [hml]; decide)
  have HPK := Lib.hid hpk; clear hpk
  have HR6 := Lib.hid hr6; have HR7 := Lib.hid hr7; clear hr6 hr7
  have k6' := Lib.hid k6; clear k5 k6
  rw [← HU.out]
  have lq : sg < w5.heap.size := World.block_lt_of_cell? w5 _ (r0 0 _ rfl)
  have a0 : (w5.alloc (.cells #[.int .i64 0, .int .u8 0, .int .i64 0, .slice oA on oc, .int .i64 3, .int .i64 0] 39)).cell? ⟨sg, 0, none⟩ = some (.int .u64 0) := (World.cell?_alloc_lt _ _ _ lq).trans (r0 0 _ rfl)
  have a1 : (w5.alloc (.cells #[.int .i64 0, .int .u8 0, .int .i64 0, .slice oA on oc, .int .i64 3, .int .i64 0] 39)).cell? ⟨sg, 1, none⟩ = some (.int .u64 off) := (World.cell?_alloc_lt _ _ _ lq).trans (r0 1 _ rfl)
  have a2 : (w5.alloc (.cells #[.int .i64 0, .int .u8 0, .int .i64 0, .slice oA on oc, .int .i64 3, .int .i64 0] 39)).cell? ⟨sg, 2, none⟩ = some (.int .i64 1) := (World.cell?_alloc_lt _ _ _ lq).trans (r0 2 _ rfl)
  have a3 : (w5.alloc (.cells #[.int .i64 0, .int .u8 0, .int .i64 0, .slice oA on oc, .int .i64 3, .int .i64 0] 39)).cell? ⟨sg, 3, none⟩ = some (.bool true) := (World.cell?_alloc_lt _ _ _ lq).trans (r0 3 _ rfl)
  have c0 : (w5.alloc (.cells #[.int .i64 0, .int .u8 0, .int .i64 0, .slice oA on oc, .int .i64 3, .int .i64 0] 39)).cell? ⟨sg, 4, none⟩ = some (.int .u64 4) := (World.cell?_alloc_lt _ _ _ lq).trans (r1 0 _ rfl)
  have c1 : (w5.alloc (.cells #[.int .i64 0, .int .u8 0, .int .i64 0, .slice oA on oc, .int .i64 3, .int .i64 0] 39)).cell? ⟨sg, 5, none⟩ = some (.int .u64 off) := (World.cell?_alloc_lt _ _ _ lq).trans (r1 1 _ rfl)
  have c2 : (w5.alloc (.cells #[.int .i64 0, .int .u8 0, .int .i64 0, .slice oA on oc, .int .i64 3, .int .i64 0] 39)).cell? ⟨sg, 6, none⟩ = some (.int .i64 1) := (World.cell?_alloc_lt _ _ _ lq).trans (r1 2 _ rfl)
  have c3 : (w5.alloc (.cells #[.int .i64 0, .int .u8 0, .int .i64 0, .slice oA on oc, .int .i64 3, .int .i64 0] 39)).cell? ⟨sg, 7, none⟩ = some (.bool false) := (World.cell?_alloc_lt _ _ _ lq).trans (r1 3 _ rfl)
  clear r0 r1
  go_wp2_with (first | (go_at_call 24; (with_reducible refine HR6.out.mono ?_); rintro e w8 ⟨rfl, rfl⟩) | (go_at_call 24; (with_reducible refine HR7.out.mono ?_); rintro e w8 ⟨rfl, rfl⟩))
  refine HPK.out.mono ?_
  rintro e w7 ⟨rfl, hpb, b7⟩
  have hcell : ∀ j, j < 128 → w7.cell? ⟨w5.heap.size + 1, j, none⟩ = some (.int .u8 (if 64 + j < off ∨ off + 1 ≤ 64 + j then 0 else x / 256 ^ (64 + j - off) % 256)) := fun j hj => by
    rw [szA] at hpb
    rw [cell_of_row w7 _ j _ _ _ hpb, ← HBYTE.out j hj]
    simp [u8s, List.getElem?_take, hj, List.getD_eq_getElem?_getD, show 64 + j < MM.length by omega]
  have HCELL := Lib.hid hcell
  clear hcell hpb HPK HR6 HR7 HBYTE HRUN HU HV HBL a0 a1 a2 a3 c0 c1 c2 c3
  have hfin : Below w.heap.size w w7 := by
    have kb := k6'.out.below
    exact kb.trans (b7.mono kb.size)
  clear b7 k6'
  rw [szA]
  go_wp2
  go_loopw [129] (fun k wr => ∃ j : Nat, j ≤ 128 ∧ k = .int .i64 j ∧ wr = w7) (fun k _ => 128 - (intOf k).toNat)
  case atStart => exact ⟨0, Nat.zero_le _, rfl, rfl⟩
  case round =>
    obtain ⟨j, hj, rfl, rfl⟩ := hrel
    by_cases hlt : j < 128
    · have hc := HCELL.out j hlt
      have dj0 : (0 : Int) ≤ (j : Int) := by omega
      have dj1 : (j : Int) < 128 := by omega
      by_cases hA : 64 + j < off
      · rw [if_pos (.inl hA)] at hc
        have e1 : decide ((j : Int) + 64 < (off : Int)) = true := decide_eq_true (by omega)
        go_wp2
        go_roundw
        case rel => exact ⟨j + 1, by omega, by go_num, trivial⟩
        case measure => simp [intOf]; omega
      · by_cases hC : off + 1 ≤ 64 + j
        · rw [if_pos (.inr hC)] at hc
          have e1 : decide ((j : Int) + 64 < (off : Int)) = false := decide_eq_false (by omega)
          have e2 : decide ((off : Int) + 1 ≤ (j : Int) + 64) = true := decide_eq_true (by omega)
          go_wp2
          go_roundw
          case rel => exact ⟨j + 1, by omega, by go_num, trivial⟩
          case measure => simp [intOf]; omega
        · rw [if_neg (by omega)] at hc
          have e1 : decide ((j : Int) + 64 < (off : Int)) = false := decide_eq_false (by omega)
          have e2 : decide ((off : Int) + 1 ≤ (j : Int) + 64) = false := decide_eq_false (by omega)
          obtain ⟨dd, hdd⟩ : ∃ dd : Nat, 64 + j - off = dd := ⟨_, rfl⟩
          have hde : (j : Int) + 64 - (off : Int) = (dd : Int) := by omega
          have hd8 : dd < 1 := by omega
          rw [hdd, show (256 : Int) ^ dd = 2 ^ (8 * dd) by rw [Int.pow_mul]; rfl] at hc
          go_wp2
          go_roundw
          case rel => exact ⟨j + 1, by omega, by go_num, trivial⟩
          case measure => simp [intOf]; omega
    · obtain rfl : j = 128 := by omega
      go_wp2
      go_ret
      exact ⟨rfl, hfin⟩

set_option maxRecDepth 100000 in
set_option maxHeartbeats 4000000 in
theorem keeps_1 (x a d : Int) (w : World) (hx : 0 ≤ x ∧ x < 18446744073709551616) (ha : 0 ≤ a ∧ a < 256) (hd : 0 ≤ d ∧ d < 256) (hdk : d % 3 = 1) (hF : FormsIn w) (hO : OpsIn w) :
    Calls Tryd.prog 7 #[.int .u64 x, .int .u8 a, .int .u8 d] w fun e w' => e = .returned (.bool true) ∧ Below w.heap.size w w' := by
  have h2 := hO.two hF
  obtain ⟨off, hoff, ho, hm⟩ : ∃ off : Nat, (64 + 4 * (a % 16) : Int) = off ∧ (64 ≤ off ∧ off < 128) ∧ off % 4 = 0 := ⟨(64 + 4 * (a % 16)).toNat, by omega, by omega, by omega⟩
  have hok : kpOk 43 40 4 := by unfold kpOk; decide
  obtain ⟨MM, U, V, hrun, hU, hV, hml, hbyte⟩ := kp_fin hx hok ho hm
  have hU' : U = nrV true x 32 := hU
  have hblen := kp_bytes hok ho.2
  have HRUN := Lib.hid hrun; have HU := Lib.hid hU'; have HV := Lib.hid hV; have HBYTE := Lib.hid hbyte; have HBL := Lib.hid hblen
  clear hrun hU hU' hV hbyte hblen
  have hand : bits .and .u64 x 255 = x % 256 := kp_and x hx
  have hix : ∀ (x0 x1 x2 : Int) (W : World), (Instr.index 24 (.agg #[.int .i64 x0, .int .i64 x1, .int .i64 x2]) (.int .i64 1)).run Tryd.prog W = .ok (.int .i64 x1) W := fun _ _ _ _ => by kernel_rfl
  go_enter Tryd.func7, Tryd.ntmps7
  go_wp2_with fail
  refine (awake3 _ hF hO).mono ?_
  rintro e w1 ⟨rfl, b1⟩
  have hF1 := hF.keep b1 (Nat.le_refl _)
  have hO1 := hO.below b1
  clear hF hO
  go_wp2_with fail
  go_region
  go_wp2_with fail
  have hia : InsAt ((w1.alloc (Obj.cells #[.int .i64 43, .int .i64 0, .int .i64 0, .int .i64 5, .int .i64 off, .int .i64 40, .int .i64 6, .int .i64 0, .int .i64 0, .int .i64 off, .int .i64 39, .int .i64 7, .int .i64 0, .int .i64 0, .int .i64 off] 49)).drew) (some ⟨w1.heap.size, 0, none⟩) (kpL 43 40 off) := insAt_new w1 (kpL 43 40 off) _ rfl _
  refine (bytes_any (c := 3) (by rw [kpL_len]; decide) hia).mono ?_
  clear hia
  rintro e w2 ⟨v, rfl, hown, b2⟩
  obtain ⟨A, c, rfl, hsrc, -⟩ := src_own hown (bytesOf_range _)
  have hle : (bytesOf (kpL 43 40 off)).length ≤ 256 := by rw [HBL.out]; decide
  have B2 : Below w1.heap.size w1 w2 := (((Below.refl w1.heap.size w1).alloc (Nat.le_refl _) _).drew).trans (b2.mono (by show w1.heap.size ≤ (w1.alloc _).heap.size; simp only [szA]; omega))
  have hF2 := hF1.keep B2 (Nat.le_refl _)
  have hO2 := hO1.below B2
  have B12 := b1.trans (B2.mono b1.size)
  clear hF1 hO1 b1 B2 b2 hown
  go_wp2_with fail
  refine (ks_new (w0 := w) (N := 256) hle (by decide) hsrc hF2 hO2 B12 h2).mono ?_
  rintro e w3 ⟨rfl, k3⟩
  clear hF2 hO2 B12 hsrc hle
  generalize w2.heap.size = q at *
  go_wp2_with fail
  refine (ks_set k3 (k := 5) (by omega) x hx).mono ?_
  rintro e w4 ⟨rfl, k4⟩
  clear k3
  go_wp2_with fail
  refine (ks_watch k4 3 (by decide) (N := 3) rfl HRUN.out).mono ?_
  rintro e w5 ⟨oA, on, oc, sv, rfl, hov, hsv, k5, -⟩
  clear k4
  dsimp only at hov hsv k5
  obtain ⟨sg, sk, rfl, r0, r1⟩ := kp_rows hsv
  dsimp only at r0 r1
  clear hov hsv
  go_wp2_with fail
  refine (narrow_any true x 32 _ hx.1 (by decide) (by decide)).mono ?_
  rintro e w6 ⟨rfl, rfl⟩
  have k6 := k5.grow ((Below.refl w5.heap.size w5).alloc (Nat.le_refl _) (.cells #[.int .i64 0, .int .u8 0, .int .i64 0, .slice oA on oc, .int .i64 3, .int .i64 0] 39))
  have hr6 : Calls Tryd.prog 24 #[.pointer (some ⟨q + 1, 0, none⟩), .int .i64 6] (w5.alloc (.cells #[.int .i64 0, .int .u8 0, .int .i64 0, .slice oA on oc, .int .i64 3, .int .i64 0] 39)) fun e w' => e = .returned (.int .u64 U) ∧ (w5.alloc (.cells #[.int .i64 0, .int .u8 0, .int .i64 0, .slice oA on oc, .int .i64 3, .int .i64 0] 39)) = w' := ks_reg k6 (k := 6) (by omega)
  have hr7 : Calls Tryd.prog 24 #[.pointer (some ⟨q + 1, 0, none⟩), .int .i64 7] (w5.alloc (.cells #[.int .i64 0, .int .u8 0, .int .i64 0, .slice oA on oc, .int .i64 3, .int .i64 0] 39)) fun e w' => e = .returned (.int .u64 V) ∧ (w5.alloc (.cells #[.int .i64 0, .int .u8 0, .int .i64 0, .slice oA on oc, .int .i64 3, .int .i64 0] 39)) = w' := ks_reg k6 (k := 7) (by omega)
  rw [HV.out] at hr7
  have hpk : Calls Tryd.prog 25 #[.pointer (some ⟨q + 1, 0, none⟩), .int .i64 64, .int .i64 128] (w5.alloc (.cells #[.int .i64 0, .int .u8 0, .int .i64 0, .slice oA on oc, .int .i64 3, .int .i64 0] 39)) fun e w' => e = .returned (.tuple #[.slice (some ⟨(w5.alloc (.cells #[.int .i64 0, .int .u8 0, .int .i64 0, .slice oA on oc, .int .i64 3, .int .i64 0] 39)).heap.size, 0, none⟩) 128 128, .int .i64 0]) ∧ w'.heap[(w5.alloc (.cells #[.int .i64 0, .int .u8 0, .int .i64 0, .slice oA on oc, .int .i64 3, .int .i64 0] 39)).heap.size]? = some (.cells (u8s ((MM.drop 64).take 128)).toArray 5) ∧ Below (w5.alloc (.cells #[.int .i64 0, .int .u8 0, .int .i64 0, .slice oA on oc, .int .i64 3, .int .i64 0] 39)).heap.size (w5.alloc (.cells #[.int .i64 0, .int .u8 0, .int .i64 0, .slice oA on oc, .int .i64 3, .int .i64 0] 39)) w' := peek_in 64 128 k6.at_ k6.ok (by decide) (by show 64 + 128 ≤ MM.length; rw [hml]; decide)
  have HPK := Lib.hid hpk; clear hpk
  have HR6 := Lib.hid hr6; have HR7 := Lib.hid hr7; clear hr6 hr7
  have k6' := Lib.hid k6; clear k5 k6
  rw [← HU.out]
  have lq : sg < w5.heap.size := World.block_lt_of_cell? w5 _ (r0 0 _ rfl)
  have a0 : (w5.alloc (.cells #[.int .i64 0, .int .u8 0, .int .i64 0, .slice oA on oc, .int .i64 3, .int .i64 0] 39)).cell? ⟨sg, 0, none⟩ = some (.int .u64 0) := (World.cell?_alloc_lt _ _ _ lq).trans (r0 0 _ rfl)
  have a1 : (w5.alloc (.cells #[.int .i64 0, .int .u8 0, .int .i64 0, .slice oA on oc, .int .i64 3, .int .i64 0] 39)).cell? ⟨sg, 1, none⟩ = some (.int .u64 off) := (World.cell?_alloc_lt _ _ _ lq).trans (r0 1 _ rfl)
  have a2 : (w5.alloc (.cells #[.int .i64 0, .int .u8 0, .int .i64 0, .slice oA on oc, .int .i64 3, .int .i64 0] 39)).cell? ⟨sg, 2, none⟩ = some (.int .i64 4) := (World.cell?_alloc_lt _ _ _ lq).trans (r0 2 _ rfl)
  have a3 : (w5.alloc (.cells #[.int .i64 0, .int .u8 0, .int .i64 0, .slice oA on oc, .int .i64 3, .int .i64 0] 39)).cell? ⟨sg, 3, none⟩ = some (.bool true) := (World.cell?_alloc_lt _ _ _ lq).trans (r0 3 _ rfl)
  have c0 : (w5.alloc (.cells #[.int .i64 0, .int .u8 0, .int .i64 0, .slice oA on oc, .int .i64 3, .int .i64 0] 39)).cell? ⟨sg, 4, none⟩ = some (.int .u64 4) := (World.cell?_alloc_lt _ _ _ lq).trans (r1 0 _ rfl)
  have c1 : (w5.alloc (.cells #[.int .i64 0, .int .u8 0, .int .i64 0, .slice oA on oc, .int .i64 3, .int .i64 0] 39)).cell? ⟨sg, 5, none⟩ = some (.int .u64 off) := (World.cell?_alloc_lt _ _ _ lq).trans (r1 1 _ rfl)
  have c2 : (w5.alloc (.cells #[.int .i64 0, .int .u8 0, .int .i64 0, .slice oA on oc, .int .i64 3, .int .i64 0] 39)).cell? ⟨sg, 6, none⟩ = some (.int .i64 4) := (World.cell?_alloc_lt _ _ _ lq).trans (r1 2 _ rfl)
  have c3 : (w5.alloc (.cells #[.int .i64 0, .int .u8 0, .int .i64 0, .slice oA on oc, .int .i64 3, .int .i64 0] 39)).cell? ⟨sg, 7, none⟩ = some (.bool false) := (World.cell?_alloc_lt _ _ _ lq).trans (r1 3 _ rfl)
  clear r0 r1
  go_wp2_with (first | (go_at_call 24; (with_reducible refine HR6.out.mono ?_); rintro e w8 ⟨rfl, rfl⟩) | (go_at_call 24; (with_reducible refine HR7.out.mono ?_); rintro e w8 ⟨rfl, rfl⟩))
  refine HPK.out.mono ?_
  rintro e w7 ⟨rfl, hpb, b7⟩
  have hcell : ∀ j, j < 128 → w7.cell? ⟨w5.heap.size + 1, j, none⟩ = some (.int .u8 (if 64 + j < off ∨ off + 4 ≤ 64 + j then 0 else x / 256 ^ (64 + j - off) % 256)) := fun j hj => by
    rw [szA] at hpb
    rw [cell_of_row w7 _ j _ _ _ hpb, ← HBYTE.out j hj]
    simp [u8s, List.getElem?_take, hj, List.getD_eq_getElem?_getD, show 64 + j < MM.length by omega]
  have HCELL := Lib.hid hcell
  clear hcell hpb HPK HR6 HR7 HBYTE HRUN HU HV HBL a0 a1 a2 a3 c0 c1 c2 c3
  have hfin : Below w.heap.size w w7 := by
    have kb := k6'.out.below
    exact kb.trans (b7.mono kb.size)
  clear b7 k6'
  rw [szA]
  go_wp2
  go_loopw [129] (fun k wr => ∃ j : Nat, j ≤ 128 ∧ k = .int .i64 j ∧ wr = w7) (fun k _ => 128 - (intOf k).toNat)
  case atStart => exact ⟨0, Nat.zero_le _, rfl, rfl⟩
  case round =>
    obtain ⟨j, hj, rfl, rfl⟩ := hrel
    by_cases hlt : j < 128
    · have hc := HCELL.out j hlt
      have dj0 : (0 : Int) ≤ (j : Int) := by omega
      have dj1 : (j : Int) < 128 := by omega
      by_cases hA : 64 + j < off
      · rw [if_pos (.inl hA)] at hc
        have e1 : decide ((j : Int) + 64 < (off : Int)) = true := decide_eq_true (by omega)
        go_wp2
        go_roundw
        case rel => exact ⟨j + 1, by omega, by go_num, trivial⟩
        case measure => simp [intOf]; omega
      · by_cases hC : off + 4 ≤ 64 + j
        · rw [if_pos (.inr hC)] at hc
          have e1 : decide ((j : Int) + 64 < (off : Int)) = false := decide_eq_false (by omega)
          have e2 : decide ((off : Int) + 4 ≤ (j : Int) + 64) = true := decide_eq_true (by omega)
          go_wp2
          go_roundw
          case rel => exact ⟨j + 1, by omega, by go_num, trivial⟩
          case measure => simp [intOf]; omega
        · rw [if_neg (by omega)] at hc
          have e1 : decide ((j : Int) + 64 < (off : Int)) = false := decide_eq_false (by omega)
          have e2 : decide ((off : Int) + 4 ≤ (j : Int) + 64) = false := decide_eq_false (by omega)
          obtain ⟨dd, hdd⟩ : ∃ dd : Nat, 64 + j - off = dd := ⟨_, rfl⟩
          have hde : (j : Int) + 64 - (off : Int) = (dd : Int) := by omega
          have hd8 : dd < 4 := by omega
          rw [hdd, show (256 : Int) ^ dd = 2 ^ (8 * dd) by rw [Int.pow_mul]; rfl] at hc
          go_wp2
          go_roundw
          case rel => exact ⟨j + 1, by omega, by go_num, trivial⟩
          case measure => simp [intOf]; omega
    · obtain rfl : j = 128 := by omega
      go_wp2
      go_ret
      exact ⟨rfl, hfin⟩

set_option maxRecDepth 100000 in
set_option maxHeartbeats 4000000 in
theorem keeps_2 (x a d : Int) (w : World) (hx : 0 ≤ x ∧ x < 18446744073709551616) (ha : 0 ≤ a ∧ a < 256) (hd : 0 ≤ d ∧ d < 256) (hdk : d % 3 = 2) (hF : FormsIn w) (hO : OpsIn w) :
    Calls Tryd.prog 7 #[.int .u64 x, .int .u8 a, .int .u8 d] w fun e w' => e = .returned (.bool true) ∧ Below w.heap.size w w' := by
  have h2 := hO.two hF
  obtain ⟨off, hoff, ho, hm⟩ : ∃ off : Nat, (64 + 8 * (a % 8) : Int) = off ∧ (64 ≤ off ∧ off < 128) ∧ off % 8 = 0 := ⟨(64 + 8 * (a % 8)).toNat, by omega, by omega, by omega⟩
  have hok : kpOk 44 41 8 := by unfold kpOk; decide
  obtain ⟨MM, U, V, hrun, hU, hV, hml, hbyte⟩ := kp_fin hx hok ho hm
  have hU' : U = nrV true x 64 := hU
  have hblen := kp_bytes hok ho.2
  have HRUN := Lib.hid hrun; have HU := Lib.hid hU'; have HV := Lib.hid hV; have HBYTE := Lib.hid hbyte; have HBL := Lib.hid hblen
  clear hrun hU hU' hV hbyte hblen
  have hand : bits .and .u64 x 255 = x % 256 := kp_and x hx
  have hix : ∀ (x0 x1 x2 : Int) (W : World), (Instr.index 24 (.agg #[.int .i64 x0, .int .i64 x1, .int .i64 x2]) (.int .i64 2)).run Tryd.prog W = .ok (.int .i64 x2) W := fun _ _ _ _ => by kernel_rfl
  go_enter Tryd.func7, Tryd.ntmps7
  go_wp2_with fail
  refine (awake3 _ hF hO).mono ?_
  rintro e w1 ⟨rfl, b1⟩
  have hF1 := hF.keep b1 (Nat.le_refl _)
  have hO1 := hO.below b1
  clear hF hO
  go_wp2_with fail
  go_region
  go_wp2_with fail
  have hia : InsAt ((w1.alloc (Obj.cells #[.int .i64 44, .int .i64 0, .int .i64 0, .int .i64 5, .int .i64 off, .int .i64 41, .int .i64 6, .int .i64 0, .int .i64 0, .int .i64 off, .int .i64 39, .int .i64 7, .int .i64 0, .int .i64 0, .int .i64 off] 49)).drew) (some ⟨w1.heap.size, 0, none⟩) (kpL 44 41 off) := insAt_new w1 (kpL 44 41 off) _ rfl _
  refine (bytes_any (c := 3) (by rw [kpL_len]; decide) hia).mono ?_
  clear hia
  rintro e w2 ⟨v, rfl, hown, b2⟩
  obtain ⟨A, c, rfl, hsrc, -⟩ := src_own hown (bytesOf_range _)
  have hle : (bytesOf (kpL 44 41 off)).length ≤ 256 := by rw [HBL.out]; decide
  have B2 : Below w1.heap.size w1 w2 := (((Below.refl w1.heap.size w1).alloc (Nat.le_refl _) _).drew).trans (b2.mono (by show w1.heap.size ≤ (w1.alloc _).heap.size; simp only [szA]; omega))
  have hF2 := hF1.keep B2 (Nat.le_refl _)
  have hO2 := hO1.below B2
  have B12 := b1.trans (B2.mono b1.size)
  clear hF1 hO1 b1 B2 b2 hown
  go_wp2_with fail
  refine (ks_new (w0 := w) (N := 256) hle (by decide) hsrc hF2 hO2 B12 h2).mono ?_
  rintro e w3 ⟨rfl, k3⟩
  clear hF2 hO2 B12 hsrc hle
  generalize w2.heap.size = q at *
  go_wp2_with fail
  refine (ks_set k3 (k := 5) (by omega) x hx).mono ?_
  rintro e w4 ⟨rfl, k4⟩
  clear k3
  go_wp2_with fail
  refine (ks_watch k4 3 (by decide) (N := 3) rfl HRUN.out).mono ?_
  rintro e w5 ⟨oA, on, oc, sv, rfl, hov, hsv, k5, -⟩
  clear k4
  dsimp only at hov hsv k5
  obtain ⟨sg, sk, rfl, r0, r1⟩ := kp_rows hsv
  dsimp only at r0 r1
  clear hov hsv
  go_wp2_with fail
  refine (narrow_any true x 64 _ hx.1 (by decide) (by decide)).mono ?_
  rintro e w6 ⟨rfl, rfl⟩
  have k6 := k5.grow ((Below.refl w5.heap.size w5).alloc (Nat.le_refl _) (.cells #[.int .i64 0, .int .u8 0, .int .i64 0, .slice oA on oc, .int .i64 3, .int .i64 0] 39))
  have hr6 : Calls Tryd.prog 24 #[.pointer (some ⟨q + 1, 0, none⟩), .int .i64 6] (w5.alloc (.cells #[.int .i64 0, .int .u8 0, .int .i64 0, .slice oA on oc, .int .i64 3, .int .i64 0] 39)) fun e w' => e = .returned (.int .u64 U) ∧ (w5.alloc (.cells #[.int .i64 0, .int .u8 0, .int .i64 0, .slice oA on oc, .int .i64 3, .int .i64 0] 39)) = w' := ks_reg k6 (k := 6) (by omega)
  have hr7 : Calls Tryd.prog 24 #[.pointer (some ⟨q + 1, 0, none⟩), .int .i64 7] (w5.alloc (.cells #[.int .i64 0, .int .u8 0, .int .i64 0, .slice oA on oc, .int .i64 3, .int .i64 0] 39)) fun e w' => e = .returned (.int .u64 V) ∧ (w5.alloc (.cells #[.int .i64 0, .int .u8 0, .int .i64 0, .slice oA on oc, .int .i64 3, .int .i64 0] 39)) = w' := ks_reg k6 (k := 7) (by omega)
  rw [HV.out] at hr7
  have hpk : Calls Tryd.prog 25 #[.pointer (some ⟨q + 1, 0, none⟩), .int .i64 64, .int .i64 128] (w5.alloc (.cells #[.int .i64 0, .int .u8 0, .int .i64 0, .slice oA on oc, .int .i64 3, .int .i64 0] 39)) fun e w' => e = .returned (.tuple #[.slice (some ⟨(w5.alloc (.cells #[.int .i64 0, .int .u8 0, .int .i64 0, .slice oA on oc, .int .i64 3, .int .i64 0] 39)).heap.size, 0, none⟩) 128 128, .int .i64 0]) ∧ w'.heap[(w5.alloc (.cells #[.int .i64 0, .int .u8 0, .int .i64 0, .slice oA on oc, .int .i64 3, .int .i64 0] 39)).heap.size]? = some (.cells (u8s ((MM.drop 64).take 128)).toArray 5) ∧ Below (w5.alloc (.cells #[.int .i64 0, .int .u8 0, .int .i64 0, .slice oA on oc, .int .i64 3, .int .i64 0] 39)).heap.size (w5.alloc (.cells #[.int .i64 0, .int .u8 0, .int .i64 0, .slice oA on oc, .int .i64 3, .int .i64 0] 39)) w' := peek_in 64 128 k6.at_ k6.ok (by decide) (by show 64 + 128 ≤ MM.length; rw [hml]; decide)
  have HPK := Lib.hid hpk; clear hpk
  have HR6 := Lib.hid hr6; have HR7 := Lib.hid hr7; clear hr6 hr7
  have k6' := Lib.hid k6; clear k5 k6
  rw [← HU.out]
  have lq : sg < w5.heap.size := World.block_lt_of_cell? w5 _ (r0 0 _ rfl)
  have a0 : (w5.alloc (.cells #[.int .i64 0, .int .u8 0, .int .i64 0, .slice oA on oc, .int .i64 3, .int .i64 0] 39)).cell? ⟨sg, 0, none⟩ = some (.int .u64 0) := (World.cell?_alloc_lt _ _ _ lq).trans (r0 0 _ rfl)
  have a1 : (w5.alloc (.cells #[.int .i64 0, .int .u8 0, .int .i64 0, .slice oA on oc, .int .i64 3, .int .i64 0] 39)).cell? ⟨sg, 1, none⟩ = some (.int .u64 off) := (World.cell?_alloc_lt _ _ _ lq).trans (r0 1 _ rfl)
  have a2 : (w5.alloc (.cells #[.int .i64 0, .int .u8 0, .int .i64 0, .slice oA on oc, .int .i64 3, .int .i64 0] 39)).cell? ⟨sg, 2, none⟩ = some (.int .i64 8) := (World.cell?_alloc_lt _ _ _ lq).trans (r0 2 _ rfl)
  have a3 : (w5.alloc (.cells #[.int .i64 0, .int .u8 0, .int .i64 0, .slice oA on oc, .int .i64 3, .int .i64 0] 39)).cell? ⟨sg, 3, none⟩ = some (.bool true) := (World.cell?_alloc_lt _ _ _ lq).trans (r0 3 _ rfl)
  have c0 : (w5.alloc (.cells #[.int .i64 0, .int .u8 0, .int .i64 0, .slice oA on oc, .int .i64 3, .int .i64 0] 39)).cell? ⟨sg, 4, none⟩ = some (.int .u64 4) := (World.cell?_alloc_lt _ _ _ lq).trans (r1 0 _ rfl)
  have c1 : (w5.alloc (.cells #[.int .i64 0, .int .u8 0, .int .i64 0, .slice oA on oc, .int .i64 3, .int .i64 0] 39)).cell? ⟨sg, 5, none⟩ = some (.int .u64 off) := (World.cell?_alloc_lt _ _ _ lq).trans (r1 1 _ rfl)
  have c2 : (w5.alloc (.cells #[.int .i64 0, .int .u8 0, .int .i64 0, .slice oA on oc, .int .i64 3, .int .i64 0] 39)).cell? ⟨sg, 6, none⟩ = some (.int .i64 8) := (World.cell?_alloc_lt _ _ _ lq).trans (r1 2 _ rfl)
  have c3 : (w5.alloc (.cells #[.int .i64 0, .int .u8 0, .int .i64 0, .slice oA on oc, .int .i64 3, .int .i64 0] 39)).cell? ⟨sg, 7, none⟩ = some (.bool false) := (World.cell?_alloc_lt _ _ _ lq).trans (r1 3 _ rfl)
  clear r0 r1
  go_wp2_with (first | (go_at_call 24; (with_reducible refine HR6.out.mono ?_); rintro e w8 ⟨rfl, rfl⟩) | (go_at_call 24; (with_reducible refine HR7.out.mono ?_); rintro e w8 ⟨rfl, rfl⟩))
  refine HPK.out.mono ?_
  rintro e w7 ⟨rfl, hpb, b7⟩
  have hcell : ∀ j, j < 128 → w7.cell? ⟨w5.heap.size + 1, j, none⟩ = some (.int .u8 (if 64 + j < off ∨ off + 8 ≤ 64 + j then 0 else x / 256 ^ (64 + j - off) % 256)) := fun j hj => by
    rw [szA] at hpb
    rw [cell_of_row w7 _ j _ _ _ hpb, ← HBYTE.out j hj]
    simp [u8s, List.getElem?_take, hj, List.getD_eq_getElem?_getD, show 64 + j < MM.length by omega]
  have HCELL := Lib.hid hcell
  clear hcell hpb HPK HR6 HR7 HBYTE HRUN HU HV HBL a0 a1 a2 a3 c0 c1 c2 c3
  have hfin : Below w.heap.size w w7 := by
    have kb := k6'.out.below
    exact kb.trans (b7.mono kb.size)
  clear b7 k6'
  rw [szA]
  go_wp2
  go_loopw [129] (fun k wr => ∃ j : Nat, j ≤ 128 ∧ k = .int .i64 j ∧ wr = w7) (fun k _ => 128 - (intOf k).toNat)
  case atStart => exact ⟨0, Nat.zero_le _, rfl, rfl⟩
  case round =>
    obtain ⟨j, hj, rfl, rfl⟩ := hrel
    by_cases hlt : j < 128
    · have hc := HCELL.out j hlt
      have dj0 : (0 : Int) ≤ (j : Int) := by omega
      have dj1 : (j : Int) < 128 := by omega
      by_cases hA : 64 + j < off
      · rw [if_pos (.inl hA)] at hc
        have e1 : decide ((j : Int) + 64 < (off : Int)) = true := decide_eq_true (by omega)
        go_wp2
        go_roundw
        case rel => exact ⟨j + 1, by omega, by go_num, trivial⟩
        case measure => simp [intOf]; omega
      · by_cases hC : off + 8 ≤ 64 + j
        · rw [if_pos (.inr hC)] at hc
          have e1 : decide ((j : Int) + 64 < (off : Int)) = false := decide_eq_false (by omega)
          have e2 : decide ((off : Int) + 8 ≤ (j : Int) + 64) = true := decide_eq_true (by omega)
          go_wp2
          go_roundw
          case rel => exact ⟨j + 1, by omega, by go_num, trivial⟩
          case measure => simp [intOf]; omega
        · rw [if_neg (by omega)] at hc
          have e1 : decide ((j : Int) + 64 < (off : Int)) = false := decide_eq_false (by omega)
          have e2 : decide ((off : Int) + 8 ≤ (j : Int) + 64) = false := decide_eq_false (by omega)
          obtain ⟨dd, hdd⟩ : ∃ dd : Nat, 64 + j - off = dd := ⟨_, rfl⟩
          have hde : (j : Int) + 64 - (off : Int) = (dd : Int) := by omega
          have hd8 : dd < 8 := by omega
          rw [hdd, show (256 : Int) ^ dd = 2 ^ (8 * dd) by rw [Int.pow_mul]; rfl] at hc
          go_wp2
          go_roundw
          case rel => exact ⟨j + 1, by omega, by go_num, trivial⟩
          case measure => simp [intOf]; omega
    · obtain rfl : j = 128 := by omega
      go_wp2
      go_ret
      exact ⟨rfl, hfin⟩

theorem machKeeps_walk (x a d : Int) (w : World) (hx : 0 ≤ x ∧ x < 18446744073709551616) (ha : 0 ≤ a ∧ a < 256) (hd : 0 ≤ d ∧ d < 256) (hF : FormsIn w) (hO : OpsIn w) :
    Calls Tryd.prog 7 #[.int .u64 x, .int .u8 a, .int .u8 d] w fun e w' => e = .returned (.bool true) ∧ Below w.heap.size w w' := by
  have h3 : d % 3 = 0 ∨ d % 3 = 1 ∨ d % 3 = 2 := by omega
  rcases h3 with h | h | h
  · exact keeps_0 x a d w hx ha hd h hF hO
  · exact keeps_1 x a d w hx ha hd h hF hO
  · exact keeps_2 x a d w hx ha hd h hF hO
end Go.Proofs.YtlghhailckoonaaDoor
