/- Encode of package code, any instruction: the word, or what is wrong. Conditions: the table of forms as the program lays it, and that the numbers are of 64 bits. -/
import Derived.Test.YtpdflpkbamdbeaaDoorCodeEnc
namespace Go.Proofs.YtpdflpkbamdbeaaDoor
open Go.RowKit Go.Maps
set_option linter.unusedVariables false
set_option linter.unusedSimpArgs false
set_option maxRecDepth 10000
open Pc

section
variable (b1 b2 b3 : Bool) (fx lo hi st a0 w0 c0 a1 w1 c1 a2 w2 c2 a3 w3 c3 op rd r1 r2 n : Int)
theorem allows_N (w : World) (hd : decide (lo ≤ hi) = false) :
    Calls Tryd.prog 37 #[frm b1 b2 b3 fx lo hi st a0 w0 c0 a1 w1 c1 a2 w2 c2 a3 w3 c3, ins op rd r1 r2 n] w fun e w' => e = .returned (.bool (regB rd && regB r1 && regB r2)) ∧ Below w.heap.size w w' := by
  cases h1 : regB rd with
  | false => simpa using al_rd b1 b2 b3 fx lo hi st a0 w0 c0 a1 w1 c1 a2 w2 c2 a3 w3 c3 op rd r1 r2 n w h1
  | true =>
    cases h2 : regB r1 with
    | false => simpa using al_r1 b1 b2 b3 fx lo hi st a0 w0 c0 a1 w1 c1 a2 w2 c2 a3 w3 c3 op rd r1 r2 n w h1 h2
    | true =>
      cases h3 : regB r2 with
      | false => simpa using al_r2 b1 b2 b3 fx lo hi st a0 w0 c0 a1 w1 c1 a2 w2 c2 a3 w3 c3 op rd r1 r2 n w h1 h2 h3
      | true => simpa using al_no b1 b2 b3 fx lo hi st a0 w0 c0 a1 w1 c1 a2 w2 c2 a3 w3 c3 op rd r1 r2 n w h1 h2 h3 hd
theorem allows_one (w : World) (hd : decide (lo ≤ hi) = true) :
    Calls Tryd.prog 37 #[frm b1 b2 b3 fx lo hi 1 a0 w0 c0 a1 w1 c1 a2 w2 c2 a3 w3 c3, ins op rd r1 r2 n] w fun e w' => e = .returned (.bool (regB rd && regB r1 && regB r2 && (decide (lo ≤ n) && decide (n ≤ hi)))) ∧ Below w.heap.size w w' := by
  cases h1 : regB rd with
  | false => simpa using al_rd b1 b2 b3 fx lo hi 1 a0 w0 c0 a1 w1 c1 a2 w2 c2 a3 w3 c3 op rd r1 r2 n w h1
  | true =>
    cases h2 : regB r1 with
    | false => simpa using al_r1 b1 b2 b3 fx lo hi 1 a0 w0 c0 a1 w1 c1 a2 w2 c2 a3 w3 c3 op rd r1 r2 n w h1 h2
    | true =>
      cases h3 : regB r2 with
      | false => simpa using al_r2 b1 b2 b3 fx lo hi 1 a0 w0 c0 a1 w1 c1 a2 w2 c2 a3 w3 c3 op rd r1 r2 n w h1 h2 h3
      | true => simpa using al_one b1 b2 b3 fx lo hi a0 w0 c0 a1 w1 c1 a2 w2 c2 a3 w3 c3 op rd r1 r2 n w h1 h2 h3 hd
theorem allows_two (w : World) (hd : decide (lo ≤ hi) = true) :
    Calls Tryd.prog 37 #[frm b1 b2 b3 fx lo hi 2 a0 w0 c0 a1 w1 c1 a2 w2 c2 a3 w3 c3, ins op rd r1 r2 n] w fun e w' => e = .returned (.bool (regB rd && regB r1 && regB r2 && (decide (lo ≤ n) && decide (n ≤ hi) && (n % 2 == 0)))) ∧ Below w.heap.size w w' := by
  cases h1 : regB rd with
  | false => simpa using al_rd b1 b2 b3 fx lo hi 2 a0 w0 c0 a1 w1 c1 a2 w2 c2 a3 w3 c3 op rd r1 r2 n w h1
  | true =>
    cases h2 : regB r1 with
    | false => simpa using al_r1 b1 b2 b3 fx lo hi 2 a0 w0 c0 a1 w1 c1 a2 w2 c2 a3 w3 c3 op rd r1 r2 n w h1 h2
    | true =>
      cases h3 : regB r2 with
      | false => simpa using al_r2 b1 b2 b3 fx lo hi 2 a0 w0 c0 a1 w1 c1 a2 w2 c2 a3 w3 c3 op rd r1 r2 n w h1 h2 h3
      | true => simpa using al_two b1 b2 b3 fx lo hi a0 w0 c0 a1 w1 c1 a2 w2 c2 a3 w3 c3 op rd r1 r2 n w h1 h2 h3 hd
end
theorem regB_out {r : Int} (h : regB r = true) : 0 ≤ r ∧ r < 32 := by simpa [regB] using h
theorem allowB_out {k rd r1 r2 n : Int} (h : allowB k rd r1 r2 n = true) : regB rd = true ∧ regB r1 = true ∧ regB r2 = true := by
  unfold allowB at h
  simp only [Bool.and_eq_true] at h
  exact ⟨h.1.1.1, h.1.1.2, h.1.2⟩
theorem packV_range (k rd r1 r2 n : Int) (hrd : 0 ≤ rd ∧ rd < 32) (hr1 : 0 ≤ r1 ∧ r1 < 32) (hr2 : 0 ≤ r2 ∧ r2 < 32) (hp : ∀ p ∈ [(pcs k).getD 0 (0, 0, 0), (pcs k).getD 1 (0, 0, 0), (pcs k).getD 2 (0, 0, 0), (pcs k).getD 3 (0, 0, 0)], p.2.1 + p.2.2 ≤ 32) : 0 ≤ packV k rd r1 r2 n ∧ packV k rd r1 r2 n < 4294967296 := by
  refine ⟨orI_nonneg _ _, ?_⟩
  have q := fun p hp' => (putV_range p.1 p.2.1 p.2.2 n (hp p hp')).2
  unfold packV
  exact orI_lt _ _ (orI_lt _ _ (orI_lt _ _ (orI_lt _ _ (orI_lt _ _ (orI_lt _ _ (by omega) (by omega)) (by omega)) (q _ (by simp))) (q _ (by simp))) (q _ (by simp))) (q _ (by simp))
theorem keyV_range (o f g : Int) (ho : 0 ≤ o ∧ o < 128) (hf : 0 ≤ f ∧ f < 8) (hg : 0 ≤ g ∧ g < 128) : 0 ≤ keyV o f g ∧ keyV o f g < 4294967296 :=
  ⟨orI_nonneg _ _, orI_lt _ _ (orI_lt _ _ (by omega) (by omega)) (by omega)⟩
/-- The program's or, of the key and what is packed, is the word. -/
theorem or_final (k o f g rd r1 r2 n : Int) (hrow : okRow k o f g = true) (hz : zeroB k rd r1 r2 n = true) (ha : allowB k rd r1 r2 n = true) (hp : ∀ p ∈ [(pcs k).getD 0 (0, 0, 0), (pcs k).getD 1 (0, 0, 0), (pcs k).getD 2 (0, 0, 0), (pcs k).getD 3 (0, 0, 0)], p.2.1 + p.2.2 ≤ 32) :
    bits .or .u32 (keyV o f g) (packV k rd r1 r2 n) = word k o f g rd r1 r2 n := by
  obtain ⟨-, h1, h2, h3, h4, h5, h6, -⟩ := okRow_out hrow
  obtain ⟨q1, q2, q3⟩ := allowB_out ha
  have kr := keyV_range o f g ⟨h1, h2⟩ ⟨h3, h4⟩ ⟨h5, h6⟩
  have pr := packV_range k rd r1 r2 n (regB_out q1) (regB_out q2) (regB_out q3) hp
  rw [or32 _ _ kr.1 kr.2 pr.1 pr.2]
  exact or_word k o f g rd r1 r2 n hrow (by simp [encSt, hz, ha])

theorem enc_k0 (op rd r1 r2 n o f g : Int) (w : World) (h1 : 1 ≤ op) (h2 : op ≤ 55) (hrow : rowOf op = (0, o, f, g)) (hok : okRow 0 o f g = true) (hF : FormsIn w) :
    Calls Tryd.prog 14 #[ins op rd r1 r2 n] w fun e w' => e = .returned (.tuple #[.int .u32 (if zeroB 0 rd r1 r2 n && allowB 0 rd r1 r2 n then word 0 o f g rd r1 r2 n else 0), .int .i64 (if zeroB 0 rd r1 r2 n then (if allowB 0 rd r1 r2 n then 0 else 1) else 2)]) ∧ Below w.heap.size w w' := by
  obtain ⟨-, q1, q2, q3, q4, q5, q6, -⟩ := okRow_out hok
  refine enc_gen true true true 4261441663 1 0 0 0 0 0 0 0 0 0 0 0 0 0 0 op rd r1 r2 n o f g 0 (zeroB 0 rd r1 r2 n) (allowB 0 rd r1 r2 n) (packV 0 rd r1 r2 n) (word 0 o f g rd r1 r2 n) w h1 h2 (by decide) (Lib.hid (by rw [hrow]; rfl)) ⟨q1, q2⟩ ⟨q3, q4⟩ ⟨q5, q6⟩
    (fun W hb => ?_) (Lib.hid fun W => ?_) (Lib.hid fun _ W => ?_) (Lib.hid fun hz ha W => ?_) (Lib.hid fun hz ha => or_final 0 o f g rd r1 r2 n hok hz ha (by decide))
  · exact (hF.keep hb (Nat.le_refl _)).at 0 (by decide)
  · rw [show zeroB 0 rd r1 r2 n = (n == 0) by simp [zeroB, uRd, uR1, uR2, hasI]]
    exact leavesZero_R 4261441663 1 0 0 0 0 0 0 0 0 0 0 0 0 0 0 op rd r1 r2 n W (by decide)
  · rw [show allowB 0 rd r1 r2 n = (regB rd && regB r1 && regB r2) by simp [allowB, immB, hasI, loI, hiI, evI]]
    exact allows_N true true true 4261441663 1 0 0 0 0 0 0 0 0 0 0 0 0 0 0 op rd r1 r2 n W (by decide)
  · obtain ⟨p1, p2, p3⟩ := allowB_out ha
    exact pack_any true true true 4261441663 1 0 0 0 0 0 0 0 0 0 0 0 0 0 0 op rd r1 r2 n W (regB_out p1) (regB_out p2) (regB_out p3) (by unfold okP; omega) (by unfold okP; omega) (by unfold okP; omega) (by unfold okP; omega)

theorem enc_k1 (op rd r1 r2 n o f g : Int) (w : World) (h1 : 1 ≤ op) (h2 : op ≤ 55) (hrow : rowOf op = (1, o, f, g)) (hok : okRow 1 o f g = true) (hF : FormsIn w) :
    Calls Tryd.prog 14 #[ins op rd r1 r2 n] w fun e w' => e = .returned (.tuple #[.int .u32 (if zeroB 1 rd r1 r2 n && allowB 1 rd r1 r2 n then word 1 o f g rd r1 r2 n else 0), .int .i64 (if zeroB 1 rd r1 r2 n then (if allowB 1 rd r1 r2 n then 0 else 1) else 2)]) ∧ Below w.heap.size w w' := by
  obtain ⟨-, q1, q2, q3, q4, q5, q6, -⟩ := okRow_out hok
  refine enc_gen true true false 28799 (-2048) 2047 1 0 20 12 0 0 0 0 0 0 0 0 0 op rd r1 r2 n o f g 1 (zeroB 1 rd r1 r2 n) (allowB 1 rd r1 r2 n) (packV 1 rd r1 r2 n) (word 1 o f g rd r1 r2 n) w h1 h2 (by decide) (Lib.hid (by rw [hrow]; rfl)) ⟨q1, q2⟩ ⟨q3, q4⟩ ⟨q5, q6⟩
    (fun W hb => ?_) (Lib.hid fun W => ?_) (Lib.hid fun _ W => ?_) (Lib.hid fun hz ha W => ?_) (Lib.hid fun hz ha => or_final 1 o f g rd r1 r2 n hok hz ha (by decide))
  · exact (hF.keep hb (Nat.le_refl _)).at 1 (by decide)
  · rw [show zeroB 1 rd r1 r2 n = (r2 == 0) by simp [zeroB, uRd, uR1, uR2, hasI]]
    exact leavesZero_I 28799 (-2048) 2047 1 0 20 12 0 0 0 0 0 0 0 0 0 op rd r1 r2 n W (by decide)
  · rw [show allowB 1 rd r1 r2 n = (regB rd && regB r1 && regB r2 && (decide ((-2048) ≤ n) && decide (n ≤ 2047))) by simp [allowB, immB, hasI, loI, hiI, evI]]
    exact allows_one true true false 28799 (-2048) 2047 0 20 12 0 0 0 0 0 0 0 0 0 op rd r1 r2 n W (by decide)
  · obtain ⟨p1, p2, p3⟩ := allowB_out ha
    exact pack_any true true false 28799 (-2048) 2047 1 0 20 12 0 0 0 0 0 0 0 0 0 op rd r1 r2 n W (regB_out p1) (regB_out p2) (regB_out p3) (by unfold okP; omega) (by unfold okP; omega) (by unfold okP; omega) (by unfold okP; omega)

theorem enc_k2 (op rd r1 r2 n o f g : Int) (w : World) (h1 : 1 ≤ op) (h2 : op ≤ 55) (hrow : rowOf op = (2, o, f, g)) (hok : okRow 2 o f g = true) (hF : FormsIn w) :
    Calls Tryd.prog 14 #[ins op rd r1 r2 n] w fun e w' => e = .returned (.tuple #[.int .u32 (if zeroB 2 rd r1 r2 n && allowB 2 rd r1 r2 n then word 2 o f g rd r1 r2 n else 0), .int .i64 (if zeroB 2 rd r1 r2 n then (if allowB 2 rd r1 r2 n then 0 else 1) else 2)]) ∧ Below w.heap.size w w' := by
  obtain ⟨-, q1, q2, q3, q4, q5, q6, -⟩ := okRow_out hok
  refine enc_gen true true false 4227887231 0 63 1 0 20 6 0 0 0 0 0 0 0 0 0 op rd r1 r2 n o f g 2 (zeroB 2 rd r1 r2 n) (allowB 2 rd r1 r2 n) (packV 2 rd r1 r2 n) (word 2 o f g rd r1 r2 n) w h1 h2 (by decide) (Lib.hid (by rw [hrow]; rfl)) ⟨q1, q2⟩ ⟨q3, q4⟩ ⟨q5, q6⟩
    (fun W hb => ?_) (Lib.hid fun W => ?_) (Lib.hid fun _ W => ?_) (Lib.hid fun hz ha W => ?_) (Lib.hid fun hz ha => or_final 2 o f g rd r1 r2 n hok hz ha (by decide))
  · exact (hF.keep hb (Nat.le_refl _)).at 2 (by decide)
  · rw [show zeroB 2 rd r1 r2 n = (r2 == 0) by simp [zeroB, uRd, uR1, uR2, hasI]]
    exact leavesZero_I 4227887231 0 63 1 0 20 6 0 0 0 0 0 0 0 0 0 op rd r1 r2 n W (by decide)
  · rw [show allowB 2 rd r1 r2 n = (regB rd && regB r1 && regB r2 && (decide (0 ≤ n) && decide (n ≤ 63))) by simp [allowB, immB, hasI, loI, hiI, evI]]
    exact allows_one true true false 4227887231 0 63 0 20 6 0 0 0 0 0 0 0 0 0 op rd r1 r2 n W (by decide)
  · obtain ⟨p1, p2, p3⟩ := allowB_out ha
    exact pack_any true true false 4227887231 0 63 1 0 20 6 0 0 0 0 0 0 0 0 0 op rd r1 r2 n W (regB_out p1) (regB_out p2) (regB_out p3) (by unfold okP; omega) (by unfold okP; omega) (by unfold okP; omega) (by unfold okP; omega)

theorem enc_k3 (op rd r1 r2 n o f g : Int) (w : World) (h1 : 1 ≤ op) (h2 : op ≤ 55) (hrow : rowOf op = (3, o, f, g)) (hok : okRow 3 o f g = true) (hF : FormsIn w) :
    Calls Tryd.prog 14 #[ins op rd r1 r2 n] w fun e w' => e = .returned (.tuple #[.int .u32 (if zeroB 3 rd r1 r2 n && allowB 3 rd r1 r2 n then word 3 o f g rd r1 r2 n else 0), .int .i64 (if zeroB 3 rd r1 r2 n then (if allowB 3 rd r1 r2 n then 0 else 1) else 2)]) ∧ Below w.heap.size w w' := by
  obtain ⟨-, q1, q2, q3, q4, q5, q6, -⟩ := okRow_out hok
  refine enc_gen false true true 28799 (-2048) 2047 1 0 7 5 5 25 7 0 0 0 0 0 0 op rd r1 r2 n o f g 3 (zeroB 3 rd r1 r2 n) (allowB 3 rd r1 r2 n) (packV 3 rd r1 r2 n) (word 3 o f g rd r1 r2 n) w h1 h2 (by decide) (Lib.hid (by rw [hrow]; rfl)) ⟨q1, q2⟩ ⟨q3, q4⟩ ⟨q5, q6⟩
    (fun W hb => ?_) (Lib.hid fun W => ?_) (Lib.hid fun _ W => ?_) (Lib.hid fun hz ha W => ?_) (Lib.hid fun hz ha => or_final 3 o f g rd r1 r2 n hok hz ha (by decide))
  · exact (hF.keep hb (Nat.le_refl _)).at 3 (by decide)
  · rw [show zeroB 3 rd r1 r2 n = (rd == 0) by simp [zeroB, uRd, uR1, uR2, hasI]]
    exact leavesZero_S 28799 (-2048) 2047 1 0 7 5 5 25 7 0 0 0 0 0 0 op rd r1 r2 n W (by decide)
  · rw [show allowB 3 rd r1 r2 n = (regB rd && regB r1 && regB r2 && (decide ((-2048) ≤ n) && decide (n ≤ 2047))) by simp [allowB, immB, hasI, loI, hiI, evI]]
    exact allows_one false true true 28799 (-2048) 2047 0 7 5 5 25 7 0 0 0 0 0 0 op rd r1 r2 n W (by decide)
  · obtain ⟨p1, p2, p3⟩ := allowB_out ha
    exact pack_any false true true 28799 (-2048) 2047 1 0 7 5 5 25 7 0 0 0 0 0 0 op rd r1 r2 n W (regB_out p1) (regB_out p2) (regB_out p3) (by unfold okP; omega) (by unfold okP; omega) (by unfold okP; omega) (by unfold okP; omega)

theorem enc_k4 (op rd r1 r2 n o f g : Int) (w : World) (h1 : 1 ≤ op) (h2 : op ≤ 55) (hrow : rowOf op = (4, o, f, g)) (hok : okRow 4 o f g = true) (hF : FormsIn w) :
    Calls Tryd.prog 14 #[ins op rd r1 r2 n] w fun e w' => e = .returned (.tuple #[.int .u32 (if zeroB 4 rd r1 r2 n && allowB 4 rd r1 r2 n then word 4 o f g rd r1 r2 n else 0), .int .i64 (if zeroB 4 rd r1 r2 n then (if allowB 4 rd r1 r2 n then 0 else 1) else 2)]) ∧ Below w.heap.size w w' := by
  obtain ⟨-, q1, q2, q3, q4, q5, q6, -⟩ := okRow_out hok
  refine enc_gen false true true 28799 (-4096) 4094 2 11 7 1 1 8 4 5 25 6 12 31 1 op rd r1 r2 n o f g 4 (zeroB 4 rd r1 r2 n) (allowB 4 rd r1 r2 n) (packV 4 rd r1 r2 n) (word 4 o f g rd r1 r2 n) w h1 h2 (by decide) (Lib.hid (by rw [hrow]; rfl)) ⟨q1, q2⟩ ⟨q3, q4⟩ ⟨q5, q6⟩
    (fun W hb => ?_) (Lib.hid fun W => ?_) (Lib.hid fun _ W => ?_) (Lib.hid fun hz ha W => ?_) (Lib.hid fun hz ha => or_final 4 o f g rd r1 r2 n hok hz ha (by decide))
  · exact (hF.keep hb (Nat.le_refl _)).at 4 (by decide)
  · rw [show zeroB 4 rd r1 r2 n = (rd == 0) by simp [zeroB, uRd, uR1, uR2, hasI]]
    exact leavesZero_S 28799 (-4096) 4094 2 11 7 1 1 8 4 5 25 6 12 31 1 op rd r1 r2 n W (by decide)
  · rw [show allowB 4 rd r1 r2 n = (regB rd && regB r1 && regB r2 && (decide ((-4096) ≤ n) && decide (n ≤ 4094) && (n % 2 == 0))) by simp [allowB, immB, hasI, loI, hiI, evI]]
    exact allows_two false true true 28799 (-4096) 4094 11 7 1 1 8 4 5 25 6 12 31 1 op rd r1 r2 n W (by decide)
  · obtain ⟨p1, p2, p3⟩ := allowB_out ha
    exact pack_any false true true 28799 (-4096) 4094 2 11 7 1 1 8 4 5 25 6 12 31 1 op rd r1 r2 n W (regB_out p1) (regB_out p2) (regB_out p3) (by unfold okP; omega) (by unfold okP; omega) (by unfold okP; omega) (by unfold okP; omega)

theorem enc_k5 (op rd r1 r2 n o f g : Int) (w : World) (h1 : 1 ≤ op) (h2 : op ≤ 55) (hrow : rowOf op = (5, o, f, g)) (hok : okRow 5 o f g = true) (hF : FormsIn w) :
    Calls Tryd.prog 14 #[ins op rd r1 r2 n] w fun e w' => e = .returned (.tuple #[.int .u32 (if zeroB 5 rd r1 r2 n && allowB 5 rd r1 r2 n then word 5 o f g rd r1 r2 n else 0), .int .i64 (if zeroB 5 rd r1 r2 n then (if allowB 5 rd r1 r2 n then 0 else 1) else 2)]) ∧ Below w.heap.size w w' := by
  obtain ⟨-, q1, q2, q3, q4, q5, q6, -⟩ := okRow_out hok
  refine enc_gen true false false 127 (-524288) 524287 1 0 12 20 0 0 0 0 0 0 0 0 0 op rd r1 r2 n o f g 5 (zeroB 5 rd r1 r2 n) (allowB 5 rd r1 r2 n) (packV 5 rd r1 r2 n) (word 5 o f g rd r1 r2 n) w h1 h2 (by decide) (Lib.hid (by rw [hrow]; rfl)) ⟨q1, q2⟩ ⟨q3, q4⟩ ⟨q5, q6⟩
    (fun W hb => ?_) (Lib.hid fun W => ?_) (Lib.hid fun _ W => ?_) (Lib.hid fun hz ha W => ?_) (Lib.hid fun hz ha => or_final 5 o f g rd r1 r2 n hok hz ha (by decide))
  · exact (hF.keep hb (Nat.le_refl _)).at 5 (by decide)
  · rw [show zeroB 5 rd r1 r2 n = ((r1 == 0) && (r2 == 0)) by simp [zeroB, uRd, uR1, uR2, hasI]]
    exact leavesZero_U 127 (-524288) 524287 1 0 12 20 0 0 0 0 0 0 0 0 0 op rd r1 r2 n W (by decide)
  · rw [show allowB 5 rd r1 r2 n = (regB rd && regB r1 && regB r2 && (decide ((-524288) ≤ n) && decide (n ≤ 524287))) by simp [allowB, immB, hasI, loI, hiI, evI]]
    exact allows_one true false false 127 (-524288) 524287 0 12 20 0 0 0 0 0 0 0 0 0 op rd r1 r2 n W (by decide)
  · obtain ⟨p1, p2, p3⟩ := allowB_out ha
    exact pack_any true false false 127 (-524288) 524287 1 0 12 20 0 0 0 0 0 0 0 0 0 op rd r1 r2 n W (regB_out p1) (regB_out p2) (regB_out p3) (by unfold okP; omega) (by unfold okP; omega) (by unfold okP; omega) (by unfold okP; omega)

theorem enc_k6 (op rd r1 r2 n o f g : Int) (w : World) (h1 : 1 ≤ op) (h2 : op ≤ 55) (hrow : rowOf op = (6, o, f, g)) (hok : okRow 6 o f g = true) (hF : FormsIn w) :
    Calls Tryd.prog 14 #[ins op rd r1 r2 n] w fun e w' => e = .returned (.tuple #[.int .u32 (if zeroB 6 rd r1 r2 n && allowB 6 rd r1 r2 n then word 6 o f g rd r1 r2 n else 0), .int .i64 (if zeroB 6 rd r1 r2 n then (if allowB 6 rd r1 r2 n then 0 else 1) else 2)]) ∧ Below w.heap.size w w' := by
  obtain ⟨-, q1, q2, q3, q4, q5, q6, -⟩ := okRow_out hok
  refine enc_gen true false false 127 (-1048576) 1048574 2 12 12 8 11 20 1 1 21 10 20 31 1 op rd r1 r2 n o f g 6 (zeroB 6 rd r1 r2 n) (allowB 6 rd r1 r2 n) (packV 6 rd r1 r2 n) (word 6 o f g rd r1 r2 n) w h1 h2 (by decide) (Lib.hid (by rw [hrow]; rfl)) ⟨q1, q2⟩ ⟨q3, q4⟩ ⟨q5, q6⟩
    (fun W hb => ?_) (Lib.hid fun W => ?_) (Lib.hid fun _ W => ?_) (Lib.hid fun hz ha W => ?_) (Lib.hid fun hz ha => or_final 6 o f g rd r1 r2 n hok hz ha (by decide))
  · exact (hF.keep hb (Nat.le_refl _)).at 6 (by decide)
  · rw [show zeroB 6 rd r1 r2 n = ((r1 == 0) && (r2 == 0)) by simp [zeroB, uRd, uR1, uR2, hasI]]
    exact leavesZero_U 127 (-1048576) 1048574 2 12 12 8 11 20 1 1 21 10 20 31 1 op rd r1 r2 n W (by decide)
  · rw [show allowB 6 rd r1 r2 n = (regB rd && regB r1 && regB r2 && (decide ((-1048576) ≤ n) && decide (n ≤ 1048574) && (n % 2 == 0))) by simp [allowB, immB, hasI, loI, hiI, evI]]
    exact allows_two true false false 127 (-1048576) 1048574 12 12 8 11 20 1 1 21 10 20 31 1 op rd r1 r2 n W (by decide)
  · obtain ⟨p1, p2, p3⟩ := allowB_out ha
    exact pack_any true false false 127 (-1048576) 1048574 2 12 12 8 11 20 1 1 21 10 20 31 1 op rd r1 r2 n W (regB_out p1) (regB_out p2) (regB_out p3) (by unfold okP; omega) (by unfold okP; omega) (by unfold okP; omega) (by unfold okP; omega)

theorem enc_k7 (op rd r1 r2 n o f g : Int) (w : World) (h1 : 1 ≤ op) (h2 : op ≤ 55) (hrow : rowOf op = (7, o, f, g)) (hok : okRow 7 o f g = true) (hF : FormsIn w) :
    Calls Tryd.prog 14 #[ins op rd r1 r2 n] w fun e w' => e = .returned (.tuple #[.int .u32 (if zeroB 7 rd r1 r2 n && allowB 7 rd r1 r2 n then word 7 o f g rd r1 r2 n else 0), .int .i64 (if zeroB 7 rd r1 r2 n then (if allowB 7 rd r1 r2 n then 0 else 1) else 2)]) ∧ Below w.heap.size w w' := by
  obtain ⟨-, q1, q2, q3, q4, q5, q6, -⟩ := okRow_out hok
  refine enc_gen false false false 4294967295 1 0 0 0 0 0 0 0 0 0 0 0 0 0 0 op rd r1 r2 n o f g 7 (zeroB 7 rd r1 r2 n) (allowB 7 rd r1 r2 n) (packV 7 rd r1 r2 n) (word 7 o f g rd r1 r2 n) w h1 h2 (by decide) (Lib.hid (by rw [hrow]; rfl)) ⟨q1, q2⟩ ⟨q3, q4⟩ ⟨q5, q6⟩
    (fun W hb => ?_) (Lib.hid fun W => ?_) (Lib.hid fun _ W => ?_) (Lib.hid fun hz ha W => ?_) (Lib.hid fun hz ha => or_final 7 o f g rd r1 r2 n hok hz ha (by decide))
  · exact (hF.keep hb (Nat.le_refl _)).at 7 (by decide)
  · rw [show zeroB 7 rd r1 r2 n = ((rd == 0) && (r1 == 0) && (r2 == 0) && (n == 0)) by simp [zeroB, uRd, uR1, uR2, hasI]]
    exact leavesZero_N 4294967295 1 0 0 0 0 0 0 0 0 0 0 0 0 0 0 op rd r1 r2 n W (by decide)
  · rw [show allowB 7 rd r1 r2 n = (regB rd && regB r1 && regB r2) by simp [allowB, immB, hasI, loI, hiI, evI]]
    exact allows_N false false false 4294967295 1 0 0 0 0 0 0 0 0 0 0 0 0 0 0 op rd r1 r2 n W (by decide)
  · obtain ⟨p1, p2, p3⟩ := allowB_out ha
    exact pack_any false false false 4294967295 1 0 0 0 0 0 0 0 0 0 0 0 0 0 0 op rd r1 r2 n W (regB_out p1) (regB_out p2) (regB_out p3) (by unfold okP; omega) (by unfold okP; omega) (by unfold okP; omega) (by unfold okP; omega)

/-- Encode, of any instruction. -/
theorem encode_any (op rd r1 r2 n : Int) (w : World) (hop : (Lit.int .i64 op).wf = true) (hF : FormsIn w) :
    Calls Tryd.prog 14 #[ins op rd r1 r2 n] w fun e w' => e = .returned (.tuple #[.int .u32 (encW op rd r1 r2 n), .int .i64 (encS op rd r1 r2 n)]) ∧ Below w.heap.size w w' := by
  by_cases h : 1 ≤ op ∧ op ≤ 55
  · obtain ⟨h1, h2⟩ := h
    have hok := rowOf_ok op h1 h2
    have es : encS op rd r1 r2 n = encSt (rowOf op).1 rd r1 r2 n := by simp [encS, h1, h2]
    have ew : encW op rd r1 r2 n = if encSt (rowOf op).1 rd r1 r2 n = 0 then word (rowOf op).1 (rowOf op).2.1 (rowOf op).2.2.1 (rowOf op).2.2.2 rd r1 r2 n else 0 := by simp only [encW, es]
    rcases hr : rowOf op with ⟨k, o, f, g⟩
    rw [es, ew]
    simp only [hr] at hok ⊢
    have fin : ∀ k : Int, (fun (e : Ending) (w' : World) => e = Ending.returned (.tuple #[.int .u32 (if encSt k rd r1 r2 n = 0 then word k o f g rd r1 r2 n else 0), .int .i64 (encSt k rd r1 r2 n)]) ∧ Below w.heap.size w w') =
        fun e w' => e = .returned (.tuple #[.int .u32 (if zeroB k rd r1 r2 n && allowB k rd r1 r2 n then word k o f g rd r1 r2 n else 0), .int .i64 (if zeroB k rd r1 r2 n then (if allowB k rd r1 r2 n then 0 else 1) else 2)]) ∧ Below w.heap.size w w' := by
      intro k
      unfold encSt
      cases zeroB k rd r1 r2 n <;> cases allowB k rd r1 r2 n <;> simp
    rw [fin k]
    obtain ⟨hk, -⟩ := okRow_out hok
    rcases hk with rfl | rfl | rfl | rfl | rfl | rfl | rfl | rfl
    · exact enc_k0 op rd r1 r2 n o f g w h1 h2 hr hok hF
    · exact enc_k1 op rd r1 r2 n o f g w h1 h2 hr hok hF
    · exact enc_k2 op rd r1 r2 n o f g w h1 h2 hr hok hF
    · exact enc_k3 op rd r1 r2 n o f g w h1 h2 hr hok hF
    · exact enc_k4 op rd r1 r2 n o f g w h1 h2 hr hok hF
    · exact enc_k5 op rd r1 r2 n o f g w h1 h2 hr hok hF
    · exact enc_k6 op rd r1 r2 n o f g w h1 h2 hr hok hF
    · exact enc_k7 op rd r1 r2 n o f g w h1 h2 hr hok hF
  · have es : encS op rd r1 r2 n = 2 := by simp only [encS, if_neg h]
    have ew : encW op rd r1 r2 n = 0 := by simp [encW, es]
    rw [es, ew]
    exact enc_out op rd r1 r2 n w hop h
end Go.Proofs.YtpdflpkbamdbeaaDoor
