/- The document's Encode, form by form. At most new blocks in memory. Conditions: each theorem's form and outcome. -/
import Derived.Test.YtppcbommaddkgaaDoorCodeRencH
import Derived.RegionTactic
import Derived.BigRegion
namespace Go.Proofs.YtppcbommaddkgaaDoor
open Go.RowKit
set_option linter.unusedVariables false
set_option linter.unusedSimpArgs false
set_option maxRecDepth 10000
open Pc
set_option maxRecDepth 100000 in
set_option maxHeartbeats 4000000 in
theorem renc_U_zr1 (op rd r1 r2 n o f g : Int) (w : World) (hof : ∀ w : World, Calls Tryd.prog 37 #[.int .i64 op] w fun e w' => e = .returned (.agg #[.int .u8 85, .int .i64 o, .int .i64 f, .int .i64 g]) ∧ Below w.heap.size w w')
    (ho : 0 ≤ o ∧ o < 128) (hf : 0 ≤ f ∧ f < 8) (hg : 0 ≤ g ∧ g < 128) (g0 : g = 0) (f0 : f = 0) (h0 : decide (r1 = 0) = false) :
    Calls Tryd.prog 26 #[ins op rd r1 r2 n] w fun e w' => e = .returned (.tuple #[.int .u32 (0), .int .i64 2]) ∧ Below w.heap.size w w' := by
  have j0 := h0; simp at j0
  go_enter Tryd.func26, Tryd.ntmps26
  go_wp2_with (first | (go_at_call 37; refine (hof _).mono ?_; rintro e w1 ⟨rfl, hb⟩; obtain ⟨hz, hlt, hne, q0, q1, q2, q3, q4⟩ := box_after hb) | (go_at_call 38; refine (room_U _).mono ?_; rintro e w2 ⟨rfl, rfl⟩))
  go_quiet (fail)
  go_wp2_with (first | (go_at_call 37; refine (hof _).mono ?_; rintro e w1 ⟨rfl, hb⟩; obtain ⟨hz, hlt, hne, q0, q1, q2, q3, q4⟩ := box_after hb) | (go_at_call 38; refine (room_U _).mono ?_; rintro e w2 ⟨rfl, rfl⟩))
  go_ret2
  refine ⟨ret_2 ?_, ?_⟩
  · rfl
  · first | exact belowQ _ (below_end hb) | exact belowQ _ (belowQ _ (below_end hb)) | exact belowQ _ (belowQ _ (belowQ _ (below_end hb)))
set_option maxRecDepth 100000 in
set_option maxHeartbeats 4000000 in
theorem renc_U_zr2 (op rd r1 r2 n o f g : Int) (w : World) (hof : ∀ w : World, Calls Tryd.prog 37 #[.int .i64 op] w fun e w' => e = .returned (.agg #[.int .u8 85, .int .i64 o, .int .i64 f, .int .i64 g]) ∧ Below w.heap.size w w')
    (ho : 0 ≤ o ∧ o < 128) (hf : 0 ≤ f ∧ f < 8) (hg : 0 ≤ g ∧ g < 128) (g0 : g = 0) (f0 : f = 0) (h0 : decide (r2 = 0) = false) :
    Calls Tryd.prog 26 #[ins op rd 0 r2 n] w fun e w' => e = .returned (.tuple #[.int .u32 (0), .int .i64 2]) ∧ Below w.heap.size w w' := by
  have j0 := h0; simp at j0
  go_enter Tryd.func26, Tryd.ntmps26
  go_wp2_with (first | (go_at_call 37; refine (hof _).mono ?_; rintro e w1 ⟨rfl, hb⟩; obtain ⟨hz, hlt, hne, q0, q1, q2, q3, q4⟩ := box_after hb) | (go_at_call 38; refine (room_U _).mono ?_; rintro e w2 ⟨rfl, rfl⟩))
  go_quiet (fail)
  go_wp2_with (first | (go_at_call 37; refine (hof _).mono ?_; rintro e w1 ⟨rfl, hb⟩; obtain ⟨hz, hlt, hne, q0, q1, q2, q3, q4⟩ := box_after hb) | (go_at_call 38; refine (room_U _).mono ?_; rintro e w2 ⟨rfl, rfl⟩))
  go_ret2
  refine ⟨ret_2 ?_, ?_⟩
  · rfl
  · first | exact belowQ _ (below_end hb) | exact belowQ _ (belowQ _ (below_end hb)) | exact belowQ _ (belowQ _ (belowQ _ (below_end hb)))
set_option maxRecDepth 100000 in
set_option maxHeartbeats 4000000 in
theorem renc_U_rd_lo (op rd r1 r2 n o f g : Int) (w : World) (hof : ∀ w : World, Calls Tryd.prog 37 #[.int .i64 op] w fun e w' => e = .returned (.agg #[.int .u8 85, .int .i64 o, .int .i64 f, .int .i64 g]) ∧ Below w.heap.size w w')
    (ho : 0 ≤ o ∧ o < 128) (hf : 0 ≤ f ∧ f < 8) (hg : 0 ≤ g ∧ g < 128) (g0 : g = 0) (f0 : f = 0) (h0 : decide (rd < 0) = true) :
    Calls Tryd.prog 26 #[ins op rd 0 0 n] w fun e w' => e = .returned (.tuple #[.int .u32 (0), .int .i64 1]) ∧ Below w.heap.size w w' := by
  have j0 := h0; simp at j0
  go_enter Tryd.func26, Tryd.ntmps26
  go_wp2_with (first | (go_at_call 37; refine (hof _).mono ?_; rintro e w1 ⟨rfl, hb⟩; obtain ⟨hz, hlt, hne, q0, q1, q2, q3, q4⟩ := box_after hb) | (go_at_call 38; refine (room_U _).mono ?_; rintro e w2 ⟨rfl, rfl⟩))
  go_quiet (fail)
  go_wp2_with (first | (go_at_call 37; refine (hof _).mono ?_; rintro e w1 ⟨rfl, hb⟩; obtain ⟨hz, hlt, hne, q0, q1, q2, q3, q4⟩ := box_after hb) | (go_at_call 38; refine (room_U _).mono ?_; rintro e w2 ⟨rfl, rfl⟩))
  go_ret2
  refine ⟨ret_2 ?_, ?_⟩
  · rfl
  · first | exact belowQ _ (below_end hb) | exact belowQ _ (belowQ _ (below_end hb)) | exact belowQ _ (belowQ _ (belowQ _ (below_end hb)))
set_option maxRecDepth 100000 in
set_option maxHeartbeats 4000000 in
theorem renc_U_rd_hi (op rd r1 r2 n o f g : Int) (w : World) (hof : ∀ w : World, Calls Tryd.prog 37 #[.int .i64 op] w fun e w' => e = .returned (.agg #[.int .u8 85, .int .i64 o, .int .i64 f, .int .i64 g]) ∧ Below w.heap.size w w')
    (ho : 0 ≤ o ∧ o < 128) (hf : 0 ≤ f ∧ f < 8) (hg : 0 ≤ g ∧ g < 128) (g0 : g = 0) (f0 : f = 0) (h0 : decide (rd < 0) = false) (h1 : decide (rd > 31) = true) :
    Calls Tryd.prog 26 #[ins op rd 0 0 n] w fun e w' => e = .returned (.tuple #[.int .u32 (0), .int .i64 1]) ∧ Below w.heap.size w w' := by
  have j0 := h0; simp at j0
  have j1 := h1; simp at j1
  go_enter Tryd.func26, Tryd.ntmps26
  go_wp2_with (first | (go_at_call 37; refine (hof _).mono ?_; rintro e w1 ⟨rfl, hb⟩; obtain ⟨hz, hlt, hne, q0, q1, q2, q3, q4⟩ := box_after hb) | (go_at_call 38; refine (room_U _).mono ?_; rintro e w2 ⟨rfl, rfl⟩))
  go_quiet (fail)
  go_wp2_with (first | (go_at_call 37; refine (hof _).mono ?_; rintro e w1 ⟨rfl, hb⟩; obtain ⟨hz, hlt, hne, q0, q1, q2, q3, q4⟩ := box_after hb) | (go_at_call 38; refine (room_U _).mono ?_; rintro e w2 ⟨rfl, rfl⟩))
  go_ret2
  refine ⟨ret_2 ?_, ?_⟩
  · rfl
  · first | exact belowQ _ (below_end hb) | exact belowQ _ (belowQ _ (below_end hb)) | exact belowQ _ (belowQ _ (belowQ _ (below_end hb)))
set_option maxRecDepth 100000 in
set_option maxHeartbeats 4000000 in
theorem renc_U_n_lo (op rd r1 r2 n o f g : Int) (w : World) (hof : ∀ w : World, Calls Tryd.prog 37 #[.int .i64 op] w fun e w' => e = .returned (.agg #[.int .u8 85, .int .i64 o, .int .i64 f, .int .i64 g]) ∧ Below w.heap.size w w')
    (ho : 0 ≤ o ∧ o < 128) (hf : 0 ≤ f ∧ f < 8) (hg : 0 ≤ g ∧ g < 128) (g0 : g = 0) (f0 : f = 0) (h0 : decide (rd < 0) = false) (h1 : decide (rd > 31) = false) (h2 : decide (n < -524288) = true) :
    Calls Tryd.prog 26 #[ins op rd 0 0 n] w fun e w' => e = .returned (.tuple #[.int .u32 (0), .int .i64 1]) ∧ Below w.heap.size w w' := by
  have j0 := h0; simp at j0
  have j1 := h1; simp at j1
  have j2 := h2; simp at j2
  go_enter Tryd.func26, Tryd.ntmps26
  go_wp2_with (first | (go_at_call 37; refine (hof _).mono ?_; rintro e w1 ⟨rfl, hb⟩; obtain ⟨hz, hlt, hne, q0, q1, q2, q3, q4⟩ := box_after hb) | (go_at_call 38; refine (room_U _).mono ?_; rintro e w2 ⟨rfl, rfl⟩))
  go_quiet (fail)
  go_wp2_with (first | (go_at_call 37; refine (hof _).mono ?_; rintro e w1 ⟨rfl, hb⟩; obtain ⟨hz, hlt, hne, q0, q1, q2, q3, q4⟩ := box_after hb) | (go_at_call 38; refine (room_U _).mono ?_; rintro e w2 ⟨rfl, rfl⟩))
  go_ret2
  refine ⟨ret_2 ?_, ?_⟩
  · rfl
  · first | exact belowQ _ (below_end hb) | exact belowQ _ (belowQ _ (below_end hb)) | exact belowQ _ (belowQ _ (belowQ _ (below_end hb)))
set_option maxRecDepth 100000 in
set_option maxHeartbeats 4000000 in
theorem renc_U_n_hi (op rd r1 r2 n o f g : Int) (w : World) (hof : ∀ w : World, Calls Tryd.prog 37 #[.int .i64 op] w fun e w' => e = .returned (.agg #[.int .u8 85, .int .i64 o, .int .i64 f, .int .i64 g]) ∧ Below w.heap.size w w')
    (ho : 0 ≤ o ∧ o < 128) (hf : 0 ≤ f ∧ f < 8) (hg : 0 ≤ g ∧ g < 128) (g0 : g = 0) (f0 : f = 0) (h0 : decide (rd < 0) = false) (h1 : decide (rd > 31) = false) (h2 : decide (n < -524288) = false) (h3 : decide (n > 524287) = true) :
    Calls Tryd.prog 26 #[ins op rd 0 0 n] w fun e w' => e = .returned (.tuple #[.int .u32 (0), .int .i64 1]) ∧ Below w.heap.size w w' := by
  have j0 := h0; simp at j0
  have j1 := h1; simp at j1
  have j2 := h2; simp at j2
  have j3 := h3; simp at j3
  go_enter Tryd.func26, Tryd.ntmps26
  go_wp2_with (first | (go_at_call 37; refine (hof _).mono ?_; rintro e w1 ⟨rfl, hb⟩; obtain ⟨hz, hlt, hne, q0, q1, q2, q3, q4⟩ := box_after hb) | (go_at_call 38; refine (room_U _).mono ?_; rintro e w2 ⟨rfl, rfl⟩))
  go_quiet (fail)
  go_wp2_with (first | (go_at_call 37; refine (hof _).mono ?_; rintro e w1 ⟨rfl, hb⟩; obtain ⟨hz, hlt, hne, q0, q1, q2, q3, q4⟩ := box_after hb) | (go_at_call 38; refine (room_U _).mono ?_; rintro e w2 ⟨rfl, rfl⟩))
  go_ret2
  refine ⟨ret_2 ?_, ?_⟩
  · rfl
  · first | exact belowQ _ (below_end hb) | exact belowQ _ (belowQ _ (below_end hb)) | exact belowQ _ (belowQ _ (belowQ _ (below_end hb)))
set_option maxRecDepth 100000 in
set_option maxHeartbeats 4000000 in
theorem renc_U_ok (op rd r1 r2 n o f g : Int) (w : World) (hof : ∀ w : World, Calls Tryd.prog 37 #[.int .i64 op] w fun e w' => e = .returned (.agg #[.int .u8 85, .int .i64 o, .int .i64 f, .int .i64 g]) ∧ Below w.heap.size w w')
    (ho : 0 ≤ o ∧ o < 128) (hf : 0 ≤ f ∧ f < 8) (hg : 0 ≤ g ∧ g < 128) (g0 : g = 0) (f0 : f = 0) (h0 : decide (rd < 0) = false) (h1 : decide (rd > 31) = false) (h2 : decide (n < -524288) = false) (h3 : decide (n > 524287) = false) :
    Calls Tryd.prog 26 #[ins op rd 0 0 n] w fun e w' => e = .returned (.tuple #[.int .u32 (word 5 o f g rd 0 0 n), .int .i64 0]) ∧ Below w.heap.size w w' := by
  have j0 := h0; simp at j0
  have j1 := h1; simp at j1
  have j2 := h2; simp at j2
  have j3 := h3; simp at j3
  have hnr : -1048576 ≤ n ∧ n < 1048576 := by omega
  go_enter Tryd.func26, Tryd.ntmps26
  go_wp2_with (first | (go_at_call 37; refine (hof _).mono ?_; rintro e w1 ⟨rfl, hb⟩; obtain ⟨hz, hlt, hne, q0, q1, q2, q3, q4⟩ := box_after hb) | (go_at_call 38; refine (room_U _).mono ?_; rintro e w2 ⟨rfl, rfl⟩) | (go_at_call 39; with_reducible refine (bits_0_20 _ _ hnr).mono ?_; rintro e w2 ⟨rfl, rfl⟩))
  go_quiet (fail)
  go_wp2_with (first | (go_at_call 37; refine (hof _).mono ?_; rintro e w1 ⟨rfl, hb⟩; obtain ⟨hz, hlt, hne, q0, q1, q2, q3, q4⟩ := box_after hb) | (go_at_call 38; refine (room_U _).mono ?_; rintro e w2 ⟨rfl, rfl⟩) | (go_at_call 39; with_reducible refine (bits_0_20 _ _ hnr).mono ?_; rintro e w2 ⟨rfl, rfl⟩))
  go_quiet (fail)
  go_wp2_with (first | (go_at_call 37; refine (hof _).mono ?_; rintro e w1 ⟨rfl, hb⟩; obtain ⟨hz, hlt, hne, q0, q1, q2, q3, q4⟩ := box_after hb) | (go_at_call 38; refine (room_U _).mono ?_; rintro e w2 ⟨rfl, rfl⟩) | (go_at_call 39; with_reducible refine (bits_0_20 _ _ hnr).mono ?_; rintro e w2 ⟨rfl, rfl⟩))
  go_quiet (first | (go_at_call 39; with_reducible refine (bq_0_20 _ _ hnr).mono ?_; rintro e w9 ⟨rfl, rfl⟩; exact ⟨rfl, _, rfl⟩))
  go_wp2
  go_ret2
  refine ⟨ret_2 ?_, ?_⟩
  · simp [word, immW]; omega
  · first | exact belowQ _ (below_end hb) | exact belowQ _ (belowQ _ (below_end hb)) | exact belowQ _ (belowQ _ (belowQ _ (below_end hb)))
set_option maxRecDepth 100000 in
set_option maxHeartbeats 4000000 in
theorem renc_J_zr1 (op rd r1 r2 n o f g : Int) (w : World) (hof : ∀ w : World, Calls Tryd.prog 37 #[.int .i64 op] w fun e w' => e = .returned (.agg #[.int .u8 74, .int .i64 o, .int .i64 f, .int .i64 g]) ∧ Below w.heap.size w w')
    (ho : 0 ≤ o ∧ o < 128) (hf : 0 ≤ f ∧ f < 8) (hg : 0 ≤ g ∧ g < 128) (g0 : g = 0) (f0 : f = 0) (h0 : decide (r1 = 0) = false) :
    Calls Tryd.prog 26 #[ins op rd r1 r2 n] w fun e w' => e = .returned (.tuple #[.int .u32 (0), .int .i64 2]) ∧ Below w.heap.size w w' := by
  have j0 := h0; simp at j0
  go_enter Tryd.func26, Tryd.ntmps26
  go_wp2_with (first | (go_at_call 37; refine (hof _).mono ?_; rintro e w1 ⟨rfl, hb⟩; obtain ⟨hz, hlt, hne, q0, q1, q2, q3, q4⟩ := box_after hb) | (go_at_call 38; refine (room_J _).mono ?_; rintro e w2 ⟨rfl, rfl⟩))
  go_quiet (fail)
  go_wp2_with (first | (go_at_call 37; refine (hof _).mono ?_; rintro e w1 ⟨rfl, hb⟩; obtain ⟨hz, hlt, hne, q0, q1, q2, q3, q4⟩ := box_after hb) | (go_at_call 38; refine (room_J _).mono ?_; rintro e w2 ⟨rfl, rfl⟩))
  go_ret2
  refine ⟨ret_2 ?_, ?_⟩
  · rfl
  · first | exact belowQ _ (below_end hb) | exact belowQ _ (belowQ _ (below_end hb)) | exact belowQ _ (belowQ _ (belowQ _ (below_end hb)))
set_option maxRecDepth 100000 in
set_option maxHeartbeats 4000000 in
theorem renc_J_zr2 (op rd r1 r2 n o f g : Int) (w : World) (hof : ∀ w : World, Calls Tryd.prog 37 #[.int .i64 op] w fun e w' => e = .returned (.agg #[.int .u8 74, .int .i64 o, .int .i64 f, .int .i64 g]) ∧ Below w.heap.size w w')
    (ho : 0 ≤ o ∧ o < 128) (hf : 0 ≤ f ∧ f < 8) (hg : 0 ≤ g ∧ g < 128) (g0 : g = 0) (f0 : f = 0) (h0 : decide (r2 = 0) = false) :
    Calls Tryd.prog 26 #[ins op rd 0 r2 n] w fun e w' => e = .returned (.tuple #[.int .u32 (0), .int .i64 2]) ∧ Below w.heap.size w w' := by
  have j0 := h0; simp at j0
  go_enter Tryd.func26, Tryd.ntmps26
  go_wp2_with (first | (go_at_call 37; refine (hof _).mono ?_; rintro e w1 ⟨rfl, hb⟩; obtain ⟨hz, hlt, hne, q0, q1, q2, q3, q4⟩ := box_after hb) | (go_at_call 38; refine (room_J _).mono ?_; rintro e w2 ⟨rfl, rfl⟩))
  go_quiet (fail)
  go_wp2_with (first | (go_at_call 37; refine (hof _).mono ?_; rintro e w1 ⟨rfl, hb⟩; obtain ⟨hz, hlt, hne, q0, q1, q2, q3, q4⟩ := box_after hb) | (go_at_call 38; refine (room_J _).mono ?_; rintro e w2 ⟨rfl, rfl⟩))
  go_ret2
  refine ⟨ret_2 ?_, ?_⟩
  · rfl
  · first | exact belowQ _ (below_end hb) | exact belowQ _ (belowQ _ (below_end hb)) | exact belowQ _ (belowQ _ (belowQ _ (below_end hb)))
set_option maxRecDepth 100000 in
set_option maxHeartbeats 4000000 in
theorem renc_J_rd_lo (op rd r1 r2 n o f g : Int) (w : World) (hof : ∀ w : World, Calls Tryd.prog 37 #[.int .i64 op] w fun e w' => e = .returned (.agg #[.int .u8 74, .int .i64 o, .int .i64 f, .int .i64 g]) ∧ Below w.heap.size w w')
    (ho : 0 ≤ o ∧ o < 128) (hf : 0 ≤ f ∧ f < 8) (hg : 0 ≤ g ∧ g < 128) (g0 : g = 0) (f0 : f = 0) (h0 : decide (rd < 0) = true) :
    Calls Tryd.prog 26 #[ins op rd 0 0 n] w fun e w' => e = .returned (.tuple #[.int .u32 (0), .int .i64 1]) ∧ Below w.heap.size w w' := by
  have j0 := h0; simp at j0
  go_enter Tryd.func26, Tryd.ntmps26
  go_wp2_with (first | (go_at_call 37; refine (hof _).mono ?_; rintro e w1 ⟨rfl, hb⟩; obtain ⟨hz, hlt, hne, q0, q1, q2, q3, q4⟩ := box_after hb) | (go_at_call 38; refine (room_J _).mono ?_; rintro e w2 ⟨rfl, rfl⟩))
  go_quiet (fail)
  go_wp2_with (first | (go_at_call 37; refine (hof _).mono ?_; rintro e w1 ⟨rfl, hb⟩; obtain ⟨hz, hlt, hne, q0, q1, q2, q3, q4⟩ := box_after hb) | (go_at_call 38; refine (room_J _).mono ?_; rintro e w2 ⟨rfl, rfl⟩))
  go_ret2
  refine ⟨ret_2 ?_, ?_⟩
  · rfl
  · first | exact belowQ _ (below_end hb) | exact belowQ _ (belowQ _ (below_end hb)) | exact belowQ _ (belowQ _ (belowQ _ (below_end hb)))
set_option maxRecDepth 100000 in
set_option maxHeartbeats 4000000 in
theorem renc_J_rd_hi (op rd r1 r2 n o f g : Int) (w : World) (hof : ∀ w : World, Calls Tryd.prog 37 #[.int .i64 op] w fun e w' => e = .returned (.agg #[.int .u8 74, .int .i64 o, .int .i64 f, .int .i64 g]) ∧ Below w.heap.size w w')
    (ho : 0 ≤ o ∧ o < 128) (hf : 0 ≤ f ∧ f < 8) (hg : 0 ≤ g ∧ g < 128) (g0 : g = 0) (f0 : f = 0) (h0 : decide (rd < 0) = false) (h1 : decide (rd > 31) = true) :
    Calls Tryd.prog 26 #[ins op rd 0 0 n] w fun e w' => e = .returned (.tuple #[.int .u32 (0), .int .i64 1]) ∧ Below w.heap.size w w' := by
  have j0 := h0; simp at j0
  have j1 := h1; simp at j1
  go_enter Tryd.func26, Tryd.ntmps26
  go_wp2_with (first | (go_at_call 37; refine (hof _).mono ?_; rintro e w1 ⟨rfl, hb⟩; obtain ⟨hz, hlt, hne, q0, q1, q2, q3, q4⟩ := box_after hb) | (go_at_call 38; refine (room_J _).mono ?_; rintro e w2 ⟨rfl, rfl⟩))
  go_quiet (fail)
  go_wp2_with (first | (go_at_call 37; refine (hof _).mono ?_; rintro e w1 ⟨rfl, hb⟩; obtain ⟨hz, hlt, hne, q0, q1, q2, q3, q4⟩ := box_after hb) | (go_at_call 38; refine (room_J _).mono ?_; rintro e w2 ⟨rfl, rfl⟩))
  go_ret2
  refine ⟨ret_2 ?_, ?_⟩
  · rfl
  · first | exact belowQ _ (below_end hb) | exact belowQ _ (belowQ _ (below_end hb)) | exact belowQ _ (belowQ _ (belowQ _ (below_end hb)))
set_option maxRecDepth 100000 in
set_option maxHeartbeats 4000000 in
theorem renc_J_n_lo (op rd r1 r2 n o f g : Int) (w : World) (hof : ∀ w : World, Calls Tryd.prog 37 #[.int .i64 op] w fun e w' => e = .returned (.agg #[.int .u8 74, .int .i64 o, .int .i64 f, .int .i64 g]) ∧ Below w.heap.size w w')
    (ho : 0 ≤ o ∧ o < 128) (hf : 0 ≤ f ∧ f < 8) (hg : 0 ≤ g ∧ g < 128) (g0 : g = 0) (f0 : f = 0) (h0 : decide (rd < 0) = false) (h1 : decide (rd > 31) = false) (h2 : decide (n < -1048576) = true) :
    Calls Tryd.prog 26 #[ins op rd 0 0 n] w fun e w' => e = .returned (.tuple #[.int .u32 (0), .int .i64 1]) ∧ Below w.heap.size w w' := by
  have j0 := h0; simp at j0
  have j1 := h1; simp at j1
  have j2 := h2; simp at j2
  go_enter Tryd.func26, Tryd.ntmps26
  go_wp2_with (first | (go_at_call 37; refine (hof _).mono ?_; rintro e w1 ⟨rfl, hb⟩; obtain ⟨hz, hlt, hne, q0, q1, q2, q3, q4⟩ := box_after hb) | (go_at_call 38; refine (room_J _).mono ?_; rintro e w2 ⟨rfl, rfl⟩))
  go_quiet (fail)
  go_wp2_with (first | (go_at_call 37; refine (hof _).mono ?_; rintro e w1 ⟨rfl, hb⟩; obtain ⟨hz, hlt, hne, q0, q1, q2, q3, q4⟩ := box_after hb) | (go_at_call 38; refine (room_J _).mono ?_; rintro e w2 ⟨rfl, rfl⟩))
  go_ret2
  refine ⟨ret_2 ?_, ?_⟩
  · rfl
  · first | exact belowQ _ (below_end hb) | exact belowQ _ (belowQ _ (below_end hb)) | exact belowQ _ (belowQ _ (belowQ _ (below_end hb)))
set_option maxRecDepth 100000 in
set_option maxHeartbeats 4000000 in
theorem renc_J_n_hi (op rd r1 r2 n o f g : Int) (w : World) (hof : ∀ w : World, Calls Tryd.prog 37 #[.int .i64 op] w fun e w' => e = .returned (.agg #[.int .u8 74, .int .i64 o, .int .i64 f, .int .i64 g]) ∧ Below w.heap.size w w')
    (ho : 0 ≤ o ∧ o < 128) (hf : 0 ≤ f ∧ f < 8) (hg : 0 ≤ g ∧ g < 128) (g0 : g = 0) (f0 : f = 0) (h0 : decide (rd < 0) = false) (h1 : decide (rd > 31) = false) (h2 : decide (n < -1048576) = false) (h3 : decide (n > 1048574) = true) :
    Calls Tryd.prog 26 #[ins op rd 0 0 n] w fun e w' => e = .returned (.tuple #[.int .u32 (0), .int .i64 1]) ∧ Below w.heap.size w w' := by
  have j0 := h0; simp at j0
  have j1 := h1; simp at j1
  have j2 := h2; simp at j2
  have j3 := h3; simp at j3
  go_enter Tryd.func26, Tryd.ntmps26
  go_wp2_with (first | (go_at_call 37; refine (hof _).mono ?_; rintro e w1 ⟨rfl, hb⟩; obtain ⟨hz, hlt, hne, q0, q1, q2, q3, q4⟩ := box_after hb) | (go_at_call 38; refine (room_J _).mono ?_; rintro e w2 ⟨rfl, rfl⟩))
  go_quiet (fail)
  go_wp2_with (first | (go_at_call 37; refine (hof _).mono ?_; rintro e w1 ⟨rfl, hb⟩; obtain ⟨hz, hlt, hne, q0, q1, q2, q3, q4⟩ := box_after hb) | (go_at_call 38; refine (room_J _).mono ?_; rintro e w2 ⟨rfl, rfl⟩))
  go_ret2
  refine ⟨ret_2 ?_, ?_⟩
  · rfl
  · first | exact belowQ _ (below_end hb) | exact belowQ _ (belowQ _ (below_end hb)) | exact belowQ _ (belowQ _ (belowQ _ (below_end hb)))
set_option maxRecDepth 100000 in
set_option maxHeartbeats 4000000 in
theorem renc_J_n_odd (op rd r1 r2 n o f g : Int) (w : World) (hof : ∀ w : World, Calls Tryd.prog 37 #[.int .i64 op] w fun e w' => e = .returned (.agg #[.int .u8 74, .int .i64 o, .int .i64 f, .int .i64 g]) ∧ Below w.heap.size w w')
    (ho : 0 ≤ o ∧ o < 128) (hf : 0 ≤ f ∧ f < 8) (hg : 0 ≤ g ∧ g < 128) (g0 : g = 0) (f0 : f = 0) (h0 : decide (rd < 0) = false) (h1 : decide (rd > 31) = false) (h2 : decide (n < -1048576) = false) (h3 : decide (n > 1048574) = false) (h4 : decide (n.tmod 2 = 0) = false) :
    Calls Tryd.prog 26 #[ins op rd 0 0 n] w fun e w' => e = .returned (.tuple #[.int .u32 (0), .int .i64 1]) ∧ Below w.heap.size w w' := by
  have j0 := h0; simp at j0
  have j1 := h1; simp at j1
  have j2 := h2; simp at j2
  have j3 := h3; simp at j3
  have j4 := h4; simp at j4
  go_enter Tryd.func26, Tryd.ntmps26
  go_wp2_with (first | (go_at_call 37; refine (hof _).mono ?_; rintro e w1 ⟨rfl, hb⟩; obtain ⟨hz, hlt, hne, q0, q1, q2, q3, q4⟩ := box_after hb) | (go_at_call 38; refine (room_J _).mono ?_; rintro e w2 ⟨rfl, rfl⟩))
  go_quiet (fail)
  go_wp2_with (first | (go_at_call 37; refine (hof _).mono ?_; rintro e w1 ⟨rfl, hb⟩; obtain ⟨hz, hlt, hne, q0, q1, q2, q3, q4⟩ := box_after hb) | (go_at_call 38; refine (room_J _).mono ?_; rintro e w2 ⟨rfl, rfl⟩))
  go_ret2
  refine ⟨ret_2 ?_, ?_⟩
  · rfl
  · first | exact belowQ _ (below_end hb) | exact belowQ _ (belowQ _ (below_end hb)) | exact belowQ _ (belowQ _ (belowQ _ (below_end hb)))
set_option maxRecDepth 100000 in
set_option maxHeartbeats 4000000 in
theorem renc_J_ok (op rd r1 r2 n o f g : Int) (w : World) (hof : ∀ w : World, Calls Tryd.prog 37 #[.int .i64 op] w fun e w' => e = .returned (.agg #[.int .u8 74, .int .i64 o, .int .i64 f, .int .i64 g]) ∧ Below w.heap.size w w')
    (ho : 0 ≤ o ∧ o < 128) (hf : 0 ≤ f ∧ f < 8) (hg : 0 ≤ g ∧ g < 128) (g0 : g = 0) (f0 : f = 0) (h0 : decide (rd < 0) = false) (h1 : decide (rd > 31) = false) (h2 : decide (n < -1048576) = false) (h3 : decide (n > 1048574) = false) (h4 : decide (n.tmod 2 = 0) = true) :
    Calls Tryd.prog 26 #[ins op rd 0 0 n] w fun e w' => e = .returned (.tuple #[.int .u32 (word 6 o f g rd 0 0 n), .int .i64 0]) ∧ Below w.heap.size w w' := by
  have j0 := h0; simp at j0
  have j1 := h1; simp at j1
  have j2 := h2; simp at j2
  have j3 := h3; simp at j3
  have j4 := h4; simp at j4
  have hnr : -1048576 ≤ n ∧ n < 1048576 := by omega
  go_enter Tryd.func26, Tryd.ntmps26
  go_wp2_with (first | (go_at_call 37; refine (hof _).mono ?_; rintro e w1 ⟨rfl, hb⟩; obtain ⟨hz, hlt, hne, q0, q1, q2, q3, q4⟩ := box_after hb) | (go_at_call 38; refine (room_J _).mono ?_; rintro e w2 ⟨rfl, rfl⟩) | (go_at_call 39; with_reducible refine (bits_12_8 _ _ hnr).mono ?_; rintro e w2 ⟨rfl, rfl⟩) | (go_at_call 39; with_reducible refine (bits_11_1 _ _ hnr).mono ?_; rintro e w2 ⟨rfl, rfl⟩) | (go_at_call 39; with_reducible refine (bits_1_10 _ _ hnr).mono ?_; rintro e w2 ⟨rfl, rfl⟩) | (go_at_call 39; with_reducible refine (bits_20_1 _ _ hnr).mono ?_; rintro e w2 ⟨rfl, rfl⟩))
  go_quiet (fail)
  go_wp2_with (first | (go_at_call 37; refine (hof _).mono ?_; rintro e w1 ⟨rfl, hb⟩; obtain ⟨hz, hlt, hne, q0, q1, q2, q3, q4⟩ := box_after hb) | (go_at_call 38; refine (room_J _).mono ?_; rintro e w2 ⟨rfl, rfl⟩) | (go_at_call 39; with_reducible refine (bits_12_8 _ _ hnr).mono ?_; rintro e w2 ⟨rfl, rfl⟩) | (go_at_call 39; with_reducible refine (bits_11_1 _ _ hnr).mono ?_; rintro e w2 ⟨rfl, rfl⟩) | (go_at_call 39; with_reducible refine (bits_1_10 _ _ hnr).mono ?_; rintro e w2 ⟨rfl, rfl⟩) | (go_at_call 39; with_reducible refine (bits_20_1 _ _ hnr).mono ?_; rintro e w2 ⟨rfl, rfl⟩))
  go_quiet (fail)
  go_wp2_with (first | (go_at_call 37; refine (hof _).mono ?_; rintro e w1 ⟨rfl, hb⟩; obtain ⟨hz, hlt, hne, q0, q1, q2, q3, q4⟩ := box_after hb) | (go_at_call 38; refine (room_J _).mono ?_; rintro e w2 ⟨rfl, rfl⟩) | (go_at_call 39; with_reducible refine (bits_12_8 _ _ hnr).mono ?_; rintro e w2 ⟨rfl, rfl⟩) | (go_at_call 39; with_reducible refine (bits_11_1 _ _ hnr).mono ?_; rintro e w2 ⟨rfl, rfl⟩) | (go_at_call 39; with_reducible refine (bits_1_10 _ _ hnr).mono ?_; rintro e w2 ⟨rfl, rfl⟩) | (go_at_call 39; with_reducible refine (bits_20_1 _ _ hnr).mono ?_; rintro e w2 ⟨rfl, rfl⟩))
  go_quiet (first | (go_at_call 39; with_reducible refine (bq_12_8 _ _ hnr).mono ?_; rintro e w9 ⟨rfl, rfl⟩; exact ⟨rfl, _, rfl⟩) | (go_at_call 39; with_reducible refine (bq_11_1 _ _ hnr).mono ?_; rintro e w9 ⟨rfl, rfl⟩; exact ⟨rfl, _, rfl⟩) | (go_at_call 39; with_reducible refine (bq_1_10 _ _ hnr).mono ?_; rintro e w9 ⟨rfl, rfl⟩; exact ⟨rfl, _, rfl⟩) | (go_at_call 39; with_reducible refine (bq_20_1 _ _ hnr).mono ?_; rintro e w9 ⟨rfl, rfl⟩; exact ⟨rfl, _, rfl⟩))
  go_wp2
  go_ret2
  refine ⟨ret_2 ?_, ?_⟩
  · simp [word, immW]; omega
  · first | exact belowQ _ (below_end hb) | exact belowQ _ (belowQ _ (below_end hb)) | exact belowQ _ (belowQ _ (belowQ _ (below_end hb)))
set_option maxRecDepth 100000 in
set_option maxHeartbeats 4000000 in
theorem renc_N_zrd (op rd r1 r2 n o f g : Int) (w : World) (hof : ∀ w : World, Calls Tryd.prog 37 #[.int .i64 op] w fun e w' => e = .returned (.agg #[.int .u8 78, .int .i64 o, .int .i64 f, .int .i64 g]) ∧ Below w.heap.size w w')
    (ho : 0 ≤ o ∧ o < 128) (hf : 0 ≤ f ∧ f < 8) (hg : 0 ≤ g ∧ g < 128) (g0 : g = 0) (f0 : f = 0) (h0 : decide (rd = 0) = false) :
    Calls Tryd.prog 26 #[ins op rd r1 r2 n] w fun e w' => e = .returned (.tuple #[.int .u32 (0), .int .i64 2]) ∧ Below w.heap.size w w' := by
  have j0 := h0; simp at j0
  go_enter Tryd.func26, Tryd.ntmps26
  go_wp2_with (first | (go_at_call 37; refine (hof _).mono ?_; rintro e w1 ⟨rfl, hb⟩; obtain ⟨hz, hlt, hne, q0, q1, q2, q3, q4⟩ := box_after hb) | (go_at_call 38; refine (room_N _).mono ?_; rintro e w2 ⟨rfl, rfl⟩))
  go_quiet (fail)
  go_wp2_with (first | (go_at_call 37; refine (hof _).mono ?_; rintro e w1 ⟨rfl, hb⟩; obtain ⟨hz, hlt, hne, q0, q1, q2, q3, q4⟩ := box_after hb) | (go_at_call 38; refine (room_N _).mono ?_; rintro e w2 ⟨rfl, rfl⟩))
  go_ret2
  refine ⟨ret_2 ?_, ?_⟩
  · rfl
  · first | exact belowQ _ (below_end hb) | exact belowQ _ (belowQ _ (below_end hb)) | exact belowQ _ (belowQ _ (belowQ _ (below_end hb)))
set_option maxRecDepth 100000 in
set_option maxHeartbeats 4000000 in
theorem renc_N_zr1 (op rd r1 r2 n o f g : Int) (w : World) (hof : ∀ w : World, Calls Tryd.prog 37 #[.int .i64 op] w fun e w' => e = .returned (.agg #[.int .u8 78, .int .i64 o, .int .i64 f, .int .i64 g]) ∧ Below w.heap.size w w')
    (ho : 0 ≤ o ∧ o < 128) (hf : 0 ≤ f ∧ f < 8) (hg : 0 ≤ g ∧ g < 128) (g0 : g = 0) (f0 : f = 0) (h0 : decide (r1 = 0) = false) :
    Calls Tryd.prog 26 #[ins op 0 r1 r2 n] w fun e w' => e = .returned (.tuple #[.int .u32 (0), .int .i64 2]) ∧ Below w.heap.size w w' := by
  have j0 := h0; simp at j0
  go_enter Tryd.func26, Tryd.ntmps26
  go_wp2_with (first | (go_at_call 37; refine (hof _).mono ?_; rintro e w1 ⟨rfl, hb⟩; obtain ⟨hz, hlt, hne, q0, q1, q2, q3, q4⟩ := box_after hb) | (go_at_call 38; refine (room_N _).mono ?_; rintro e w2 ⟨rfl, rfl⟩))
  go_quiet (fail)
  go_wp2_with (first | (go_at_call 37; refine (hof _).mono ?_; rintro e w1 ⟨rfl, hb⟩; obtain ⟨hz, hlt, hne, q0, q1, q2, q3, q4⟩ := box_after hb) | (go_at_call 38; refine (room_N _).mono ?_; rintro e w2 ⟨rfl, rfl⟩))
  go_ret2
  refine ⟨ret_2 ?_, ?_⟩
  · rfl
  · first | exact belowQ _ (below_end hb) | exact belowQ _ (belowQ _ (below_end hb)) | exact belowQ _ (belowQ _ (belowQ _ (below_end hb)))
set_option maxRecDepth 100000 in
set_option maxHeartbeats 4000000 in
theorem renc_N_zr2 (op rd r1 r2 n o f g : Int) (w : World) (hof : ∀ w : World, Calls Tryd.prog 37 #[.int .i64 op] w fun e w' => e = .returned (.agg #[.int .u8 78, .int .i64 o, .int .i64 f, .int .i64 g]) ∧ Below w.heap.size w w')
    (ho : 0 ≤ o ∧ o < 128) (hf : 0 ≤ f ∧ f < 8) (hg : 0 ≤ g ∧ g < 128) (g0 : g = 0) (f0 : f = 0) (h0 : decide (r2 = 0) = false) :
    Calls Tryd.prog 26 #[ins op 0 0 r2 n] w fun e w' => e = .returned (.tuple #[.int .u32 (0), .int .i64 2]) ∧ Below w.heap.size w w' := by
  have j0 := h0; simp at j0
  go_enter Tryd.func26, Tryd.ntmps26
  go_wp2_with (first | (go_at_call 37; refine (hof _).mono ?_; rintro e w1 ⟨rfl, hb⟩; obtain ⟨hz, hlt, hne, q0, q1, q2, q3, q4⟩ := box_after hb) | (go_at_call 38; refine (room_N _).mono ?_; rintro e w2 ⟨rfl, rfl⟩))
  go_quiet (fail)
  go_wp2_with (first | (go_at_call 37; refine (hof _).mono ?_; rintro e w1 ⟨rfl, hb⟩; obtain ⟨hz, hlt, hne, q0, q1, q2, q3, q4⟩ := box_after hb) | (go_at_call 38; refine (room_N _).mono ?_; rintro e w2 ⟨rfl, rfl⟩))
  go_ret2
  refine ⟨ret_2 ?_, ?_⟩
  · rfl
  · first | exact belowQ _ (below_end hb) | exact belowQ _ (belowQ _ (below_end hb)) | exact belowQ _ (belowQ _ (belowQ _ (below_end hb)))
set_option maxRecDepth 100000 in
set_option maxHeartbeats 4000000 in
theorem renc_N_zn (op rd r1 r2 n o f g : Int) (w : World) (hof : ∀ w : World, Calls Tryd.prog 37 #[.int .i64 op] w fun e w' => e = .returned (.agg #[.int .u8 78, .int .i64 o, .int .i64 f, .int .i64 g]) ∧ Below w.heap.size w w')
    (ho : 0 ≤ o ∧ o < 128) (hf : 0 ≤ f ∧ f < 8) (hg : 0 ≤ g ∧ g < 128) (g0 : g = 0) (f0 : f = 0) (h0 : decide (n = 0) = false) :
    Calls Tryd.prog 26 #[ins op 0 0 0 n] w fun e w' => e = .returned (.tuple #[.int .u32 (0), .int .i64 2]) ∧ Below w.heap.size w w' := by
  have j0 := h0; simp at j0
  go_enter Tryd.func26, Tryd.ntmps26
  go_wp2_with (first | (go_at_call 37; refine (hof _).mono ?_; rintro e w1 ⟨rfl, hb⟩; obtain ⟨hz, hlt, hne, q0, q1, q2, q3, q4⟩ := box_after hb) | (go_at_call 38; refine (room_N _).mono ?_; rintro e w2 ⟨rfl, rfl⟩))
  go_quiet (fail)
  go_wp2_with (first | (go_at_call 37; refine (hof _).mono ?_; rintro e w1 ⟨rfl, hb⟩; obtain ⟨hz, hlt, hne, q0, q1, q2, q3, q4⟩ := box_after hb) | (go_at_call 38; refine (room_N _).mono ?_; rintro e w2 ⟨rfl, rfl⟩))
  go_ret2
  refine ⟨ret_2 ?_, ?_⟩
  · rfl
  · first | exact belowQ _ (below_end hb) | exact belowQ _ (belowQ _ (below_end hb)) | exact belowQ _ (belowQ _ (belowQ _ (below_end hb)))
set_option maxRecDepth 100000 in
set_option maxHeartbeats 4000000 in
theorem renc_N_ok (op rd r1 r2 n o f g : Int) (w : World) (hof : ∀ w : World, Calls Tryd.prog 37 #[.int .i64 op] w fun e w' => e = .returned (.agg #[.int .u8 78, .int .i64 o, .int .i64 f, .int .i64 g]) ∧ Below w.heap.size w w')
    (ho : 0 ≤ o ∧ o < 128) (hf : 0 ≤ f ∧ f < 8) (hg : 0 ≤ g ∧ g < 128) (g0 : g = 0) (f0 : f = 0) :
    Calls Tryd.prog 26 #[ins op 0 0 0 0] w fun e w' => e = .returned (.tuple #[.int .u32 (word 7 o f g 0 0 0 0), .int .i64 0]) ∧ Below w.heap.size w w' := by
  go_enter Tryd.func26, Tryd.ntmps26
  go_wp2_with (first | (go_at_call 37; refine (hof _).mono ?_; rintro e w1 ⟨rfl, hb⟩; obtain ⟨hz, hlt, hne, q0, q1, q2, q3, q4⟩ := box_after hb) | (go_at_call 38; refine (room_N _).mono ?_; rintro e w2 ⟨rfl, rfl⟩))
  go_quiet (fail)
  go_wp2_with (first | (go_at_call 37; refine (hof _).mono ?_; rintro e w1 ⟨rfl, hb⟩; obtain ⟨hz, hlt, hne, q0, q1, q2, q3, q4⟩ := box_after hb) | (go_at_call 38; refine (room_N _).mono ?_; rintro e w2 ⟨rfl, rfl⟩))
  go_quiet (fail)
  go_wp2_with (first | (go_at_call 37; refine (hof _).mono ?_; rintro e w1 ⟨rfl, hb⟩; obtain ⟨hz, hlt, hne, q0, q1, q2, q3, q4⟩ := box_after hb) | (go_at_call 38; refine (room_N _).mono ?_; rintro e w2 ⟨rfl, rfl⟩))
  go_ret2
  refine ⟨ret_2 ?_, ?_⟩
  · simp [word, immW]; omega
  · first | exact belowQ _ (below_end hb) | exact belowQ _ (belowQ _ (below_end hb)) | exact belowQ _ (belowQ _ (belowQ _ (below_end hb)))
end Go.Proofs.YtppcbommaddkgaaDoor
