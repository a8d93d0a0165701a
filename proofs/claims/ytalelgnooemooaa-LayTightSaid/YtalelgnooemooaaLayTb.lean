/- LayTight answers true, of any kinds; at most new blocks in memory. Condition: the kinds as they lie in memory. -/
import Derived.Test.YtalelgnooemooaaLayTc
import Derived.Test.YtalelgnooemooaaLayQ
import Derived.BigQuiet
namespace Go.Proofs.Ytalelgnooemooaa
open Go.RowKit Go.Maps
set_option linter.unusedVariables false
set_option linter.unusedSimpArgs false
set_option maxRecDepth 10000
open Py
/-- What stands behind so many kinds: both structs' boxes, their fields. -/
structure TtAt (w2 w : World) (b : Nat) (ks : List Nat) (j : Nat) (va vb : Value) : Prop where
  ba : w.heap[b]? = some (.cells #[.string ⟨#[]⟩, va, .int .i64 0] 45)
  bb : w.heap[b + 1]? = some (.cells #[.string ⟨#[]⟩, vb, .int .i64 0] 45)
  fa : w.ownsRow (b + 2) 47 5 va j (fdsL (fasK ks j))
  fb : w.ownsRow (b + 2) 47 5 vb j (fdsL (fasK ks j).reverse)
  ne : ∀ g, va.ownBlock = some g → vb.ownBlock = some g → False
  fr : Below b w2 w
theorem own_keep3 {w w' : World} {base size n : Nat} {e : TypeId} {v : Value} {xs : List Value} (h : w.ownsRow base e size v n xs) (hb : Below w.heap.size w w') : w'.ownsRow base e size v n xs :=
  ownsRow_at h (fun g cur _ hg => row_below2 hb hg (lt_of_row hg))
theorem TtAt.keepN {w2 W W' : World} {b j : Nat} {ks : List Nat} {va vb : Value} (h : TtAt w2 W b ks j va vb) (E : Below W.heap.size W W') : TtAt w2 W' b ks j va vb :=
  ⟨row_below2 E h.ba (lt_of_row h.ba), row_below2 E h.bb (lt_of_row h.bb), own_keep3 h.fa E, own_keep3 h.fb E, h.ne, h.fr.trans (E.mono (by have := lt_of_row h.ba; omega))⟩
set_option maxHeartbeats 8000000 in
theorem layTight_walk {w : World} {A : Option Addr} {c : Nat} {ks : List Nat} (hK : KsAt w A ks) (hlc : ks.length ≤ c) (hcm : c ≤ maxLen) :
    Calls Try.prog 5 #[.slice A ks.length c] w fun e w' => e = .returned (.bool true) ∧ Below w.heap.size w w' := by
  unfold maxLen at hcm
  obtain ⟨i0, hi0, hy0, hy1, hy2⟩ := info_parts infoFd
  go_enter Try.func5, Try.ntmps5
  go_wp2_with fail
  refine (awake_any _).mono ?_
  rintro e w1 ⟨rfl, b1⟩
  by_cases h0 : ks.length = 0 ∨ 12 < ks.length
  · have hlast : ∀ W, Calls Try.prog 6 #[] W fun e w' => e = .returned (.bool true) ∧ Below W.heap.size W w' := fun W => awake_any W
    rcases h0 with h0 | h0
    · have f0 : ((ks.length : Int) == 0) = true := by rw [h0]; rfl
      go_wp2_with fail
      refine (awake_any _).mono ?_
      rintro e w3 ⟨rfl, h3⟩
      go_wp2
      go_ret
      exact ⟨rfl, b1.trans (h3.mono b1.size)⟩
    · have f0 : ((ks.length : Int) == 0) = false := by rw [beq_eq_false_iff_ne]; omega
      have f1 : decide (12 < (ks.length : Int)) = true := decide_eq_true (by omega)
      go_wp2_with fail
      refine (awake_any _).mono ?_
      rintro e w3 ⟨rfl, h3⟩
      go_wp2
      go_ret
      exact ⟨rfl, b1.trans (h3.mono b1.size)⟩
  have f0 : ((ks.length : Int) == 0) = false := by rw [beq_eq_false_iff_ne]; omega
  have f1 : decide (12 < (ks.length : Int)) = false := decide_eq_false (by omega)
  obtain ⟨g, o, rfl, hg, hcell⟩ := hK (by omega)
  have HC := Lib.hid hcell
  clear hcell hK
  go_wp2_with fail
  have e3 : (((w1.alloc (.cells #[.int .i64 1, .int .i64 0, .string ⟨#[]⟩, .int .i64 2, .int .i64 0, .string ⟨#[]⟩, .int .i64 3, .int .i64 0, .string ⟨#[]⟩, .int .i64 1, .int .i64 1, .string ⟨#[]⟩] 41)).alloc (.cells #[.int .i64 1, .int .i64 4, .int .i64 8, .int .i64 8] 42)).alloc (.cells #[.string ⟨#[]⟩, .slice none 0 0, .int .i64 0] 45)).alloc (.cells #[.string ⟨#[]⟩, .slice none 0 0, .int .i64 0] 45) = (((w1.alloc (.cells #[.int .i64 1, .int .i64 0, .string ⟨#[]⟩, .int .i64 2, .int .i64 0, .string ⟨#[]⟩, .int .i64 3, .int .i64 0, .string ⟨#[]⟩, .int .i64 1, .int .i64 1, .string ⟨#[]⟩] 41)).alloc (.cells #[.int .i64 1, .int .i64 4, .int .i64 8, .int .i64 8] 42)).alloc (.cells #[.string ⟨#[]⟩, .slice none 0 0, .int .i64 0] 45)).alloc (.cells #[.string ⟨#[]⟩, .slice none 0 0, .int .i64 0] 45) := rfl
  obtain ⟨w2, hw2⟩ : ∃ w2, (((w1.alloc (.cells #[.int .i64 1, .int .i64 0, .string ⟨#[]⟩, .int .i64 2, .int .i64 0, .string ⟨#[]⟩, .int .i64 3, .int .i64 0, .string ⟨#[]⟩, .int .i64 1, .int .i64 1, .string ⟨#[]⟩] 41)).alloc (.cells #[.int .i64 1, .int .i64 4, .int .i64 8, .int .i64 8] 42)).alloc (.cells #[.string ⟨#[]⟩, .slice none 0 0, .int .i64 0] 45)).alloc (.cells #[.string ⟨#[]⟩, .slice none 0 0, .int .i64 0] 45) = w2 := ⟨_, rfl⟩
  have b2 : Below w1.heap.size w1 w2 := by
    rw [← hw2]
    refine Below.alloc (Below.alloc (Below.alloc (Below.alloc (Below.refl _ _) ?_ _) ?_ _) ?_ _) ?_ _ <;> first | omega | (simp only [szA]; omega)
  have z2 : w2.heap.size = w1.heap.size + 1 + 1 + 1 + 1 := by rw [← hw2]; simp only [szA]
  have p3 : w2.heap[w1.heap.size]? = some (.cells #[.int .i64 1, .int .i64 0, .string ⟨#[]⟩, .int .i64 2, .int .i64 0, .string ⟨#[]⟩, .int .i64 3, .int .i64 0, .string ⟨#[]⟩, .int .i64 1, .int .i64 1, .string ⟨#[]⟩] 41) := by
    rw [← hw2]
    exact row_up (row_up (row_up (row_new rfl _) _) _) _
  have p4 : w2.heap[w1.heap.size + 1]? = some (.cells #[.int .i64 1, .int .i64 4, .int .i64 8, .int .i64 8] 42) := by
    rw [← hw2]
    exact row_up (row_up (row_new (szA _ _) _) _) _
  have p5 : w2.heap[w1.heap.size + 1 + 1]? = some (.cells #[.string ⟨#[]⟩, .slice none 0 0, .int .i64 0] 45) := by
    rw [← hw2]
    exact row_up (row_new (by rw [szA, szA]) _) _
  have p6 : w2.heap[w1.heap.size + 1 + 1 + 1]? = some (.cells #[.string ⟨#[]⟩, .slice none 0 0, .int .i64 0] 45) := by
    rw [← hw2]
    exact row_new (by rw [szA, szA, szA]) _
  clear e3
  rw [show (Obj.cells #[.int .i64 1, .int .i64 0, .string ⟨#[]⟩, .int .i64 2, .int .i64 0, .string ⟨#[]⟩, .int .i64 3, .int .i64 0, .string ⟨#[]⟩, .int .i64 1, .int .i64 1, .string ⟨#[]⟩] 41 : Obj) = .cells #[.int .i64 1, .int .i64 0, .string ⟨#[]⟩, .int .i64 2, .int .i64 0, .string ⟨#[]⟩, .int .i64 3, .int .i64 0, .string ⟨#[]⟩, .int .i64 1, .int .i64 1, .string ⟨#[]⟩] 41 from rfl] at hw2
  generalize hB : w1.heap.size = b at *
  rw [hw2]
  clear hw2
  have q0 := sizeK3 (ks.getD 0 0)
  generalize hz0 : szK (ks.getD 0 0) = z0 at *
  go_loopw [7, 8, 9, 39] (fun s7 s8 s9 k wr => ∃ (j : Nat) (va vb : Value), j ≤ ks.length ∧ k = .int .i64 j ∧ s7 = .int .i64 (sumV (fasK ks j)) ∧ s8 = .bool (allZ z0 (fasK ks j)) ∧ s9 = .int .i64 (layV (fasK ks j)).line ∧ TtAt w2 wr (b + 1 + 1) ks j va vb) (fun _ _ _ k _ => ks.length - (intOf k).toNat)
  case atStart =>
    exact ⟨0, _, _, Nat.zero_le _, rfl, rfl, rfl, rfl, ⟨p5, p6, ⟨rfl, .inl ⟨rfl, rfl⟩⟩, ⟨rfl, .inl ⟨rfl, rfl⟩⟩, fun g h => (by cases h), Below.refl _ _⟩⟩
  case round =>
    obtain ⟨j, va, vb, hj, rfl, rfl, rfl, rfl, ht⟩ := hrel
    by_cases hlt : j < ks.length
    · obtain ⟨hk256, hkc⟩ := HC.out j hlt
      have hzw := ht.fr.size
      obtain ⟨hk0256, hkc0⟩ := HC.out 0 (by omega)
      have c00 : wr.cell? ⟨g, o, none⟩ = some (.int .u8 (ks.getD 0 0 : Nat)) := (ht.fr.cell (p := ⟨g, o, none⟩) (by have := b1.size; show g < b + 1 + 1; omega)).trans ((b2.cell (p := ⟨g, o, none⟩) (by have := b1.size; show g < b; omega)).trans ((b1.cell (p := ⟨g, o, none⟩) hg).trans hkc0))
      obtain ⟨r0, hr0, hr04⟩ : ∃ r0 : Nat, ((ks.getD 0 0 : Nat) : Int) % 4 = (r0 : Int) ∧ r0 < 4 := ⟨ks.getD 0 0 % 4, by omega, by omega⟩
      have dq0 : (0 : Int) ≤ (r0 : Int) := by omega
      have dq1 : (r0 : Int) < 4 := by omega
      have c0 : wr.cell? ⟨g, o + j, none⟩ = some (.int .u8 (ks.getD j 0 : Nat)) := (ht.fr.cell (p := ⟨g, o + j, none⟩) (by have := b1.size; show g < b + 1 + 1; omega)).trans ((b2.cell (p := ⟨g, o + j, none⟩) (by have := b1.size; show g < b; omega)).trans ((b1.cell (p := ⟨g, o + j, none⟩) hg).trans hkc))
      have r3 : wr.heap[b]? = some (.cells #[.int .i64 1, .int .i64 0, .string ⟨#[]⟩, .int .i64 2, .int .i64 0, .string ⟨#[]⟩, .int .i64 3, .int .i64 0, .string ⟨#[]⟩, .int .i64 1, .int .i64 1, .string ⟨#[]⟩] 41) := (ht.fr.block _ (by omega)).trans p3
      have r4 : wr.heap[b + 1]? = some (.cells #[.int .i64 1, .int .i64 4, .int .i64 8, .int .i64 8] 42) := (ht.fr.block _ (by omega)).trans p4
      obtain ⟨r, hr, hr4⟩ : ∃ r : Nat, ((ks.getD j 0 : Nat) : Int) % 4 = (r : Int) ∧ r < 4 := ⟨ks.getD j 0 % 4, by omega, by omega⟩
      have dr0 : (0 : Int) ≤ (r : Int) := by omega
      have dr1 : (r : Int) < 4 := by omega
      have dj0 : (0 : Int) ≤ (j : Int) := by omega
      have dj1 : (j : Int) < (ks.length : Int) := by omega
      have hty : wr.cell? ⟨b, r * 3, none⟩ = some (.int .i64 (tyK (ks.getD j 0)).ba) ∧ wr.cell? ⟨b, r * 3 + 1, none⟩ = some (.int .i64 (tyK (ks.getD j 0)).st) ∧ wr.cell? ⟨b, r * 3 + 2, none⟩ = some (.string (tyK (ks.getD j 0)).sn) ∧ wr.cell? ⟨b + 1, r, none⟩ = some (.int .i64 (szK (ks.getD j 0))) := by
        rw [cell_of_row _ _ _ _ _ _ r3, cell_of_row _ _ _ _ _ _ r3, cell_of_row _ _ _ _ _ _ r3, cell_of_row _ _ _ _ _ _ r4]
        unfold szK
        rw [sizeK]
        unfold tyK
        have hrk : ks.getD j 0 % 4 = r := by omega
        rw [hrk]
        have : r = 0 ∨ r = 1 ∨ r = 2 ∨ r = 3 := by omega
        rcases this with rfl | rfl | rfl | rfl <;> exact ⟨rfl, rfl, rfl, rfl⟩
      obtain ⟨t0, t1, t2, t3⟩ := hty
      have t30 : wr.cell? ⟨b + 1, r0, none⟩ = some (.int .i64 z0) := by
        rw [cell_of_row _ _ _ _ _ _ r4, ← hz0]
        unfold szK
        rw [sizeK]
        have hrk : ks.getD 0 0 % 4 = r0 := by omega
        rw [hrk]
        have : r0 = 0 ∨ r0 = 1 ∨ r0 = 2 ∨ r0 = 3 := by omega
        rcases this with rfl | rfl | rfl | rfl <;> rfl
      generalize hkk0 : ks.getD 0 0 = k0 at c00 hr0
      have hsz := sizeK3 (ks.getD j 0)
      have hsum := sumK_succ ks j
      have hbd := sumK_bd ks j
      generalize hkk : ks.getD j 0 = k at *
      generalize htk : tyK k = ty at *
      obtain ⟨ba, st, sn⟩ := ty
      dsimp only at t0 t1 t2
      generalize hszk : szK k = z at *
      have hszv : sizeV ⟨ba, st, sn⟩ = z := by rw [← htk]; exact hszk
      rw [hszv] at hsz hsum
      have HSUM := Lib.hid hsum
      clear hsum
      have hl12 : (ks.length : Int) ≤ 12 := by omega
      have hj12 : (j : Int) < 12 := by omega
      have hbl : b < wr.heap.size := by omega
      have hbl1 : b + 1 < wr.heap.size := by omega
      have hcv1 := run_convert_bytes_arg (P := Try.prog) (wr.alloc (.cells #[.int .u8 (97 + (j : Int))] 5)).drew 40 5 Try.underlying40 Try.underlying5 wr.heap.size 0 1 1 [97 + (j : Int)] rfl (fun i hi => by
        obtain rfl : i = 0 := by omega
        exact (cell_of_row _ _ _ _ _ _ (row_new rfl _)).trans rfl) 9 Try.underlying9
      have hcv2 := run_convert_bytes_arg (P := Try.prog) ((wr.alloc (.cells #[.string ⟨#[]⟩, .int .i64 0, .int .i64 0, .string ⟨#[]⟩, .int .i64 0] 47)).alloc (.cells #[.int .u8 (97 + (j : Int))] 5)).drew 40 5 Try.underlying40 Try.underlying5 (wr.heap.size + 1) 0 1 1 [97 + (j : Int)] rfl (fun i hi => by
        obtain rfl : i = 0 := by omega
        exact (cell_of_row _ _ _ _ _ _ (row_new (szA _ _) _)).trans rfl) 9 Try.underlying9
      have hcv3 := run_convert_bytes_arg (P := Try.prog) ((wr.alloc (.cells #[.int .u8 (97 + (j : Int))] 5)).alloc (.cells #[.string ⟨#[]⟩, .int .i64 0, .int .i64 0, .string ⟨#[]⟩, .int .i64 0] 47)).drew 40 5 Try.underlying40 Try.underlying5 wr.heap.size 0 1 1 [97 + (j : Int)] rfl (fun i hi => by
        obtain rfl : i = 0 := by omega
        exact (cell_of_row _ _ _ _ _ _ (row_up (row_new rfl _) _)).trans rfl) 9 Try.underlying9
      have HT := Lib.hid ht
      clear ht
      go_wp2_with fail
      go_region
      all_goals clear hcv1 hcv2 hcv3
      · have hXr : (((wr.alloc (.cells #[.int .u8 (97 + (j : Int))] 5)).alloc (.cells #[.string (strOfNums [97 + (j : Int)]), .int .i64 ba, .int .i64 st, .string sn, .int .i64 0] 47)).drew).heap[wr.heap.size + 1]? = some (.cells #[.string (strOfNums [97 + (j : Int)]), .int .i64 ba, .int .i64 st, .string sn, .int .i64 0] 47) := row_new (szA _ _) _
        have hXb : Below wr.heap.size wr (((wr.alloc (.cells #[.int .u8 (97 + (j : Int))] 5)).alloc (.cells #[.string (strOfNums [97 + (j : Int)]), .int .i64 ba, .int .i64 st, .string sn, .int .i64 0] 47)).drew) := (((Below.refl wr.heap.size wr).alloc (Nat.le_refl _) _).alloc (by simp only [szA]; omega) _).drew
        have hXz0 : (((wr.alloc (.cells #[.int .u8 (97 + (j : Int))] 5)).alloc (.cells #[.string (strOfNums [97 + (j : Int)]), .int .i64 ba, .int .i64 st, .string sn, .int .i64 0] 47)).drew).heap.size = wr.heap.size + 1 + 1 := by show (World.alloc _ _).heap.size = _; rw [szA, szA]
        have hfb : wr.heap.size + 1 < (((wr.alloc (.cells #[.int .u8 (97 + (j : Int))] 5)).alloc (.cells #[.string (strOfNums [97 + (j : Int)]), .int .i64 ba, .int .i64 st, .string sn, .int .i64 0] 47)).drew).heap.size ∧ wr.heap.size ≤ wr.heap.size + 1 ∧ wr.heap.size ≤ (((wr.alloc (.cells #[.int .u8 (97 + (j : Int))] 5)).alloc (.cells #[.string (strOfNums [97 + (j : Int)]), .int .i64 ba, .int .i64 st, .string sn, .int .i64 0] 47)).drew).heap.size := by omega
        clear hXz0
        have hXa : (((wr.alloc (.cells #[.int .u8 (97 + (j : Int))] 5)).alloc (.cells #[.string (strOfNums [97 + (j : Int)]), .int .i64 ba, .int .i64 st, .string sn, .int .i64 0] 47)).drew).ownsRow (b + 1 + 1 + 2) 47 5 va j (fdsL (fasK ks j)) := (HT.out.fa.alloc _).alloc _
        have hXv : (((wr.alloc (.cells #[.int .u8 (97 + (j : Int))] 5)).alloc (.cells #[.string (strOfNums [97 + (j : Int)]), .int .i64 ba, .int .i64 st, .string sn, .int .i64 0] 47)).drew).ownsRow (b + 1 + 1 + 2) 47 5 vb j (fdsL (fasK ks j).reverse) := (HT.out.fb.alloc _).alloc _
        generalize ((wr.alloc (.cells #[.int .u8 (97 + (j : Int))] 5)).alloc (.cells #[.string (strOfNums [97 + (j : Int)]), .int .i64 ba, .int .i64 st, .string sn, .int .i64 0] 47)).drew = X at *
        generalize hfbe : wr.heap.size + 1 = fb at *
        clear hfbe
        obtain ⟨H, hXz⟩ : ∃ H, X.heap.size = H := ⟨_, rfl⟩
        rw [hXz] at hfb
        obtain ⟨hfb1, hfb2, hfb3⟩ := hfb
        obtain ⟨a0, a1, a2, a3, a4⟩ := fe_cells5 hXr
        have hp5 : X.heap[b + 1 + 1]? = _ := (hXb.block _ (lt_of_row HT.out.ba)).trans HT.out.ba
        have hp6 : X.heap[b + 1 + 1 + 1]? = _ := (hXb.block _ (lt_of_row HT.out.bb)).trans HT.out.bb
        obtain ⟨u0, u1, u2⟩ := sc_cells3 hp5
        have hnw : ∀ (k : Nat) (u : Value), [Value.string (strOfNums [97 + (j : Int)]), .int .i64 ba, .int .i64 st, .string sn, .int .i64 0][k]? = some u → (X.alloc (.cells #[.string (strOfNums [97 + (j : Int)]), .int .i64 ba, .int .i64 st, .string sn, .int .i64 0] 47)).cell? ((⟨X.heap.size, 0, none⟩ : Addr).add k) = some u := by
          exact World.news_of_block (fr := (0, 0)) (heap_alloc_new X (.cells #[.string (strOfNums [97 + (j : Int)]), .int .i64 ba, .int .i64 st, .string sn, .int .i64 0] 47))
        have HNW := Lib.hid hnw
        have HXA := Lib.hid hXa
        have HXV := Lib.hid hXv
        have HXR := Lib.hid hXr
        have HP5 := Lib.hid hp5
        have HP6 := Lib.hid hp6
        clear hnw hXa hXv hXr hp5 hp6
        rw [hXz] at HNW
        go_wp2_with (at_builtin; refine wpList_append_lies (o := ⟨some 58, _, _, _, _, _⟩) _ rfl (.tmp 55) (.tmp 57) 43 rfl (b + 1 + 1 + 2) 47 i0 (.agg #[.string ⟨#[]⟩, .int .i64 0, .int .i64 0, .string ⟨#[]⟩, .int .i64 0]) 5 56 Try.underlying43 hi0 hy0 hy1 hy2 rfl (by decide) _ _ _ rfl (HXA.out.alloc _) ⟨H, 0, none⟩ 1 1 [.string (strOfNums [97 + (j : Int)]), .int .i64 ba, .int .i64 st, .string sn, .int .i64 0] rfl rfl HNW.out (by simp [Value.oneCell']) (by omega) (by unfold maxLen; omega) (by omega) (by simp only [szA]; omega) _ rfl ?_; intro ga ca w7 hown7 hgrow7 hat7 hlt7; refine holdG ?_)
        have hval := HT.out.fa.lt
        have K7 : ∀ k x, va.ownBlock ≠ some k → X.heap[k]? = some x → w7.heap[k]? = some x := fun k x hne hx => (hgrow7.block k (by have := (Array.getElem?_eq_some_iff.1 hx).1; simp only [szA]; omega) (fun e => hne e.symm)).trans (row_up hx _)
        have hp57 := K7 _ _ (fun e => by have := hval _ e; omega) HP5.out
        have hp67 := K7 _ _ (fun e => by have := hval _ e; omega) HP6.out
        have hf7 := K7 _ _ (fun e => by have := hval _ e; omega) HXR.out
        have hz7 : H + 1 ≤ w7.heap.size := by have := hgrow7.size; rw [szA, hXz] at this; exact this
        have hv7 := (HXV.out.alloc _).kept hgrow7 (by
          cases hvv : vb.ownBlock with
          | none => exact .inl rfl
          | some g' => exact .inr fun e => HT.out.ne g' e.symm hvv)
        have hl5 := lt_of_row hp57
        have hl6 := lt_of_row hp67
        have hl7 := lt_of_row hf7
        obtain ⟨d0, d1, d2⟩ := sc_cells3 hp57
        obtain ⟨m0, m1, m2⟩ := sc_cells3 hp67
        obtain ⟨n0, n1, n2, n3, n4⟩ := fe_cells5 hf7
        have fz5 := frozen_of_row w7 _ 1 _ _ hp57
        have HV7 := Lib.hid hv7
        have HO7 := Lib.hid hown7
        have HP57 := Lib.hid hp57
        have HP67 := Lib.hid hp67
        have HF7 := Lib.hid hf7
        have HG7 := Lib.hid hgrow7
        clear hv7 hown7 hp57 hp67 hf7 hgrow7 a0 a1 a2 a3 a4 u0 u1 u2 K7 HNW
        unfold HoldG
        have hoH := own_one (w := w7.setCell ⟨b + 1 + 1, 1, none⟩ (.slice (some ⟨ga, 0, none⟩) (j + 1) ca)) (e := 47) (base := b + 1 + 1 + 2) (x0 := .string (strOfNums [97 + (j : Int)])) (x1 := .int .i64 ba) (x2 := .int .i64 st) (x3 := .string sn) (x4 := .int .i64 0) (by show b + 1 + 1 + 2 ≤ (w7.setCell _ _).heap.size; simp only [World.size_setCell]; omega)
        have hoV := (own_set (k := 1) (x := .slice (some ⟨ga, 0, none⟩) (j + 1) ca) HV7.out (show b + 1 + 1 < b + 1 + 1 + 2 by omega)).alloc (.cells #[.string (strOfNums [97 + (j : Int)]), .int .i64 ba, .int .i64 st, .string sn, .int .i64 0] 47)
        rw [World.size_setCell] at hoH
        have HOH := Lib.hid hoH
        have HOV := Lib.hid hoV
        clear hoH hoV
        go_wp2_with (at_builtin; go_loud (refine wpList_append_own (o := ⟨some 64, _, _, _, _, _⟩) rfl (.tmp 61) (.tmp 63) 43 rfl (b + 1 + 1 + 2) 47 i0 (.agg #[.string ⟨#[]⟩, .int .i64 0, .int .i64 0, .string ⟨#[]⟩, .int .i64 0]) 5 56 Try.underlying43 hi0 hy0 hy1 hy2 rfl (by decide) w7.heap.size 1 1 _ rfl (Nat.le_refl _) HOH.out (b + 1 + 1 + 2) _ j _ rfl HOV.out (fdsL_one _) (by unfold maxLen; omega) (by omega) (by simp only [szA, World.size_setCell]; omega) _ rfl ?_); intro gb cb w8 hown8 hgrow8 hat8 hlt8; refine holdG ?_)
        have hp58 : (w7.setCell ⟨b + 1 + 1, 1, none⟩ (.slice (some ⟨ga, 0, none⟩) (j + 1) ca)).heap[b + 1 + 1]? = some (.cells #[.string ⟨#[]⟩, .slice (some ⟨ga, 0, none⟩) (j + 1) ca, .int .i64 0] 45) := heap_setCell_same w7 (b + 1 + 1) 1 _ _ _ HP57.out
        have hp68 := (heap_setCell_other w7 ⟨b + 1 + 1, 1, none⟩ (b + 1 + 1 + 1) (.slice (some ⟨ga, 0, none⟩) (j + 1) ca) (by show b + 1 + 1 + 1 ≠ b + 1 + 1; omega)).trans HP67.out
        have hf8 := (heap_setCell_other w7 ⟨b + 1 + 1, 1, none⟩ fb (.slice (some ⟨ga, 0, none⟩) (j + 1) ca) (by show fb ≠ b + 1 + 1; omega)).trans HF7.out
        have hs7 : (w7.setCell ⟨b + 1 + 1, 1, none⟩ (.slice (some ⟨ga, 0, none⟩) (j + 1) ca)).heap.size = w7.heap.size := by simp only [World.size_setCell]
        have hva := (own_set (k := 1) (x := .slice (some ⟨ga, 0, none⟩) (j + 1) ca) HO7.out (show b + 1 + 1 < b + 1 + 1 + 2 by omega))
        have hYo : ∀ q, q < b + 1 + 1 → (w7.setCell ⟨b + 1 + 1, 1, none⟩ (.slice (some ⟨ga, 0, none⟩) (j + 1) ca)).heap[q]? = w7.heap[q]? := fun q hq => heap_setCell_other w7 ⟨b + 1 + 1, 1, none⟩ q _ (by show q ≠ b + 1 + 1; omega)
        have hgrow7' : ∀ q, q < X.heap.size → q < b + 1 + 1 → w7.heap[q]? = X.heap[q]? := fun q hq hqb => (HG7.out.block q (by simp only [szA]; omega) (fun e => by have := hval _ e.symm; omega)).trans (heap_alloc_old X _ hq)
        have hYb : Below (b + 1 + 1) w2 X → Below (b + 1 + 1) w2 (w7.setCell ⟨b + 1 + 1, 1, none⟩ (.slice (some ⟨ga, 0, none⟩) (j + 1) ca)) := fun h => ((h.alloc (by omega) _).grown HG7.out (by simp only [szA]; omega) (fun k hk => by have := hval _ hk; omega)).setCell (by show b + 1 + 1 ≤ b + 1 + 1; omega) _
        generalize w7.setCell ⟨b + 1 + 1, 1, none⟩ (.slice (some ⟨ga, 0, none⟩) (j + 1) ca) = Y at *
        have K8 : ∀ k x, Y.heap[k]? = some x → w8.heap[k]? = some x := fun k x hx => (hgrow8.block k (by have := (Array.getElem?_eq_some_iff.1 hx).1; simp only [szA]; omega) (by have := (Array.getElem?_eq_some_iff.1 hx).1; intro e; injection e with e; omega)).trans (row_up hx _)
        have hp5 := K8 _ _ hp58
        have hp6 := K8 _ _ hp68
        have hf := K8 _ _ hf8
        have KA : ∀ q, q < wr.heap.size → q < b + 1 + 1 → w8.heap[q]? = wr.heap[q]? := fun q hq hqb => (hgrow8.block q (by simp only [szA]; omega) (by intro e; injection e with e; omega)).trans ((heap_alloc_old Y _ (by omega)).trans ((hYo q hqb).trans ((hgrow7' q (by omega) (by omega)).trans (hXb.block q hq))))
        have s3 := (World.cell?_of_block (a := ⟨b + 1, r, none⟩) (KA (b + 1) hbl1 (by omega))).trans t3
        have s30 := (World.cell?_of_block (a := ⟨b + 1, r0, none⟩) (KA (b + 1) hbl1 (by omega))).trans t30
        have s00 := (World.cell?_of_block (a := ⟨g, o, none⟩) (KA g (by have := b1.size; omega) (by have := b1.size; omega))).trans c00
        have fz6 := frozen_of_row w8 _ 1 _ _ hp6
        obtain ⟨y0, y1, y2⟩ := sc_cells3 hp6
        have hll1 := lt_of_row hp5
        have hll2 := lt_of_row hp6
        have hllg : g < w8.heap.size := by have := b1.size; omega
        have hllb : b + 1 < w8.heap.size := by omega
        have hZ : TtAt w2 (w8.setCell ⟨b + 1 + 1 + 1, 1, none⟩ (.slice (some ⟨gb, 0, none⟩) (1 + j) cb)) (b + 1 + 1) ks (j + 1) (.slice (some ⟨ga, 0, none⟩) (j + 1) ca) (.slice (some ⟨gb, 0, none⟩) (1 + j) cb) := by
          have hfeK : fdL (feK j (ks.getD j 0)) = [.string (strOfNums [97 + (j : Int)]), .int .i64 ba, .int .i64 st, .string sn, .int .i64 0] := by
            rw [hkk]; unfold feK fdL; dsimp only; rw [htk]
          refine ⟨(heap_setCell_other _ _ _ _ (by show b + 1 + 1 ≠ b + 1 + 1 + 1; omega)).trans hp5, heap_setCell_same _ _ _ _ _ _ hp6, ?_, ?_, ?_, ?_⟩
          · have h1 := (hva.alloc (.cells #[.string (strOfNums [97 + (j : Int)]), .int .i64 ba, .int .i64 st, .string sn, .int .i64 0] 47)).kept hgrow8 (.inr (by show some ga ≠ some _; intro e; injection e with e; omega))
            rw [fasK_succ, fdsL_snoc, hfeK]
            exact own_set h1 (by omega)
          · rw [fasK_rev, fdsL_cons, hfeK, Nat.add_comm j 1]
            exact own_set hown8 (by omega)
          · intro g' e1 e2
            injection e1 with e1
            injection e2 with e2
            have e1' : ga = g' := e1
            have e2' : gb = g' := e2
            rcases hat8 with h | h
            · omega
            · rw [szA] at h; omega
          · have f1 : Below (b + 1 + 1) w2 X := HT.out.fr.trans (hXb.mono (by omega))
            have f2 : Below (b + 1 + 1) w2 Y := hYb f1
            have f3 := (f2.alloc (by omega) (.cells #[.string (strOfNums [97 + (j : Int)]), .int .i64 ba, .int .i64 st, .string sn, .int .i64 0] 47)).grown hgrow8 (by simp only [szA]; omega) (fun k hk => by injection hk with hk; omega)
            exact f3.setCell (by show b + 1 + 1 ≤ b + 1 + 1 + 1; omega) _
        have HZ := Lib.hid hZ
        clear hZ hp5 hp6 hf hva hgrow8 hown8 hat8 K8 KA hp58 hp68 hf8
        unfold HoldG
        have hz148 : z = 1 ∨ z = 4 ∨ z = 8 := hsz
        have v3 := (World.cell?_of_block (a := ⟨b + 1, r, none⟩) (heap_setCell_other w8 ⟨b + 1 + 1 + 1, 1, none⟩ (b + 1) (.slice (some ⟨gb, 0, none⟩) (1 + j) cb) (by show b + 1 ≠ b + 1 + 1 + 1; omega))).trans s3
        have v30 := (World.cell?_of_block (a := ⟨b + 1, r0, none⟩) (heap_setCell_other w8 ⟨b + 1 + 1 + 1, 1, none⟩ (b + 1) (.slice (some ⟨gb, 0, none⟩) (1 + j) cb) (by show b + 1 ≠ b + 1 + 1 + 1; omega))).trans s30
        have v00 := (World.cell?_of_block (a := ⟨g, o, none⟩) (heap_setCell_other w8 ⟨b + 1 + 1 + 1, 1, none⟩ g (.slice (some ⟨gb, 0, none⟩) (1 + j) cb) (by have := b1.size; show g ≠ b + 1 + 1 + 1; omega))).trans s00
        have HV := Lib.hid (And.intro v3 (And.intro v30 v00))
        clear v3 v30 v00
        have hks0 : (0 : Int) < (ks.length : Int) := by omega
        cases hall : allZ z0 (fasK ks j)
        all_goals
          go_wp2_with fail
          obtain ⟨v3, v30, v00⟩ := HV.out
          generalize w8.setCell ⟨b + 1 + 1 + 1, 1, none⟩ (.slice (some ⟨gb, 0, none⟩) (1 + j) cb) = Z at *
          have E := fun m => below_drewN (Below.refl Z.heap.size Z) m
          have x3 : ∀ m, (Z.drewN m).cell? ⟨b + 1, r, none⟩ = some (.int .i64 z) := fun m => ((E m).cell (p := ⟨b + 1, r, none⟩) (World.block_lt_of_cell? Z _ v3)).trans v3
          have x30 : ∀ m, (Z.drewN m).cell? ⟨b + 1, r0, none⟩ = some (.int .i64 z0) := fun m => ((E m).cell (p := ⟨b + 1, r0, none⟩) (World.block_lt_of_cell? Z _ v30)).trans v30
          have x00 : ∀ m, (Z.drewN m).cell? ⟨g, o, none⟩ = some (.int .u8 (k0 : Nat)) := fun m => ((E m).cell (p := ⟨g, o, none⟩) (World.block_lt_of_cell? Z _ v00)).trans v00
          clear v3 v30 v00 s3 s30 s00 y0 y1 y2 E HV
          go_quiet (fail)
          go_wp2
          refine ⟨⟨j + 1, _, _, by omega, by go_num, by rw [HSUM.out], ?_, ?_, HZ.out.keepN (below_drewN (Below.refl _ _) _)⟩, by simp [intOf]; omega⟩
          · rw [allK_succ, hall, hkk, htk, hszv]; rfl
          · rw [lineK_succ, hkk, htk, hszv]
      · have hXr : (((wr.alloc (.cells #[.int .u8 (97 + (j : Int))] 5)).alloc (.cells #[.string (strOfNums [97 + (j : Int)]), .int .i64 ba, .int .i64 st, .string sn, .int .i64 0] 47)).drew).heap[wr.heap.size + 1]? = some (.cells #[.string (strOfNums [97 + (j : Int)]), .int .i64 ba, .int .i64 st, .string sn, .int .i64 0] 47) := row_new (szA _ _) _
        have hXb : Below wr.heap.size wr (((wr.alloc (.cells #[.int .u8 (97 + (j : Int))] 5)).alloc (.cells #[.string (strOfNums [97 + (j : Int)]), .int .i64 ba, .int .i64 st, .string sn, .int .i64 0] 47)).drew) := (((Below.refl wr.heap.size wr).alloc (Nat.le_refl _) _).alloc (by simp only [szA]; omega) _).drew
        have hXz0 : (((wr.alloc (.cells #[.int .u8 (97 + (j : Int))] 5)).alloc (.cells #[.string (strOfNums [97 + (j : Int)]), .int .i64 ba, .int .i64 st, .string sn, .int .i64 0] 47)).drew).heap.size = wr.heap.size + 1 + 1 := by show (World.alloc _ _).heap.size = _; rw [szA, szA]
        have hfb : wr.heap.size + 1 < (((wr.alloc (.cells #[.int .u8 (97 + (j : Int))] 5)).alloc (.cells #[.string (strOfNums [97 + (j : Int)]), .int .i64 ba, .int .i64 st, .string sn, .int .i64 0] 47)).drew).heap.size ∧ wr.heap.size ≤ wr.heap.size + 1 ∧ wr.heap.size ≤ (((wr.alloc (.cells #[.int .u8 (97 + (j : Int))] 5)).alloc (.cells #[.string (strOfNums [97 + (j : Int)]), .int .i64 ba, .int .i64 st, .string sn, .int .i64 0] 47)).drew).heap.size := by omega
        clear hXz0
        have hXa : (((wr.alloc (.cells #[.int .u8 (97 + (j : Int))] 5)).alloc (.cells #[.string (strOfNums [97 + (j : Int)]), .int .i64 ba, .int .i64 st, .string sn, .int .i64 0] 47)).drew).ownsRow (b + 1 + 1 + 2) 47 5 va j (fdsL (fasK ks j)) := (HT.out.fa.alloc _).alloc _
        have hXv : (((wr.alloc (.cells #[.int .u8 (97 + (j : Int))] 5)).alloc (.cells #[.string (strOfNums [97 + (j : Int)]), .int .i64 ba, .int .i64 st, .string sn, .int .i64 0] 47)).drew).ownsRow (b + 1 + 1 + 2) 47 5 vb j (fdsL (fasK ks j).reverse) := (HT.out.fb.alloc _).alloc _
        generalize ((wr.alloc (.cells #[.int .u8 (97 + (j : Int))] 5)).alloc (.cells #[.string (strOfNums [97 + (j : Int)]), .int .i64 ba, .int .i64 st, .string sn, .int .i64 0] 47)).drew = X at *
        generalize hfbe : wr.heap.size + 1 = fb at *
        clear hfbe
        obtain ⟨H, hXz⟩ : ∃ H, X.heap.size = H := ⟨_, rfl⟩
        rw [hXz] at hfb
        obtain ⟨hfb1, hfb2, hfb3⟩ := hfb
        obtain ⟨a0, a1, a2, a3, a4⟩ := fe_cells5 hXr
        have hp5 : X.heap[b + 1 + 1]? = _ := (hXb.block _ (lt_of_row HT.out.ba)).trans HT.out.ba
        have hp6 : X.heap[b + 1 + 1 + 1]? = _ := (hXb.block _ (lt_of_row HT.out.bb)).trans HT.out.bb
        obtain ⟨u0, u1, u2⟩ := sc_cells3 hp5
        have hnw : ∀ (k : Nat) (u : Value), [Value.string (strOfNums [97 + (j : Int)]), .int .i64 ba, .int .i64 st, .string sn, .int .i64 0][k]? = some u → (X.alloc (.cells #[.string (strOfNums [97 + (j : Int)]), .int .i64 ba, .int .i64 st, .string sn, .int .i64 0] 47)).cell? ((⟨X.heap.size, 0, none⟩ : Addr).add k) = some u := by
          exact World.news_of_block (fr := (0, 0)) (heap_alloc_new X (.cells #[.string (strOfNums [97 + (j : Int)]), .int .i64 ba, .int .i64 st, .string sn, .int .i64 0] 47))
        have HNW := Lib.hid hnw
        have HXA := Lib.hid hXa
        have HXV := Lib.hid hXv
        have HXR := Lib.hid hXr
        have HP5 := Lib.hid hp5
        have HP6 := Lib.hid hp6
        clear hnw hXa hXv hXr hp5 hp6
        rw [hXz] at HNW
        go_wp2_with (at_builtin; refine wpList_append_lies (o := ⟨some 58, _, _, _, _, _⟩) _ rfl (.tmp 55) (.tmp 57) 43 rfl (b + 1 + 1 + 2) 47 i0 (.agg #[.string ⟨#[]⟩, .int .i64 0, .int .i64 0, .string ⟨#[]⟩, .int .i64 0]) 5 56 Try.underlying43 hi0 hy0 hy1 hy2 rfl (by decide) _ _ _ rfl (HXA.out.alloc _) ⟨H, 0, none⟩ 1 1 [.string (strOfNums [97 + (j : Int)]), .int .i64 ba, .int .i64 st, .string sn, .int .i64 0] rfl rfl HNW.out (by simp [Value.oneCell']) (by omega) (by unfold maxLen; omega) (by omega) (by simp only [szA]; omega) _ rfl ?_; intro ga ca w7 hown7 hgrow7 hat7 hlt7; refine holdG ?_)
        have hval := HT.out.fa.lt
        have K7 : ∀ k x, va.ownBlock ≠ some k → X.heap[k]? = some x → w7.heap[k]? = some x := fun k x hne hx => (hgrow7.block k (by have := (Array.getElem?_eq_some_iff.1 hx).1; simp only [szA]; omega) (fun e => hne e.symm)).trans (row_up hx _)
        have hp57 := K7 _ _ (fun e => by have := hval _ e; omega) HP5.out
        have hp67 := K7 _ _ (fun e => by have := hval _ e; omega) HP6.out
        have hf7 := K7 _ _ (fun e => by have := hval _ e; omega) HXR.out
        have hz7 : H + 1 ≤ w7.heap.size := by have := hgrow7.size; rw [szA, hXz] at this; exact this
        have hv7 := (HXV.out.alloc _).kept hgrow7 (by
          cases hvv : vb.ownBlock with
          | none => exact .inl rfl
          | some g' => exact .inr fun e => HT.out.ne g' e.symm hvv)
        have hl5 := lt_of_row hp57
        have hl6 := lt_of_row hp67
        have hl7 := lt_of_row hf7
        obtain ⟨d0, d1, d2⟩ := sc_cells3 hp57
        obtain ⟨m0, m1, m2⟩ := sc_cells3 hp67
        obtain ⟨n0, n1, n2, n3, n4⟩ := fe_cells5 hf7
        have fz5 := frozen_of_row w7 _ 1 _ _ hp57
        have HV7 := Lib.hid hv7
        have HO7 := Lib.hid hown7
        have HP57 := Lib.hid hp57
        have HP67 := Lib.hid hp67
        have HF7 := Lib.hid hf7
        have HG7 := Lib.hid hgrow7
        clear hv7 hown7 hp57 hp67 hf7 hgrow7 a0 a1 a2 a3 a4 u0 u1 u2 K7 HNW
        unfold HoldG
        have hoH := own_one (w := w7.setCell ⟨b + 1 + 1, 1, none⟩ (.slice (some ⟨ga, 0, none⟩) (j + 1) ca)) (e := 47) (base := b + 1 + 1 + 2) (x0 := .string (strOfNums [97 + (j : Int)])) (x1 := .int .i64 ba) (x2 := .int .i64 st) (x3 := .string sn) (x4 := .int .i64 0) (by show b + 1 + 1 + 2 ≤ (w7.setCell _ _).heap.size; simp only [World.size_setCell]; omega)
        have hoV := (own_set (k := 1) (x := .slice (some ⟨ga, 0, none⟩) (j + 1) ca) HV7.out (show b + 1 + 1 < b + 1 + 1 + 2 by omega)).alloc (.cells #[.string (strOfNums [97 + (j : Int)]), .int .i64 ba, .int .i64 st, .string sn, .int .i64 0] 47)
        rw [World.size_setCell] at hoH
        have HOH := Lib.hid hoH
        have HOV := Lib.hid hoV
        clear hoH hoV
        go_wp2_with (at_builtin; go_loud (refine wpList_append_own (o := ⟨some 64, _, _, _, _, _⟩) rfl (.tmp 61) (.tmp 63) 43 rfl (b + 1 + 1 + 2) 47 i0 (.agg #[.string ⟨#[]⟩, .int .i64 0, .int .i64 0, .string ⟨#[]⟩, .int .i64 0]) 5 56 Try.underlying43 hi0 hy0 hy1 hy2 rfl (by decide) w7.heap.size 1 1 _ rfl (Nat.le_refl _) HOH.out (b + 1 + 1 + 2) _ j _ rfl HOV.out (fdsL_one _) (by unfold maxLen; omega) (by omega) (by simp only [szA, World.size_setCell]; omega) _ rfl ?_); intro gb cb w8 hown8 hgrow8 hat8 hlt8; refine holdG ?_)
        have hp58 : (w7.setCell ⟨b + 1 + 1, 1, none⟩ (.slice (some ⟨ga, 0, none⟩) (j + 1) ca)).heap[b + 1 + 1]? = some (.cells #[.string ⟨#[]⟩, .slice (some ⟨ga, 0, none⟩) (j + 1) ca, .int .i64 0] 45) := heap_setCell_same w7 (b + 1 + 1) 1 _ _ _ HP57.out
        have hp68 := (heap_setCell_other w7 ⟨b + 1 + 1, 1, none⟩ (b + 1 + 1 + 1) (.slice (some ⟨ga, 0, none⟩) (j + 1) ca) (by show b + 1 + 1 + 1 ≠ b + 1 + 1; omega)).trans HP67.out
        have hf8 := (heap_setCell_other w7 ⟨b + 1 + 1, 1, none⟩ fb (.slice (some ⟨ga, 0, none⟩) (j + 1) ca) (by show fb ≠ b + 1 + 1; omega)).trans HF7.out
        have hs7 : (w7.setCell ⟨b + 1 + 1, 1, none⟩ (.slice (some ⟨ga, 0, none⟩) (j + 1) ca)).heap.size = w7.heap.size := by simp only [World.size_setCell]
        have hva := (own_set (k := 1) (x := .slice (some ⟨ga, 0, none⟩) (j + 1) ca) HO7.out (show b + 1 + 1 < b + 1 + 1 + 2 by omega))
        have hYo : ∀ q, q < b + 1 + 1 → (w7.setCell ⟨b + 1 + 1, 1, none⟩ (.slice (some ⟨ga, 0, none⟩) (j + 1) ca)).heap[q]? = w7.heap[q]? := fun q hq => heap_setCell_other w7 ⟨b + 1 + 1, 1, none⟩ q _ (by show q ≠ b + 1 + 1; omega)
        have hgrow7' : ∀ q, q < X.heap.size → q < b + 1 + 1 → w7.heap[q]? = X.heap[q]? := fun q hq hqb => (HG7.out.block q (by simp only [szA]; omega) (fun e => by have := hval _ e.symm; omega)).trans (heap_alloc_old X _ hq)
        have hYb : Below (b + 1 + 1) w2 X → Below (b + 1 + 1) w2 (w7.setCell ⟨b + 1 + 1, 1, none⟩ (.slice (some ⟨ga, 0, none⟩) (j + 1) ca)) := fun h => ((h.alloc (by omega) _).grown HG7.out (by simp only [szA]; omega) (fun k hk => by have := hval _ hk; omega)).setCell (by show b + 1 + 1 ≤ b + 1 + 1; omega) _
        generalize w7.setCell ⟨b + 1 + 1, 1, none⟩ (.slice (some ⟨ga, 0, none⟩) (j + 1) ca) = Y at *
        have K8 : ∀ k x, Y.heap[k]? = some x → w8.heap[k]? = some x := fun k x hx => (hgrow8.block k (by have := (Array.getElem?_eq_some_iff.1 hx).1; simp only [szA]; omega) (by have := (Array.getElem?_eq_some_iff.1 hx).1; intro e; injection e with e; omega)).trans (row_up hx _)
        have hp5 := K8 _ _ hp58
        have hp6 := K8 _ _ hp68
        have hf := K8 _ _ hf8
        have KA : ∀ q, q < wr.heap.size → q < b + 1 + 1 → w8.heap[q]? = wr.heap[q]? := fun q hq hqb => (hgrow8.block q (by simp only [szA]; omega) (by intro e; injection e with e; omega)).trans ((heap_alloc_old Y _ (by omega)).trans ((hYo q hqb).trans ((hgrow7' q (by omega) (by omega)).trans (hXb.block q hq))))
        have s3 := (World.cell?_of_block (a := ⟨b + 1, r, none⟩) (KA (b + 1) hbl1 (by omega))).trans t3
        have s30 := (World.cell?_of_block (a := ⟨b + 1, r0, none⟩) (KA (b + 1) hbl1 (by omega))).trans t30
        have s00 := (World.cell?_of_block (a := ⟨g, o, none⟩) (KA g (by have := b1.size; omega) (by have := b1.size; omega))).trans c00
        have fz6 := frozen_of_row w8 _ 1 _ _ hp6
        obtain ⟨y0, y1, y2⟩ := sc_cells3 hp6
        have hll1 := lt_of_row hp5
        have hll2 := lt_of_row hp6
        have hllg : g < w8.heap.size := by have := b1.size; omega
        have hllb : b + 1 < w8.heap.size := by omega
        have hZ : TtAt w2 (w8.setCell ⟨b + 1 + 1 + 1, 1, none⟩ (.slice (some ⟨gb, 0, none⟩) (1 + j) cb)) (b + 1 + 1) ks (j + 1) (.slice (some ⟨ga, 0, none⟩) (j + 1) ca) (.slice (some ⟨gb, 0, none⟩) (1 + j) cb) := by
          have hfeK : fdL (feK j (ks.getD j 0)) = [.string (strOfNums [97 + (j : Int)]), .int .i64 ba, .int .i64 st, .string sn, .int .i64 0] := by
            rw [hkk]; unfold feK fdL; dsimp only; rw [htk]
          refine ⟨(heap_setCell_other _ _ _ _ (by show b + 1 + 1 ≠ b + 1 + 1 + 1; omega)).trans hp5, heap_setCell_same _ _ _ _ _ _ hp6, ?_, ?_, ?_, ?_⟩
          · have h1 := (hva.alloc (.cells #[.string (strOfNums [97 + (j : Int)]), .int .i64 ba, .int .i64 st, .string sn, .int .i64 0] 47)).kept hgrow8 (.inr (by show some ga ≠ some _; intro e; injection e with e; omega))
            rw [fasK_succ, fdsL_snoc, hfeK]
            exact own_set h1 (by omega)
          · rw [fasK_rev, fdsL_cons, hfeK, Nat.add_comm j 1]
            exact own_set hown8 (by omega)
          · intro g' e1 e2
            injection e1 with e1
            injection e2 with e2
            have e1' : ga = g' := e1
            have e2' : gb = g' := e2
            rcases hat8 with h | h
            · omega
            · rw [szA] at h; omega
          · have f1 : Below (b + 1 + 1) w2 X := HT.out.fr.trans (hXb.mono (by omega))
            have f2 : Below (b + 1 + 1) w2 Y := hYb f1
            have f3 := (f2.alloc (by omega) (.cells #[.string (strOfNums [97 + (j : Int)]), .int .i64 ba, .int .i64 st, .string sn, .int .i64 0] 47)).grown hgrow8 (by simp only [szA]; omega) (fun k hk => by injection hk with hk; omega)
            exact f3.setCell (by show b + 1 + 1 ≤ b + 1 + 1 + 1; omega) _
        have HZ := Lib.hid hZ
        clear hZ hp5 hp6 hf hva hgrow8 hown8 hat8 K8 KA hp58 hp68 hf8
        unfold HoldG
        have hz148 : z = 1 ∨ z = 4 ∨ z = 8 := hsz
        have v3 := (World.cell?_of_block (a := ⟨b + 1, r, none⟩) (heap_setCell_other w8 ⟨b + 1 + 1 + 1, 1, none⟩ (b + 1) (.slice (some ⟨gb, 0, none⟩) (1 + j) cb) (by show b + 1 ≠ b + 1 + 1 + 1; omega))).trans s3
        have v30 := (World.cell?_of_block (a := ⟨b + 1, r0, none⟩) (heap_setCell_other w8 ⟨b + 1 + 1 + 1, 1, none⟩ (b + 1) (.slice (some ⟨gb, 0, none⟩) (1 + j) cb) (by show b + 1 ≠ b + 1 + 1 + 1; omega))).trans s30
        have v00 := (World.cell?_of_block (a := ⟨g, o, none⟩) (heap_setCell_other w8 ⟨b + 1 + 1 + 1, 1, none⟩ g (.slice (some ⟨gb, 0, none⟩) (1 + j) cb) (by have := b1.size; show g ≠ b + 1 + 1 + 1; omega))).trans s00
        have HV := Lib.hid (And.intro v3 (And.intro v30 v00))
        clear v3 v30 v00
        have hks0 : (0 : Int) < (ks.length : Int) := by omega
        cases hall : allZ z0 (fasK ks j)
        all_goals
          go_wp2_with fail
          obtain ⟨v3, v30, v00⟩ := HV.out
          generalize w8.setCell ⟨b + 1 + 1 + 1, 1, none⟩ (.slice (some ⟨gb, 0, none⟩) (1 + j) cb) = Z at *
          have E := fun m => below_drewN (Below.refl Z.heap.size Z) m
          have x3 : ∀ m, (Z.drewN m).cell? ⟨b + 1, r, none⟩ = some (.int .i64 z) := fun m => ((E m).cell (p := ⟨b + 1, r, none⟩) (World.block_lt_of_cell? Z _ v3)).trans v3
          have x30 : ∀ m, (Z.drewN m).cell? ⟨b + 1, r0, none⟩ = some (.int .i64 z0) := fun m => ((E m).cell (p := ⟨b + 1, r0, none⟩) (World.block_lt_of_cell? Z _ v30)).trans v30
          have x00 : ∀ m, (Z.drewN m).cell? ⟨g, o, none⟩ = some (.int .u8 (k0 : Nat)) := fun m => ((E m).cell (p := ⟨g, o, none⟩) (World.block_lt_of_cell? Z _ v00)).trans v00
          clear v3 v30 v00 s3 s30 s00 y0 y1 y2 E HV
          go_quiet (fail)
          go_wp2
          refine ⟨⟨j + 1, _, _, by omega, by go_num, by rw [HSUM.out], ?_, ?_, HZ.out.keepN (below_drewN (Below.refl _ _) _)⟩, by simp [intOf]; omega⟩
          · rw [allK_succ, hall, hkk, htk, hszv]; rfl
          · rw [lineK_succ, hkk, htk, hszv]
      · have hXr : (((wr.alloc (.cells #[.string (strOfNums [97 + (j : Int)]), .int .i64 ba, .int .i64 st, .string sn, .int .i64 0] 47)).alloc (.cells #[.int .u8 (97 + (j : Int))] 5)).drew).heap[wr.heap.size]? = some (.cells #[.string (strOfNums [97 + (j : Int)]), .int .i64 ba, .int .i64 st, .string sn, .int .i64 0] 47) := row_up (row_new rfl _) _
        have hXb : Below wr.heap.size wr (((wr.alloc (.cells #[.string (strOfNums [97 + (j : Int)]), .int .i64 ba, .int .i64 st, .string sn, .int .i64 0] 47)).alloc (.cells #[.int .u8 (97 + (j : Int))] 5)).drew) := (((Below.refl wr.heap.size wr).alloc (Nat.le_refl _) _).alloc (by simp only [szA]; omega) _).drew
        have hXz0 : (((wr.alloc (.cells #[.string (strOfNums [97 + (j : Int)]), .int .i64 ba, .int .i64 st, .string sn, .int .i64 0] 47)).alloc (.cells #[.int .u8 (97 + (j : Int))] 5)).drew).heap.size = wr.heap.size + 1 + 1 := by show (World.alloc _ _).heap.size = _; rw [szA, szA]
        have hfb : wr.heap.size < (((wr.alloc (.cells #[.string (strOfNums [97 + (j : Int)]), .int .i64 ba, .int .i64 st, .string sn, .int .i64 0] 47)).alloc (.cells #[.int .u8 (97 + (j : Int))] 5)).drew).heap.size ∧ wr.heap.size ≤ wr.heap.size ∧ wr.heap.size ≤ (((wr.alloc (.cells #[.string (strOfNums [97 + (j : Int)]), .int .i64 ba, .int .i64 st, .string sn, .int .i64 0] 47)).alloc (.cells #[.int .u8 (97 + (j : Int))] 5)).drew).heap.size := by omega
        clear hXz0
        have hXa : (((wr.alloc (.cells #[.string (strOfNums [97 + (j : Int)]), .int .i64 ba, .int .i64 st, .string sn, .int .i64 0] 47)).alloc (.cells #[.int .u8 (97 + (j : Int))] 5)).drew).ownsRow (b + 1 + 1 + 2) 47 5 va j (fdsL (fasK ks j)) := (HT.out.fa.alloc _).alloc _
        have hXv : (((wr.alloc (.cells #[.string (strOfNums [97 + (j : Int)]), .int .i64 ba, .int .i64 st, .string sn, .int .i64 0] 47)).alloc (.cells #[.int .u8 (97 + (j : Int))] 5)).drew).ownsRow (b + 1 + 1 + 2) 47 5 vb j (fdsL (fasK ks j).reverse) := (HT.out.fb.alloc _).alloc _
        generalize ((wr.alloc (.cells #[.string (strOfNums [97 + (j : Int)]), .int .i64 ba, .int .i64 st, .string sn, .int .i64 0] 47)).alloc (.cells #[.int .u8 (97 + (j : Int))] 5)).drew = X at *
        obtain ⟨H, hXz⟩ : ∃ H, X.heap.size = H := ⟨_, rfl⟩
        rw [hXz] at hfb
        obtain ⟨hfb1, hfb2, hfb3⟩ := hfb
        obtain ⟨a0, a1, a2, a3, a4⟩ := fe_cells5 hXr
        have hp5 : X.heap[b + 1 + 1]? = _ := (hXb.block _ (lt_of_row HT.out.ba)).trans HT.out.ba
        have hp6 : X.heap[b + 1 + 1 + 1]? = _ := (hXb.block _ (lt_of_row HT.out.bb)).trans HT.out.bb
        obtain ⟨u0, u1, u2⟩ := sc_cells3 hp5
        have hnw : ∀ (k : Nat) (u : Value), [Value.string (strOfNums [97 + (j : Int)]), .int .i64 ba, .int .i64 st, .string sn, .int .i64 0][k]? = some u → (X.alloc (.cells #[.string (strOfNums [97 + (j : Int)]), .int .i64 ba, .int .i64 st, .string sn, .int .i64 0] 47)).cell? ((⟨X.heap.size, 0, none⟩ : Addr).add k) = some u := by
          exact World.news_of_block (fr := (0, 0)) (heap_alloc_new X (.cells #[.string (strOfNums [97 + (j : Int)]), .int .i64 ba, .int .i64 st, .string sn, .int .i64 0] 47))
        have HNW := Lib.hid hnw
        have HXA := Lib.hid hXa
        have HXV := Lib.hid hXv
        have HXR := Lib.hid hXr
        have HP5 := Lib.hid hp5
        have HP6 := Lib.hid hp6
        clear hnw hXa hXv hXr hp5 hp6
        rw [hXz] at HNW
        go_wp2_with (at_builtin; refine wpList_append_lies (o := ⟨some 58, _, _, _, _, _⟩) _ rfl (.tmp 55) (.tmp 57) 43 rfl (b + 1 + 1 + 2) 47 i0 (.agg #[.string ⟨#[]⟩, .int .i64 0, .int .i64 0, .string ⟨#[]⟩, .int .i64 0]) 5 56 Try.underlying43 hi0 hy0 hy1 hy2 rfl (by decide) _ _ _ rfl (HXA.out.alloc _) ⟨H, 0, none⟩ 1 1 [.string (strOfNums [97 + (j : Int)]), .int .i64 ba, .int .i64 st, .string sn, .int .i64 0] rfl rfl HNW.out (by simp [Value.oneCell']) (by omega) (by unfold maxLen; omega) (by omega) (by simp only [szA]; omega) _ rfl ?_; intro ga ca w7 hown7 hgrow7 hat7 hlt7; refine holdG ?_)
        have hval := HT.out.fa.lt
        have K7 : ∀ k x, va.ownBlock ≠ some k → X.heap[k]? = some x → w7.heap[k]? = some x := fun k x hne hx => (hgrow7.block k (by have := (Array.getElem?_eq_some_iff.1 hx).1; simp only [szA]; omega) (fun e => hne e.symm)).trans (row_up hx _)
        have hp57 := K7 _ _ (fun e => by have := hval _ e; omega) HP5.out
        have hp67 := K7 _ _ (fun e => by have := hval _ e; omega) HP6.out
        have hf7 := K7 _ _ (fun e => by have := hval _ e; omega) HXR.out
        have hz7 : H + 1 ≤ w7.heap.size := by have := hgrow7.size; rw [szA, hXz] at this; exact this
        have hv7 := (HXV.out.alloc _).kept hgrow7 (by
          cases hvv : vb.ownBlock with
          | none => exact .inl rfl
          | some g' => exact .inr fun e => HT.out.ne g' e.symm hvv)
        have hl5 := lt_of_row hp57
        have hl6 := lt_of_row hp67
        have hl7 := lt_of_row hf7
        obtain ⟨d0, d1, d2⟩ := sc_cells3 hp57
        obtain ⟨m0, m1, m2⟩ := sc_cells3 hp67
        obtain ⟨n0, n1, n2, n3, n4⟩ := fe_cells5 hf7
        have fz5 := frozen_of_row w7 _ 1 _ _ hp57
        have HV7 := Lib.hid hv7
        have HO7 := Lib.hid hown7
        have HP57 := Lib.hid hp57
        have HP67 := Lib.hid hp67
        have HF7 := Lib.hid hf7
        have HG7 := Lib.hid hgrow7
        clear hv7 hown7 hp57 hp67 hf7 hgrow7 a0 a1 a2 a3 a4 u0 u1 u2 K7 HNW
        unfold HoldG
        have hoH := own_one (w := w7.setCell ⟨b + 1 + 1, 1, none⟩ (.slice (some ⟨ga, 0, none⟩) (j + 1) ca)) (e := 47) (base := b + 1 + 1 + 2) (x0 := .string (strOfNums [97 + (j : Int)])) (x1 := .int .i64 ba) (x2 := .int .i64 st) (x3 := .string sn) (x4 := .int .i64 0) (by show b + 1 + 1 + 2 ≤ (w7.setCell _ _).heap.size; simp only [World.size_setCell]; omega)
        have hoV := (own_set (k := 1) (x := .slice (some ⟨ga, 0, none⟩) (j + 1) ca) HV7.out (show b + 1 + 1 < b + 1 + 1 + 2 by omega)).alloc (.cells #[.string (strOfNums [97 + (j : Int)]), .int .i64 ba, .int .i64 st, .string sn, .int .i64 0] 47)
        rw [World.size_setCell] at hoH
        have HOH := Lib.hid hoH
        have HOV := Lib.hid hoV
        clear hoH hoV
        go_wp2_with (at_builtin; go_loud (refine wpList_append_own (o := ⟨some 64, _, _, _, _, _⟩) rfl (.tmp 61) (.tmp 63) 43 rfl (b + 1 + 1 + 2) 47 i0 (.agg #[.string ⟨#[]⟩, .int .i64 0, .int .i64 0, .string ⟨#[]⟩, .int .i64 0]) 5 56 Try.underlying43 hi0 hy0 hy1 hy2 rfl (by decide) w7.heap.size 1 1 _ rfl (Nat.le_refl _) HOH.out (b + 1 + 1 + 2) _ j _ rfl HOV.out (fdsL_one _) (by unfold maxLen; omega) (by omega) (by simp only [szA, World.size_setCell]; omega) _ rfl ?_); intro gb cb w8 hown8 hgrow8 hat8 hlt8; refine holdG ?_)
        have hp58 : (w7.setCell ⟨b + 1 + 1, 1, none⟩ (.slice (some ⟨ga, 0, none⟩) (j + 1) ca)).heap[b + 1 + 1]? = some (.cells #[.string ⟨#[]⟩, .slice (some ⟨ga, 0, none⟩) (j + 1) ca, .int .i64 0] 45) := heap_setCell_same w7 (b + 1 + 1) 1 _ _ _ HP57.out
        have hp68 := (heap_setCell_other w7 ⟨b + 1 + 1, 1, none⟩ (b + 1 + 1 + 1) (.slice (some ⟨ga, 0, none⟩) (j + 1) ca) (by show b + 1 + 1 + 1 ≠ b + 1 + 1; omega)).trans HP67.out
        have hf8 := (heap_setCell_other w7 ⟨b + 1 + 1, 1, none⟩ wr.heap.size (.slice (some ⟨ga, 0, none⟩) (j + 1) ca) (by show wr.heap.size ≠ b + 1 + 1; omega)).trans HF7.out
        have hs7 : (w7.setCell ⟨b + 1 + 1, 1, none⟩ (.slice (some ⟨ga, 0, none⟩) (j + 1) ca)).heap.size = w7.heap.size := by simp only [World.size_setCell]
        have hva := (own_set (k := 1) (x := .slice (some ⟨ga, 0, none⟩) (j + 1) ca) HO7.out (show b + 1 + 1 < b + 1 + 1 + 2 by omega))
        have hYo : ∀ q, q < b + 1 + 1 → (w7.setCell ⟨b + 1 + 1, 1, none⟩ (.slice (some ⟨ga, 0, none⟩) (j + 1) ca)).heap[q]? = w7.heap[q]? := fun q hq => heap_setCell_other w7 ⟨b + 1 + 1, 1, none⟩ q _ (by show q ≠ b + 1 + 1; omega)
        have hgrow7' : ∀ q, q < X.heap.size → q < b + 1 + 1 → w7.heap[q]? = X.heap[q]? := fun q hq hqb => (HG7.out.block q (by simp only [szA]; omega) (fun e => by have := hval _ e.symm; omega)).trans (heap_alloc_old X _ hq)
        have hYb : Below (b + 1 + 1) w2 X → Below (b + 1 + 1) w2 (w7.setCell ⟨b + 1 + 1, 1, none⟩ (.slice (some ⟨ga, 0, none⟩) (j + 1) ca)) := fun h => ((h.alloc (by omega) _).grown HG7.out (by simp only [szA]; omega) (fun k hk => by have := hval _ hk; omega)).setCell (by show b + 1 + 1 ≤ b + 1 + 1; omega) _
        generalize w7.setCell ⟨b + 1 + 1, 1, none⟩ (.slice (some ⟨ga, 0, none⟩) (j + 1) ca) = Y at *
        have K8 : ∀ k x, Y.heap[k]? = some x → w8.heap[k]? = some x := fun k x hx => (hgrow8.block k (by have := (Array.getElem?_eq_some_iff.1 hx).1; simp only [szA]; omega) (by have := (Array.getElem?_eq_some_iff.1 hx).1; intro e; injection e with e; omega)).trans (row_up hx _)
        have hp5 := K8 _ _ hp58
        have hp6 := K8 _ _ hp68
        have hf := K8 _ _ hf8
        have KA : ∀ q, q < wr.heap.size → q < b + 1 + 1 → w8.heap[q]? = wr.heap[q]? := fun q hq hqb => (hgrow8.block q (by simp only [szA]; omega) (by intro e; injection e with e; omega)).trans ((heap_alloc_old Y _ (by omega)).trans ((hYo q hqb).trans ((hgrow7' q (by omega) (by omega)).trans (hXb.block q hq))))
        have s3 := (World.cell?_of_block (a := ⟨b + 1, r, none⟩) (KA (b + 1) hbl1 (by omega))).trans t3
        have s30 := (World.cell?_of_block (a := ⟨b + 1, r0, none⟩) (KA (b + 1) hbl1 (by omega))).trans t30
        have s00 := (World.cell?_of_block (a := ⟨g, o, none⟩) (KA g (by have := b1.size; omega) (by have := b1.size; omega))).trans c00
        have fz6 := frozen_of_row w8 _ 1 _ _ hp6
        obtain ⟨y0, y1, y2⟩ := sc_cells3 hp6
        have hll1 := lt_of_row hp5
        have hll2 := lt_of_row hp6
        have hllg : g < w8.heap.size := by have := b1.size; omega
        have hllb : b + 1 < w8.heap.size := by omega
        have hZ : TtAt w2 (w8.setCell ⟨b + 1 + 1 + 1, 1, none⟩ (.slice (some ⟨gb, 0, none⟩) (1 + j) cb)) (b + 1 + 1) ks (j + 1) (.slice (some ⟨ga, 0, none⟩) (j + 1) ca) (.slice (some ⟨gb, 0, none⟩) (1 + j) cb) := by
          have hfeK : fdL (feK j (ks.getD j 0)) = [.string (strOfNums [97 + (j : Int)]), .int .i64 ba, .int .i64 st, .string sn, .int .i64 0] := by
            rw [hkk]; unfold feK fdL; dsimp only; rw [htk]
          refine ⟨(heap_setCell_other _ _ _ _ (by show b + 1 + 1 ≠ b + 1 + 1 + 1; omega)).trans hp5, heap_setCell_same _ _ _ _ _ _ hp6, ?_, ?_, ?_, ?_⟩
          · have h1 := (hva.alloc (.cells #[.string (strOfNums [97 + (j : Int)]), .int .i64 ba, .int .i64 st, .string sn, .int .i64 0] 47)).kept hgrow8 (.inr (by show some ga ≠ some _; intro e; injection e with e; omega))
            rw [fasK_succ, fdsL_snoc, hfeK]
            exact own_set h1 (by omega)
          · rw [fasK_rev, fdsL_cons, hfeK, Nat.add_comm j 1]
            exact own_set hown8 (by omega)
          · intro g' e1 e2
            injection e1 with e1
            injection e2 with e2
            have e1' : ga = g' := e1
            have e2' : gb = g' := e2
            rcases hat8 with h | h
            · omega
            · rw [szA] at h; omega
          · have f1 : Below (b + 1 + 1) w2 X := HT.out.fr.trans (hXb.mono (by omega))
            have f2 : Below (b + 1 + 1) w2 Y := hYb f1
            have f3 := (f2.alloc (by omega) (.cells #[.string (strOfNums [97 + (j : Int)]), .int .i64 ba, .int .i64 st, .string sn, .int .i64 0] 47)).grown hgrow8 (by simp only [szA]; omega) (fun k hk => by injection hk with hk; omega)
            exact f3.setCell (by show b + 1 + 1 ≤ b + 1 + 1 + 1; omega) _
        have HZ := Lib.hid hZ
        clear hZ hp5 hp6 hf hva hgrow8 hown8 hat8 K8 KA hp58 hp68 hf8
        unfold HoldG
        have hz148 : z = 1 ∨ z = 4 ∨ z = 8 := hsz
        have v3 := (World.cell?_of_block (a := ⟨b + 1, r, none⟩) (heap_setCell_other w8 ⟨b + 1 + 1 + 1, 1, none⟩ (b + 1) (.slice (some ⟨gb, 0, none⟩) (1 + j) cb) (by show b + 1 ≠ b + 1 + 1 + 1; omega))).trans s3
        have v30 := (World.cell?_of_block (a := ⟨b + 1, r0, none⟩) (heap_setCell_other w8 ⟨b + 1 + 1 + 1, 1, none⟩ (b + 1) (.slice (some ⟨gb, 0, none⟩) (1 + j) cb) (by show b + 1 ≠ b + 1 + 1 + 1; omega))).trans s30
        have v00 := (World.cell?_of_block (a := ⟨g, o, none⟩) (heap_setCell_other w8 ⟨b + 1 + 1 + 1, 1, none⟩ g (.slice (some ⟨gb, 0, none⟩) (1 + j) cb) (by have := b1.size; show g ≠ b + 1 + 1 + 1; omega))).trans s00
        have HV := Lib.hid (And.intro v3 (And.intro v30 v00))
        clear v3 v30 v00
        have hks0 : (0 : Int) < (ks.length : Int) := by omega
        cases hall : allZ z0 (fasK ks j)
        all_goals
          go_wp2_with fail
          obtain ⟨v3, v30, v00⟩ := HV.out
          generalize w8.setCell ⟨b + 1 + 1 + 1, 1, none⟩ (.slice (some ⟨gb, 0, none⟩) (1 + j) cb) = Z at *
          have E := fun m => below_drewN (Below.refl Z.heap.size Z) m
          have x3 : ∀ m, (Z.drewN m).cell? ⟨b + 1, r, none⟩ = some (.int .i64 z) := fun m => ((E m).cell (p := ⟨b + 1, r, none⟩) (World.block_lt_of_cell? Z _ v3)).trans v3
          have x30 : ∀ m, (Z.drewN m).cell? ⟨b + 1, r0, none⟩ = some (.int .i64 z0) := fun m => ((E m).cell (p := ⟨b + 1, r0, none⟩) (World.block_lt_of_cell? Z _ v30)).trans v30
          have x00 : ∀ m, (Z.drewN m).cell? ⟨g, o, none⟩ = some (.int .u8 (k0 : Nat)) := fun m => ((E m).cell (p := ⟨g, o, none⟩) (World.block_lt_of_cell? Z _ v00)).trans v00
          clear v3 v30 v00 s3 s30 s00 y0 y1 y2 E HV
          go_quiet (fail)
          go_wp2
          refine ⟨⟨j + 1, _, _, by omega, by go_num, by rw [HSUM.out], ?_, ?_, HZ.out.keepN (below_drewN (Below.refl _ _) _)⟩, by simp [intOf]; omega⟩
          · rw [allK_succ, hall, hkk, htk, hszv]; rfl
          · rw [lineK_succ, hkk, htk, hszv]
    · obtain rfl : j = ks.length := by omega
      have hn0 : 0 < ks.length := by omega
      have hfl := fasK_len ks ks.length
      have hszs := fasK_szs ks ks.length
      obtain ⟨ga, ca, rfl, ga1, ga2, ga3, ga4, FA⟩ := own_fds ht.fa hfl hn0
      obtain ⟨gb, cb, rfl, gb1, gb2, gb3, gb4, FB⟩ := own_fds ht.fb (by rw [List.length_reverse]; exact hfl) hn0
      have hp5 := ht.ba
      have hp6 := ht.bb
      have hfr := ht.fr
      clear ht
      obtain ⟨d0, d1, d2⟩ := sc_cells3 hp5
      obtain ⟨m0, m1, m2⟩ := sc_cells3 hp6
      have fz5 := frozen_of_row wr _ 0 _ _ hp5
      have fz6 := frozen_of_row wr _ 0 _ _ hp6
      have hl5 := lt_of_row hp5
      have hl6 := lt_of_row hp6
      obtain ⟨q1, q2, q3, q4, q5⟩ := tight_one (fs := fasK ks ks.length) (by omega) hszs
      obtain ⟨o1, o2, o3, o4, o5⟩ := tight_one (fs := (fasK ks ks.length).reverse) (by rw [List.length_reverse]; omega) (szs_rev hszs)
      have hline := line_rev (fs := fasK ks ks.length) (by omega) hszs
      rw [sumV_rev] at o1 o5
      rw [hfl] at q2
      have hbd := sumK_bd ks ks.length
      have hokF : ∀ k, k < (fasK ks ks.length).length → tyOk ((fasK ks ks.length).getD k fd0).ty := fun k hk => by rw [fasK_get ks _ k (by omega)]; exact tyK_ok _
      have hq0 : z0 = 1 ∨ z0 = 4 ∨ z0 = 8 := by rw [← hz0]; exact q0
      have q5 := q5 z0 hq0
      have o5 := o5 z0 hq0
      rw [allZ_rev] at o5
      have hokL : ScsOk (l2 (fasK ks ks.length) (fasK ks ks.length).reverse) := fun i hi => by
        have hi2 : i = 0 ∨ i = 1 := by simp [l2] at hi; omega
        rcases hi2 with rfl | rfl
        · exact ⟨by show (fasK ks ks.length).length ≤ _; omega, hokF⟩
        · refine ⟨by show (fasK ks ks.length).reverse.length ≤ _; rw [List.length_reverse]; omega, fun k hk => ?_⟩
          have hk' : k < (fasK ks ks.length).length := by have : k < (fasK ks ks.length).reverse.length := hk; rwa [List.length_reverse] at this
          show tyOk ((fasK ks ks.length).reverse.getD k fd0).ty
          rw [getD_rev _ k hk']
          exact hokF _ (by omega)
      have hZ0 : ∀ q, q ≠ b + 1 + 1 → q ≠ b + 1 + 1 + 1 → ((wr.setCell ⟨b + 1 + 1, 0, none⟩ (.string ⟨#[97]⟩)).setCell ⟨b + 1 + 1 + 1, 0, none⟩ (.string ⟨#[98]⟩)).heap[q]? = wr.heap[q]? := fun q h1 h2 => (heap_setCell_other _ _ _ _ h2).trans (heap_setCell_other _ _ _ _ h1)
      have hZb : Below (b + 1 + 1) w2 ((wr.setCell ⟨b + 1 + 1, 0, none⟩ (.string ⟨#[97]⟩)).setCell ⟨b + 1 + 1 + 1, 0, none⟩ (.string ⟨#[98]⟩)) := (hfr.setCell (by show b + 1 + 1 ≤ b + 1 + 1; omega) _).setCell (by show b + 1 + 1 ≤ b + 1 + 1 + 1; omega) _
      have hZz : ((wr.setCell ⟨b + 1 + 1, 0, none⟩ (.string ⟨#[97]⟩)).setCell ⟨b + 1 + 1 + 1, 0, none⟩ (.string ⟨#[98]⟩)).heap.size = wr.heap.size := by simp only [World.size_setCell]
      go_wp2_with fail
      generalize (wr.setCell ⟨b + 1 + 1, 0, none⟩ (.string ⟨#[97]⟩)).setCell ⟨b + 1 + 1 + 1, 0, none⟩ (.string ⟨#[98]⟩) = Z at *
      have hV : ∀ W : World, (∀ q, q < wr.heap.size + 1 → W.heap[q]? = (Z.alloc (.cells #[.string ⟨#[97]⟩, .slice (some ⟨ga, 0, none⟩) ks.length ca, .int .i64 0, .string ⟨#[98]⟩, .slice (some ⟨gb, 0, none⟩) ks.length cb, .int .i64 0] 45)).heap[q]?) → ScsAt W (wr.heap.size + 1) (some ⟨wr.heap.size, 0, none⟩) (l2 (fasK ks ks.length) (fasK ks ks.length).reverse) := fun W hW _ => by
        have hrow : W.heap[wr.heap.size]? = some (.cells #[.string ⟨#[97]⟩, .slice (some ⟨ga, 0, none⟩) ks.length ca, .int .i64 0, .string ⟨#[98]⟩, .slice (some ⟨gb, 0, none⟩) ks.length cb, .int .i64 0] 45) := (hW _ (by omega)).trans (row_new hZz _)
        have hold : ∀ q, q < wr.heap.size → q ≠ b + 1 + 1 → q ≠ b + 1 + 1 + 1 → W.heap[q]? = wr.heap[q]? := fun q h1 h2 h3 => (hW q (by omega)).trans ((heap_alloc_old _ _ (by omega)).trans (hZ0 q h2 h3))
        refine ⟨wr.heap.size, 0, rfl, by omega, fun k hk => ?_⟩
        have hk2 : k = 0 ∨ k = 1 := by simp [l2] at hk; omega
        rcases hk2 with rfl | rfl
        · refine ⟨some ⟨ga, 0, none⟩, ca, by show (fasK ks ks.length).length ≤ ca; omega, ga4, fun j v hj => ?_, FA W (hold _ ga2 (by omega) (by omega)) _ (by omega)⟩
          rw [cell_of_row _ _ _ _ _ _ hrow]
          have e : (l2 (fasK ks ks.length) (fasK ks ks.length).reverse).getD 0 sc0 = ⟨⟨#[97]⟩, fasK ks ks.length, 0⟩ := rfl
          rw [e] at hj
          dsimp only at hj
          rw [hfl] at hj
          have hj3 : j < 3 := by
            rcases Nat.lt_or_ge j 3 with h | h
            · exact h
            · rw [List.getElem?_eq_none (by simpa using h)] at hj; cases hj
          have hj3' : j = 0 ∨ j = 1 ∨ j = 2 := by omega
          rcases hj3' with rfl | rfl | rfl <;> exact hj
        · refine ⟨some ⟨gb, 0, none⟩, cb, by show (fasK ks ks.length).reverse.length ≤ cb; rw [List.length_reverse]; omega, gb4, fun j v hj => ?_, FB W (hold _ gb2 (by omega) (by omega)) _ (by omega)⟩
          rw [cell_of_row _ _ _ _ _ _ hrow]
          have e : (l2 (fasK ks ks.length) (fasK ks ks.length).reverse).getD 1 sc0 = ⟨⟨#[98]⟩, (fasK ks ks.length).reverse, 0⟩ := rfl
          rw [e] at hj
          dsimp only at hj
          rw [List.length_reverse, hfl] at hj
          have hj3 : j < 3 := by
            rcases Nat.lt_or_ge j 3 with h | h
            · exact h
            · rw [List.getElem?_eq_none (by simpa using h)] at hj; cases hj
          have hj3' : j = 0 ∨ j = 1 ∨ j = 2 := by omega
          rcases hj3' with rfl | rfl | rfl <;> exact hj
      have hVz : (Z.alloc (.cells #[.string ⟨#[97]⟩, .slice (some ⟨ga, 0, none⟩) ks.length ca, .int .i64 0, .string ⟨#[98]⟩, .slice (some ⟨gb, 0, none⟩) ks.length cb, .int .i64 0] 45)).heap.size = wr.heap.size + 1 := by rw [szA, hZz]
      have hVb : Below (b + 1 + 1) w2 (Z.alloc (.cells #[.string ⟨#[97]⟩, .slice (some ⟨ga, 0, none⟩) ks.length ca, .int .i64 0, .string ⟨#[98]⟩, .slice (some ⟨gb, 0, none⟩) ks.length cb, .int .i64 0] 45)) := hZb.alloc (by omega) _
      generalize Z.alloc (.cells #[.string ⟨#[97]⟩, .slice (some ⟨ga, 0, none⟩) ks.length ca, .int .i64 0, .string ⟨#[98]⟩, .slice (some ⟨gb, 0, none⟩) ks.length cb, .int .i64 0] 45) = V at *
      have HVV := Lib.hid hV
      clear hV hZ0 hZb hZz d0 d1 d2 m0 m1 m2 fz5 fz6 hp5 hp6 FA FB
      refine (of_yes (B := wr.heap.size + 1) (i := 0) (l := l2 (fasK ks ks.length) (fasK ks ks.length).reverse) ⟨#[97]⟩ (HVV.out V fun q _ => rfl) (by omega) (show 2 ≤ _ by decide) (l2_a _ _) hokL).mono ?_
      rintro e w3 ⟨ov, rfl, hov, h3⟩
      obtain ⟨oA, on, oc, rfl⟩ := own_slice hov
      have e0 : ((l2 (fasK ks ks.length) (fasK ks ks.length).reverse).getD 0 sc0).fs = fasK ks ks.length := rfl
      rw [e0]
      have e1 : ((l2 (fasK ks ks.length) (fasK ks ks.length).reverse).getD 1 sc0).fs = (fasK ks ks.length).reverse := rfl
      have b3 : Below (b + 1 + 1) w2 w3 := hVb.trans (h3.mono (by omega))
      generalize hS1 : (layV (fasK ks ks.length)).size = S1 at *
      generalize hS2 : (layV (fasK ks ks.length).reverse).size = S2 at *
      rw [hline] at o3 o2
      generalize hL : (layV (fasK ks ks.length)).line = L at *
      generalize hsum : sumV (fasK ks ks.length) = sm at *
      generalize hal : allZ z0 (fasK ks ks.length) = al at *
      have hz3 := h3.size
      have hn3 := heap_alloc_new w3 (.cells #[.int .i64 S1, .int .i64 L, .slice oA on oc] 50)
      have h34 := (Below.refl w3.heap.size w3).alloc (Nat.le_refl _) (.cells #[.int .i64 S1, .int .i64 L, .slice oA on oc] 50)
      have z34 : (w3.alloc (.cells #[.int .i64 S1, .int .i64 L, .slice oA on oc] 50)).heap.size = w3.heap.size + 1 := szA _ _
      go_wp2_with fail
      generalize w3.alloc (.cells #[.int .i64 S1, .int .i64 L, .slice oA on oc] 50) = w4 at *
      refine (of_yes (B := wr.heap.size + 1) (i := 1) (l := l2 (fasK ks ks.length) (fasK ks ks.length).reverse) ⟨#[98]⟩ (HVV.out w4 fun q hq => (h34.block q (by omega)).trans (h3.block q (by omega))) (by omega) (show 2 ≤ _ by decide) (l2_b _ _) hokL).mono ?_
      rintro e w5 ⟨ov2, rfl, hov2, h5⟩
      obtain ⟨oA2, on2, oc2, rfl⟩ := own_slice hov2
      rw [e1]
      rw [hline, hS2]
      have b5 : Below (b + 1 + 1) w2 w5 := (b3.trans (h34.mono (by omega))).trans (h5.mono (by omega))
      have hn5 := row_below2 h5 hn3 (by omega)
      obtain ⟨x0, x1, x2⟩ := sc_cells3 (row_up hn5 (.cells #[.int .i64 S2, .int .i64 L, .slice oA2 on2 oc2] 50))
      obtain ⟨y0, y1, y2⟩ := sc_cells3 (heap_alloc_new w5 (.cells #[.int .i64 S2, .int .i64 L, .slice oA2 on2 oc2] 50))
      have b6 : Below w.heap.size w (w5.alloc (.cells #[.int .i64 S2, .int .i64 L, .slice oA2 on2 oc2] 50)) := by
        have hb1 := b1.size
        have hb2 := b2.size
        have hb5 := b5.size
        exact b1.trans ((b2.mono (by omega)).trans ((b5.mono (by omega)).trans (((Below.refl w5.heap.size w5).alloc (Nat.le_refl _) _).mono (by omega))))
      have hS10 : 0 ≤ S1 := by omega
      have hS20 : 0 ≤ S2 := by omega
      have hL0 : 0 < L := by omega
      have hL1 : (L == 0) = false := by rw [beq_eq_false_iff_ne]; omega
      have hLm : (S1 % L == 0) = true := by rw [q3]; rfl
      obtain ⟨P, hP⟩ : ∃ P, L * (ks.length : Int) = P := ⟨_, rfl⟩
      have hP0 : 0 ≤ P ∧ P ≤ 96 := by rw [← hP]; rcases q4 with rfl | rfl | rfl <;> omega
      rw [hP] at q2
      obtain ⟨hP0, hP1⟩ := hP0
      have g1 : decide (sm ≤ S1) = true := decide_eq_true q1
      have g2 : decide (sm ≤ S2) = true := decide_eq_true o1
      have g3 : decide (S1 < sm + P) = true := decide_eq_true q2
      clear q1 o1 q2 o2 q3 o3 hov hov2 HVV hn3 hn5
      cases al
      · go_wp2_with fail
        go_ret
        exact ⟨rfl, b6⟩
      · have g4 : (S1 == sm) = true := beq_iff_eq.mpr (q5 rfl)
        have g5 : (S2 == sm) = true := beq_iff_eq.mpr (o5 rfl)
        clear q5 o5
        go_wp2_with fail
        go_ret
        exact ⟨rfl, b6⟩
end Go.Proofs.Ytalelgnooemooaa
