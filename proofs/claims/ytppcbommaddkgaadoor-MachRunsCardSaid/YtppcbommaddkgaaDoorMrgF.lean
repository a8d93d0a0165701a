/- A step of package mach, form by form. Conditions: each theorem's. A step of package mach, form by form. Conditions: each theorem's. A step of package mach: what it makes of any machine. Conditions: a machine of its Go types in memory, the tables as the program lays them. A run of package mach: what its steps make of any machine. Conditions: a machine of its Go types in memory, the tables as the program lays them, no more than so many steps. -/
import Derived.Test.YtppcbommaddkgaaDoorMrgE
import Derived.Deep.LoopGhost
namespace Go.Proofs.YtppcbommaddkgaaDoor
open Go.RowKit Go.Maps
set_option linter.unusedVariables false
set_option linter.unusedSimpArgs false
set_option maxRecDepth 10000
open Pm Pc Pl
set_option maxRecDepth 100000 in
set_option maxHeartbeats 8000000 in
theorem step_ldno {w : World} {base p q rb : Nat} {m m' : Ma} {R R' : Ru} {B : Nat} (op n : Int) (rd r1 r2 : Nat) (h : St w base p q rb m R B) (hA : Apart base p q) (hm : m.ok) (hB : B < 1099511627770) (hF : FormsIn w) (hd : rd < 32) (h1 : r1 < 32) (h2 : r2 < 32)
    (hop : op = 38 ∨ op = 39 ∨ op = 40 ∨ op = 41) (hhas : Hid (hasB ((m.reg r1 + (n % 18446744073709551616)) % 18446744073709551616) (widthV op) m.mem.length = false)) (hh : Hid (hasB m.pl 4 m.mem.length = true)) (hf : Hid (findOp (wordAt m) ≠ 0)) (hdec : Hid (decV (wordAt m) = ins op rd r1 r2 n))
    (hm' : Hid (m' = m)) (hR' : Hid (R' = R)) :
    Calls Tryd.prog 27 #[.pointer (some ⟨rb, 0, none⟩)] w (StTo w base p q rb m' R' (B + 5) (.bool false)) := by
  have hl := hm.1
  have hpl := hm.2.2.2.2.1
  have t27 : decide (op ≤ 27) = false := decide_eq_false (by omega)
  have t37 : decide (op ≤ 37) = false := decide_eq_false (by omega)
  have t41 : decide (op ≤ 41) = true := decide_eq_true (by omega)
  have ra := reg_range hm r1
  have rb_ := reg_range hm r2
  go_enter Tryd.func27, Tryd.ntmps27
  go_wp2_with fail
  refine (instr_st h hA hm (by omega) hF).mono ?_
  rintro e w1 ⟨s1, f1, he⟩
  rw [if_pos ⟨hh.out, hf.out⟩, hdec.out] at he
  subst he
  go_wp2_with fail
  obtain ⟨s2, f2⟩ := s1.below hA ((Below.refl w1.heap.size w1).alloc (Nat.le_refl _) (insB op rd r1 r2 n))
  have i2 := heap_alloc_new w1 (insB op rd r1 r2 n)
  have z1 : w1.heap.size ≠ p := by have := s1.m_.lp; omega
  have z2 : w1.heap.size ≠ q := by have := s1.m_.lq; omega
  generalize w1.heap.size = ib at *
  generalize w1.alloc (insB op rd r1 r2 n) = w2 at *
  have ma := s2.m_
  have q0 : ∀ k : Nat, MachAt (w2.drewN k) p q m := fun _ => ma
  have c0 := s2.c0
  have j2 : w2.cell? ⟨ib, 2, none⟩ = some (.int .i64 r1) := by rw [cell_of_row w2 _ 2 _ _ _ i2]; rfl
  have j3 : w2.cell? ⟨ib, 3, none⟩ = some (.int .i64 r2) := by rw [cell_of_row w2 _ 3 _ _ _ i2]; rfl
  have j4 : w2.cell? ⟨ib, 4, none⟩ = some (.int .i64 n) := by rw [cell_of_row w2 _ 4 _ _ _ i2]; rfl
  go_quiet ((first | (go_at_call 24; with_reducible refine (regs_any (q0 _) hl h1).mono ?_; rintro e w9 ⟨rfl, rfl⟩; exact ⟨rfl, _, rfl⟩) | (go_at_call 24; with_reducible refine (regs_any (q0 _) hl h2).mono ?_; rintro e w9 ⟨rfl, rfl⟩; exact ⟨rfl, _, rfl⟩) | (go_at_call 41; with_reducible refine (of_num _ _).mono ?_; rintro e w9 ⟨rfl, rfl⟩; exact ⟨rfl, _, rfl⟩)))
  revert nq; intro kq
  obtain ⟨s3, f30⟩ := s2.below hA (belowQ kq (Below.refl _ w2))
  have f3 := (f1.trans f2).trans f30
  clear f30
  have i3 : (w2.drewN kq).heap[ib]? = some (insB op rd r1 r2 n) := i2
  clear s1 s2 f1 f2 i2 q0 c0 j2 j3 j4 ma h hF
  generalize w2.drewN kq = w3 at *
  have c0 := s3.c0
  have cp := s3.m_.cpl hl
  have j0 : w3.cell? ⟨ib, 0, none⟩ = some (.int .i64 op) := by rw [cell_of_row w3 _ 0 _ _ _ i3]; rfl
  have j1 : w3.cell? ⟨ib, 1, none⟩ = some (.int .i64 rd) := by rw [cell_of_row w3 _ 1 _ _ _ i3]; rfl
  have I3 := Lib.hid i3
  obtain ⟨a, ha⟩ : ∃ a, m.reg r1 = a := ⟨_, rfl⟩
  obtain ⟨b, hb⟩ : ∃ b, m.reg r2 = b := ⟨_, rfl⟩
  have HA := Lib.hid ha; have HB := Lib.hid hb
  rw [ha] at ra ⊢
  rw [hb] at rb_ ⊢
  have hk := Int.emod_nonneg n (by decide : (18446744073709551616 : Int) ≠ 0)
  have hk' := Int.emod_lt_of_pos n (by decide : (0 : Int) < 18446744073709551616)
  obtain ⟨k, hke⟩ : ∃ k, n % 18446744073709551616 = k := ⟨_, rfl⟩
  have HK := Lib.hid hke
  rw [hke] at hk hk' ⊢
  clear ha hb hke i3
  obtain ⟨ad, had⟩ := Int.eq_ofNat_of_zero_le (Int.emod_nonneg (a + k) (by decide : (18446744073709551616 : Int) ≠ 0))
  have had1 := Int.emod_lt_of_pos (a + k) (by decide : (0 : Int) < 18446744073709551616)
  have hwr : IntKind.u64.wrap (a + k) = (ad : Int) := by rw [IntKind.wrap_u64]; exact had
  rw [had] at had1
  have hhh := hhas.out
  rw [HA.out, HK.out, had] at hhh
  have HHH := Lib.hid hhh
  clear hhh had
  go_wp2_with fail
  refine (load_no op rd ad hop (by omega) s3 hm HHH.out).mono ?_
  rintro e w4 ⟨rfl, rfl⟩
  go_wp2
  go_ret
  refine ⟨rfl, ?_, f3⟩
  rw [hm'.out, hR'.out]
  exact s3.more (by omega)
set_option maxRecDepth 100000 in
set_option maxHeartbeats 8000000 in
theorem step_stno {w : World} {base p q rb : Nat} {m m' : Ma} {R R' : Ru} {B : Nat} (op n : Int) (rd r1 r2 : Nat) (h : St w base p q rb m R B) (hA : Apart base p q) (hm : m.ok) (hB : B < 1099511627770) (hF : FormsIn w) (hd : rd < 32) (h1 : r1 < 32) (h2 : r2 < 32)
    (hop : op = 42 ∨ op = 43 ∨ op = 44) (hhas : Hid (hasB ((m.reg r1 + (n % 18446744073709551616)) % 18446744073709551616) (widthV op) m.mem.length = false)) (hh : Hid (hasB m.pl 4 m.mem.length = true)) (hf : Hid (findOp (wordAt m) ≠ 0)) (hdec : Hid (decV (wordAt m) = ins op rd r1 r2 n))
    (hm' : Hid (m' = m)) (hR' : Hid (R' = R)) :
    Calls Tryd.prog 27 #[.pointer (some ⟨rb, 0, none⟩)] w (StTo w base p q rb m' R' (B + 5) (.bool false)) := by
  have hl := hm.1
  have hpl := hm.2.2.2.2.1
  have t27 : decide (op ≤ 27) = false := decide_eq_false (by omega)
  have t37 : decide (op ≤ 37) = false := decide_eq_false (by omega)
  have t41 : decide (op ≤ 41) = false := decide_eq_false (by omega)
  have t44 : decide (op ≤ 44) = true := decide_eq_true (by omega)
  have ra := reg_range hm r1
  have rb_ := reg_range hm r2
  go_enter Tryd.func27, Tryd.ntmps27
  go_wp2_with fail
  refine (instr_st h hA hm (by omega) hF).mono ?_
  rintro e w1 ⟨s1, f1, he⟩
  rw [if_pos ⟨hh.out, hf.out⟩, hdec.out] at he
  subst he
  go_wp2_with fail
  obtain ⟨s2, f2⟩ := s1.below hA ((Below.refl w1.heap.size w1).alloc (Nat.le_refl _) (insB op rd r1 r2 n))
  have i2 := heap_alloc_new w1 (insB op rd r1 r2 n)
  have z1 : w1.heap.size ≠ p := by have := s1.m_.lp; omega
  have z2 : w1.heap.size ≠ q := by have := s1.m_.lq; omega
  generalize w1.heap.size = ib at *
  generalize w1.alloc (insB op rd r1 r2 n) = w2 at *
  have ma := s2.m_
  have q0 : ∀ k : Nat, MachAt (w2.drewN k) p q m := fun _ => ma
  have c0 := s2.c0
  have j2 : w2.cell? ⟨ib, 2, none⟩ = some (.int .i64 r1) := by rw [cell_of_row w2 _ 2 _ _ _ i2]; rfl
  have j3 : w2.cell? ⟨ib, 3, none⟩ = some (.int .i64 r2) := by rw [cell_of_row w2 _ 3 _ _ _ i2]; rfl
  have j4 : w2.cell? ⟨ib, 4, none⟩ = some (.int .i64 n) := by rw [cell_of_row w2 _ 4 _ _ _ i2]; rfl
  go_quiet ((first | (go_at_call 24; with_reducible refine (regs_any (q0 _) hl h1).mono ?_; rintro e w9 ⟨rfl, rfl⟩; exact ⟨rfl, _, rfl⟩) | (go_at_call 24; with_reducible refine (regs_any (q0 _) hl h2).mono ?_; rintro e w9 ⟨rfl, rfl⟩; exact ⟨rfl, _, rfl⟩) | (go_at_call 41; with_reducible refine (of_num _ _).mono ?_; rintro e w9 ⟨rfl, rfl⟩; exact ⟨rfl, _, rfl⟩)))
  revert nq; intro kq
  obtain ⟨s3, f30⟩ := s2.below hA (belowQ kq (Below.refl _ w2))
  have f3 := (f1.trans f2).trans f30
  clear f30
  have i3 : (w2.drewN kq).heap[ib]? = some (insB op rd r1 r2 n) := i2
  clear s1 s2 f1 f2 i2 q0 c0 j2 j3 j4 ma h hF
  generalize w2.drewN kq = w3 at *
  have c0 := s3.c0
  have cp := s3.m_.cpl hl
  have j0 : w3.cell? ⟨ib, 0, none⟩ = some (.int .i64 op) := by rw [cell_of_row w3 _ 0 _ _ _ i3]; rfl
  have j1 : w3.cell? ⟨ib, 1, none⟩ = some (.int .i64 rd) := by rw [cell_of_row w3 _ 1 _ _ _ i3]; rfl
  have I3 := Lib.hid i3
  obtain ⟨a, ha⟩ : ∃ a, m.reg r1 = a := ⟨_, rfl⟩
  obtain ⟨b, hb⟩ : ∃ b, m.reg r2 = b := ⟨_, rfl⟩
  have HA := Lib.hid ha; have HB := Lib.hid hb
  rw [ha] at ra ⊢
  rw [hb] at rb_ ⊢
  have hk := Int.emod_nonneg n (by decide : (18446744073709551616 : Int) ≠ 0)
  have hk' := Int.emod_lt_of_pos n (by decide : (0 : Int) < 18446744073709551616)
  obtain ⟨k, hke⟩ : ∃ k, n % 18446744073709551616 = k := ⟨_, rfl⟩
  have HK := Lib.hid hke
  rw [hke] at hk hk' ⊢
  clear ha hb hke i3
  obtain ⟨ad, had⟩ := Int.eq_ofNat_of_zero_le (Int.emod_nonneg (a + k) (by decide : (18446744073709551616 : Int) ≠ 0))
  have had1 := Int.emod_lt_of_pos (a + k) (by decide : (0 : Int) < 18446744073709551616)
  have hwr : IntKind.u64.wrap (a + k) = (ad : Int) := by rw [IntKind.wrap_u64]; exact had
  rw [had] at had1
  have hhh := hhas.out
  rw [HA.out, HK.out, had] at hhh
  have HHH := Lib.hid hhh
  clear hhh had
  go_wp2_with fail
  refine (store_no op b ad hop (by omega) s3 hm HHH.out).mono ?_
  rintro e w4 ⟨rfl, rfl⟩
  go_wp2
  go_ret
  refine ⟨rfl, ?_, f3⟩
  rw [hm'.out, hR'.out]
  exact s3.more (by omega)
namespace Pm
theorem callV_len {m : Ma} {R : Ru} {x : Ma × Ru} (h : callV m R = some x) (hl : m.x.length = 32) : x.1.x.length = 32 ∧ x.1.pl = m.pl := by
  unfold callV at h
  split at h
  · injection h with h; subst h; exact ⟨hl, rfl⟩
  split at h
  · split at h
    · injection h with h; subst h; exact ⟨Ma.set_len _ _ hl, by unfold Ma.set; split <;> rfl⟩
    · injection h with h; subst h; exact ⟨Ma.set_len _ _ hl, by unfold Ma.set; split <;> rfl⟩
  split at h
  · injection h with h; subst h; exact ⟨hl, rfl⟩
  split at h
  · injection h with h; subst h; exact ⟨hl, rfl⟩
  · cases h
end Pm
set_option maxRecDepth 100000 in
set_option maxHeartbeats 8000000 in
theorem step_ecall {w : World} {base p q rb : Nat} {m m' : Ma} {R R' : Ru} {B : Nat} (n : Int) (rd r1 r2 : Nat) (h : St w base p q rb m R B) (hA : Apart base p q) (hm : m.ok) (hB : B < 1099511627770) (hF : FormsIn w) (hd : rd < 32) (h1 : r1 < 32) (h2 : r2 < 32)
     (x : Ma × Ru) (hcv : Hid (callV m R = some x)) (hlx : x.1.x.length = 32) (hh : Hid (hasB m.pl 4 m.mem.length = true)) (hf : Hid (findOp (wordAt m) ≠ 0)) (hdec : Hid (decV (wordAt m) = ins 55 rd r1 r2 n))
    (hm' : Hid (m' = { x.1 with pl := (m.pl + 4) % 18446744073709551616 })) (hR' : Hid (R' = x.2)) :
    Calls Tryd.prog 27 #[.pointer (some ⟨rb, 0, none⟩)] w (StTo w base p q rb m' R' (B + 5) (.bool true)) := by
  have hl := hm.1
  have hpl := hm.2.2.2.2.1
  have ra := reg_range hm r1
  have rb_ := reg_range hm r2
  go_enter Tryd.func27, Tryd.ntmps27
  go_wp2_with fail
  refine (instr_st h hA hm (by omega) hF).mono ?_
  rintro e w1 ⟨s1, f1, he⟩
  rw [if_pos ⟨hh.out, hf.out⟩, hdec.out] at he
  subst he
  go_wp2_with fail
  obtain ⟨s2, f2⟩ := s1.below hA ((Below.refl w1.heap.size w1).alloc (Nat.le_refl _) (insB 55 rd r1 r2 n))
  have i2 := heap_alloc_new w1 (insB 55 rd r1 r2 n)
  have z1 : w1.heap.size ≠ p := by have := s1.m_.lp; omega
  have z2 : w1.heap.size ≠ q := by have := s1.m_.lq; omega
  generalize w1.heap.size = ib at *
  generalize w1.alloc (insB 55 rd r1 r2 n) = w2 at *
  have ma := s2.m_
  have q0 : ∀ k : Nat, MachAt (w2.drewN k) p q m := fun _ => ma
  have c0 := s2.c0
  have j2 : w2.cell? ⟨ib, 2, none⟩ = some (.int .i64 r1) := by rw [cell_of_row w2 _ 2 _ _ _ i2]; rfl
  have j3 : w2.cell? ⟨ib, 3, none⟩ = some (.int .i64 r2) := by rw [cell_of_row w2 _ 3 _ _ _ i2]; rfl
  have j4 : w2.cell? ⟨ib, 4, none⟩ = some (.int .i64 n) := by rw [cell_of_row w2 _ 4 _ _ _ i2]; rfl
  go_quiet ((first | (go_at_call 24; with_reducible refine (regs_any (q0 _) hl h1).mono ?_; rintro e w9 ⟨rfl, rfl⟩; exact ⟨rfl, _, rfl⟩) | (go_at_call 24; with_reducible refine (regs_any (q0 _) hl h2).mono ?_; rintro e w9 ⟨rfl, rfl⟩; exact ⟨rfl, _, rfl⟩) | (go_at_call 41; with_reducible refine (of_num _ _).mono ?_; rintro e w9 ⟨rfl, rfl⟩; exact ⟨rfl, _, rfl⟩)))
  revert nq; intro kq
  obtain ⟨s3, f30⟩ := s2.below hA (belowQ kq (Below.refl _ w2))
  have f3 := (f1.trans f2).trans f30
  clear f30
  have i3 : (w2.drewN kq).heap[ib]? = some (insB 55 rd r1 r2 n) := i2
  clear s1 s2 f1 f2 i2 q0 c0 j2 j3 j4 ma h hF
  generalize w2.drewN kq = w3 at *
  have c0 := s3.c0
  have cp := s3.m_.cpl hl
  have j0 : w3.cell? ⟨ib, 0, none⟩ = some (.int .i64 55) := by rw [cell_of_row w3 _ 0 _ _ _ i3]; rfl
  have j1 : w3.cell? ⟨ib, 1, none⟩ = some (.int .i64 rd) := by rw [cell_of_row w3 _ 1 _ _ _ i3]; rfl
  have I3 := Lib.hid i3
  obtain ⟨a, ha⟩ : ∃ a, m.reg r1 = a := ⟨_, rfl⟩
  obtain ⟨b, hb⟩ : ∃ b, m.reg r2 = b := ⟨_, rfl⟩
  have HA := Lib.hid ha; have HB := Lib.hid hb
  rw [ha] at ra ⊢
  rw [hb] at rb_ ⊢
  have hk := Int.emod_nonneg n (by decide : (18446744073709551616 : Int) ≠ 0)
  have hk' := Int.emod_lt_of_pos n (by decide : (0 : Int) < 18446744073709551616)
  obtain ⟨k, hke⟩ : ∃ k, n % 18446744073709551616 = k := ⟨_, rfl⟩
  have HK := Lib.hid hke
  rw [hke] at hk hk' ⊢
  clear ha hb hke i3
  go_wp2_with fail
  have hcc := call_st s3 hA hm (by omega)
  rw [hcv.out] at hcc
  refine hcc.mono ?_
  rintro e w4 ⟨rfl, s4, g4⟩
  have f4 := f3.trans g4
  have i4 := Lib.hid (g4.ins _ _ I3.out)
  clear s3 f3 g4 c0 cp j0 j1 hcc
  have c04 := s4.c0
  go_wp2_with (refine wpList_load_g (o := ⟨some 189, _, _, _, _, _⟩) rfl 49 (.tmp 3) rfl ib rfl 49 _ (0, 0) _ i4.out Tryd.underlying49 rfl sizeInstr ?_)
  refine (mark_any 55 rd r1 r2 n _).mono ?_
  rintro e w5 ⟨rfl, hb5⟩
  rw [show markB 55 rd r1 r2 n = false from mark_no (by omega)]
  obtain ⟨s5, f5⟩ := s4.below hA hb5
  have c05 := s5.c0
  have cp5 := s5.m_.cpl (hlx)
  have fp5 := s5.m_.fr 33
  clear c04 s4 hb5
  go_wp2
  go_ret
  obtain ⟨s6, f6⟩ := s5.mach hA (s5.m_.setPl (hlx) hA.1 _) ((Fr.set (S := [p]) _ p 33 _ (by simp)).mono (by simp))
  refine ⟨rfl, ?_, (f4.trans f5).trans f6⟩
  rw [hm'.out, hR'.out]
  try simp only [HA.out, HB.out, HK.out]
  simp only [IntKind.wrap_u64] at s6 ⊢
  exact s6.more (by omega)
set_option maxRecDepth 100000 in
set_option maxHeartbeats 8000000 in
theorem step_ecno {w : World} {base p q rb : Nat} {m m' : Ma} {R R' : Ru} {B : Nat} (n : Int) (rd r1 r2 : Nat) (h : St w base p q rb m R B) (hA : Apart base p q) (hm : m.ok) (hB : B < 1099511627770) (hF : FormsIn w) (hd : rd < 32) (h1 : r1 < 32) (h2 : r2 < 32)
     (hcv : Hid (callV m R = none)) (hh : Hid (hasB m.pl 4 m.mem.length = true)) (hf : Hid (findOp (wordAt m) ≠ 0)) (hdec : Hid (decV (wordAt m) = ins 55 rd r1 r2 n))
    (hm' : Hid (m' = m)) (hR' : Hid (R' = R)) :
    Calls Tryd.prog 27 #[.pointer (some ⟨rb, 0, none⟩)] w (StTo w base p q rb m' R' (B + 5) (.bool false)) := by
  have hl := hm.1
  have hpl := hm.2.2.2.2.1
  have ra := reg_range hm r1
  have rb_ := reg_range hm r2
  go_enter Tryd.func27, Tryd.ntmps27
  go_wp2_with fail
  refine (instr_st h hA hm (by omega) hF).mono ?_
  rintro e w1 ⟨s1, f1, he⟩
  rw [if_pos ⟨hh.out, hf.out⟩, hdec.out] at he
  subst he
  go_wp2_with fail
  obtain ⟨s2, f2⟩ := s1.below hA ((Below.refl w1.heap.size w1).alloc (Nat.le_refl _) (insB 55 rd r1 r2 n))
  have i2 := heap_alloc_new w1 (insB 55 rd r1 r2 n)
  have z1 : w1.heap.size ≠ p := by have := s1.m_.lp; omega
  have z2 : w1.heap.size ≠ q := by have := s1.m_.lq; omega
  generalize w1.heap.size = ib at *
  generalize w1.alloc (insB 55 rd r1 r2 n) = w2 at *
  have ma := s2.m_
  have q0 : ∀ k : Nat, MachAt (w2.drewN k) p q m := fun _ => ma
  have c0 := s2.c0
  have j2 : w2.cell? ⟨ib, 2, none⟩ = some (.int .i64 r1) := by rw [cell_of_row w2 _ 2 _ _ _ i2]; rfl
  have j3 : w2.cell? ⟨ib, 3, none⟩ = some (.int .i64 r2) := by rw [cell_of_row w2 _ 3 _ _ _ i2]; rfl
  have j4 : w2.cell? ⟨ib, 4, none⟩ = some (.int .i64 n) := by rw [cell_of_row w2 _ 4 _ _ _ i2]; rfl
  go_quiet ((first | (go_at_call 24; with_reducible refine (regs_any (q0 _) hl h1).mono ?_; rintro e w9 ⟨rfl, rfl⟩; exact ⟨rfl, _, rfl⟩) | (go_at_call 24; with_reducible refine (regs_any (q0 _) hl h2).mono ?_; rintro e w9 ⟨rfl, rfl⟩; exact ⟨rfl, _, rfl⟩) | (go_at_call 41; with_reducible refine (of_num _ _).mono ?_; rintro e w9 ⟨rfl, rfl⟩; exact ⟨rfl, _, rfl⟩)))
  revert nq; intro kq
  obtain ⟨s3, f30⟩ := s2.below hA (belowQ kq (Below.refl _ w2))
  have f3 := (f1.trans f2).trans f30
  clear f30
  have i3 : (w2.drewN kq).heap[ib]? = some (insB 55 rd r1 r2 n) := i2
  clear s1 s2 f1 f2 i2 q0 c0 j2 j3 j4 ma h hF
  generalize w2.drewN kq = w3 at *
  have c0 := s3.c0
  have cp := s3.m_.cpl hl
  have j0 : w3.cell? ⟨ib, 0, none⟩ = some (.int .i64 55) := by rw [cell_of_row w3 _ 0 _ _ _ i3]; rfl
  have j1 : w3.cell? ⟨ib, 1, none⟩ = some (.int .i64 rd) := by rw [cell_of_row w3 _ 1 _ _ _ i3]; rfl
  have I3 := Lib.hid i3
  obtain ⟨a, ha⟩ : ∃ a, m.reg r1 = a := ⟨_, rfl⟩
  obtain ⟨b, hb⟩ : ∃ b, m.reg r2 = b := ⟨_, rfl⟩
  have HA := Lib.hid ha; have HB := Lib.hid hb
  rw [ha] at ra ⊢
  rw [hb] at rb_ ⊢
  have hk := Int.emod_nonneg n (by decide : (18446744073709551616 : Int) ≠ 0)
  have hk' := Int.emod_lt_of_pos n (by decide : (0 : Int) < 18446744073709551616)
  obtain ⟨k, hke⟩ : ∃ k, n % 18446744073709551616 = k := ⟨_, rfl⟩
  have HK := Lib.hid hke
  rw [hke] at hk hk' ⊢
  clear ha hb hke i3
  go_wp2_with fail
  have hcc := call_st s3 hA hm (by omega)
  rw [hcv.out] at hcc
  refine hcc.mono ?_
  rintro e w4 ⟨rfl, s4, g4⟩
  go_wp2
  go_ret
  refine ⟨rfl, ?_, f3.trans g4⟩
  rw [hm'.out, hR'.out]
  exact s4.more (by omega)
set_option maxRecDepth 100000 in
set_option maxHeartbeats 8000000 in
theorem step_none {w : World} {base p q rb : Nat} {m : Ma} {R : Ru} {B : Nat} (h : St w base p q rb m R B) (hA : Apart base p q) (hm : m.ok) (hB : B < 1099511627770) (hF : FormsIn w)
    (hh : ¬ (hasB m.pl 4 m.mem.length = true ∧ findOp (wordAt m) ≠ 0)) :
    Calls Tryd.prog 27 #[.pointer (some ⟨rb, 0, none⟩)] w (StTo w base p q rb m R (B + 5) (.bool false)) := by
  have HH := Lib.hid hh; clear hh
  go_enter Tryd.func27, Tryd.ntmps27
  go_wp2_with fail
  refine (instr_st h hA hm (by omega) hF).mono ?_
  rintro e w1 ⟨s1, f1, he⟩
  rw [if_neg HH.out] at he
  subst he
  obtain ⟨s2, f2⟩ := s1.below hA ((Below.refl w1.heap.size w1).alloc (Nat.le_refl _) (insB 0 0 0 0 0))
  go_wp2
  go_ret
  exact ⟨rfl, s2.more (by omega), f1.trans f2⟩
end Go.Proofs.YtppcbommaddkgaaDoor
namespace Go.Proofs.YtppcbommaddkgaaDoor
open Go.RowKit Go.Maps
set_option linter.unusedVariables false
set_option linter.unusedSimpArgs false
set_option maxRecDepth 10000
open Pm Pc Pl
section
variable {w : World} {base p q rb : Nat} {m : Ma} {R : Ru} {B : Nat}
theorem rc_checks (h : St w base p q rb m R B) : w.cell? ⟨rb, 6, none⟩ = some (.int .i64 R.checks) := by
  obtain ⟨ov, sv, A, c, mb, cnt, D, hr, -⟩ := h
  exact (hr.c 6).trans rfl
theorem rc_free (h : St w base p q rb m R B) : w.frozen? ⟨rb, 6, none⟩ = false := by
  obtain ⟨ov, sv, A, c, mb, cnt, D, hr, -⟩ := h
  exact hr.f 6
theorem rb_ne (h : St w base p q rb m R B) (hA : Apart base p q) : p ≠ rb := by
  obtain ⟨ov, sv, A, c, mb, cnt, D, hr, -⟩ := h
  have := hr.lrb; have := hA.2.1; omega
theorem checks_up (h : St w base p q rb m R B) (hA : Apart base p q) : St (w.setCell ⟨rb, 6, none⟩ (.int .i64 ((R.checks : Int) + 1))) base p q rb m { R with checks := R.checks + 1 } B ∧ Fj base p q w (w.setCell ⟨rb, 6, none⟩ (.int .i64 ((R.checks : Int) + 1))) := by
  obtain ⟨ov, sv, A, c, mb, cnt, D, hr, hm, b⟩ := h
  obtain ⟨r1, r2, r3⟩ := run_cell (i := 6) (x := .int .i64 ((R.checks : Int) + 1)) (R' := { R with checks := R.checks + 1 }) (A' := A) (c' := c) hr hm hA (by simp [runC]) rfl rfl hr.inp
  exact ⟨⟨_, _, _, _, _, _, _, r1, r2, b⟩, r3⟩
end
set_option maxRecDepth 100000 in
set_option maxHeartbeats 8000000 in
theorem step_I {w : World} {base p q rb : Nat} {m m' : Ma} {R R' : Ru} {B : Nat} (n : Int) (o rd r1 r2 : Nat) (h : St w base p q rb m R B) (hA : Apart base p q) (hm : m.ok) (hB : B < 1099511627770) (hF : FormsIn w) (hd : rd < 32) (h1 : r1 < 32) (h2 : r2 < 32)
    (hop : 28 ≤ ((o : Nat) : Int) ∧ ((o : Nat) : Int) ≤ 37) (t : Int) (ht : 1 ≤ t ∧ t ≤ 27) (hp1 : 1 < p ∧ 1 < q) (ho : w.cell? ⟨0, o, none⟩ = some (.int .i64 t)) (hch : R.checks < 1099511627776) (hh : Hid (hasB m.pl 4 m.mem.length = true)) (hf : Hid (findOp (wordAt m) ≠ 0)) (hdec : Hid (decV (wordAt m) = ins ((o : Nat) : Int) rd r1 r2 n))
    (hm' : Hid (m' = { m.set rd (opV t (m.reg r1) (n % 18446744073709551616)) with pl := (m.pl + 4) % 18446744073709551616 })) (hR' : Hid (R' = if markB ((o : Nat) : Int) rd r1 r2 n = true then { R with checks := R.checks + 1 } else R)) :
    Calls Tryd.prog 27 #[.pointer (some ⟨rb, 0, none⟩)] w (StTo w base p q rb m' R' (B + 5) (.bool true)) := by
  have hl := hm.1
  have hpl := hm.2.2.2.2.1
  have t27 : decide (((o : Nat) : Int) ≤ 27) = false := decide_eq_false (by omega)
  have t37 : decide (((o : Nat) : Int) ≤ 37) = true := decide_eq_true (by omega)
  have ra := reg_range hm r1
  have rb_ := reg_range hm r2
  go_enter Tryd.func27, Tryd.ntmps27
  go_wp2_with fail
  refine (instr_st h hA hm (by omega) hF).mono ?_
  rintro e w1 ⟨s1, f1, he⟩
  rw [if_pos ⟨hh.out, hf.out⟩, hdec.out] at he
  subst he
  go_wp2_with fail
  obtain ⟨s2, f2⟩ := s1.below hA ((Below.refl w1.heap.size w1).alloc (Nat.le_refl _) (insB ((o : Nat) : Int) rd r1 r2 n))
  have i2 := heap_alloc_new w1 (insB ((o : Nat) : Int) rd r1 r2 n)
  have z1 : w1.heap.size ≠ p := by have := s1.m_.lp; omega
  have z2 : w1.heap.size ≠ q := by have := s1.m_.lq; omega
  generalize w1.heap.size = ib at *
  generalize w1.alloc (insB ((o : Nat) : Int) rd r1 r2 n) = w2 at *
  have ma := s2.m_
  have q0 : ∀ k : Nat, MachAt (w2.drewN k) p q m := fun _ => ma
  have c0 := s2.c0
  have j2 : w2.cell? ⟨ib, 2, none⟩ = some (.int .i64 r1) := by rw [cell_of_row w2 _ 2 _ _ _ i2]; rfl
  have j3 : w2.cell? ⟨ib, 3, none⟩ = some (.int .i64 r2) := by rw [cell_of_row w2 _ 3 _ _ _ i2]; rfl
  have j4 : w2.cell? ⟨ib, 4, none⟩ = some (.int .i64 n) := by rw [cell_of_row w2 _ 4 _ _ _ i2]; rfl
  go_quiet ((first | (go_at_call 24; with_reducible refine (regs_any (q0 _) hl h1).mono ?_; rintro e w9 ⟨rfl, rfl⟩; exact ⟨rfl, _, rfl⟩) | (go_at_call 24; with_reducible refine (regs_any (q0 _) hl h2).mono ?_; rintro e w9 ⟨rfl, rfl⟩; exact ⟨rfl, _, rfl⟩) | (go_at_call 41; with_reducible refine (of_num _ _).mono ?_; rintro e w9 ⟨rfl, rfl⟩; exact ⟨rfl, _, rfl⟩)))
  revert nq; intro kq
  obtain ⟨s3, f30⟩ := s2.below hA (belowQ kq (Below.refl _ w2))
  have f3 := (f1.trans f2).trans f30
  clear f30
  have i3 : (w2.drewN kq).heap[ib]? = some (insB ((o : Nat) : Int) rd r1 r2 n) := i2
  clear s1 s2 f1 f2 i2 q0 c0 j2 j3 j4 ma h hF
  generalize w2.drewN kq = w3 at *
  have c0 := s3.c0
  have cp := s3.m_.cpl hl
  have j0 : w3.cell? ⟨ib, 0, none⟩ = some (.int .i64 ((o : Nat) : Int)) := by rw [cell_of_row w3 _ 0 _ _ _ i3]; rfl
  have j1 : w3.cell? ⟨ib, 1, none⟩ = some (.int .i64 rd) := by rw [cell_of_row w3 _ 1 _ _ _ i3]; rfl
  have I3 := Lib.hid i3
  obtain ⟨a, ha⟩ : ∃ a, m.reg r1 = a := ⟨_, rfl⟩
  obtain ⟨b, hb⟩ : ∃ b, m.reg r2 = b := ⟨_, rfl⟩
  have HA := Lib.hid ha; have HB := Lib.hid hb
  rw [ha] at ra ⊢
  rw [hb] at rb_ ⊢
  have hk := Int.emod_nonneg n (by decide : (18446744073709551616 : Int) ≠ 0)
  have hk' := Int.emod_lt_of_pos n (by decide : (0 : Int) < 18446744073709551616)
  obtain ⟨k, hke⟩ : ∃ k, n % 18446744073709551616 = k := ⟨_, rfl⟩
  have HK := Lib.hid hke
  rw [hke] at hk hk' ⊢
  clear ha hb hke i3
  have o3 : w3.cell? ⟨0, o, none⟩ = some (.int .i64 t) := by
    have hlt := World.block_lt_of_cell? w _ ho
    rw [← ho]; exact World.cell?_of_block (f3.fb.block 0 hlt (by have := hA.2.1; omega) (by omega) (by omega))
  have O3 := Lib.hid o3; clear o3
  have o3' : w3.drew.cell? ⟨0, o, none⟩ = some (.int .i64 t) := O3.out
  have j0' : w3.drew.cell? ⟨ib, 0, none⟩ = some (.int .i64 ((o : Nat) : Int)) := j0
  have b0 : (0 : Int) ≤ ((o : Nat) : Int) := by omega
  have b1 : ((o : Nat) : Int) < 38 := by omega
  have b2 : o < 38 := by omega
  go_wp2_with fail
  go_still_tail 9, (by kernel_rfl)
  change wpList _ _ _ _ _ w3.drew
  obtain ⟨s3d, f3d⟩ := s3.below hA ((Below.refl _ w3).drew)
  have f3' := f3.trans f3d
  have I3' := Lib.hid (show w3.drew.heap[ib]? = some (insB ((o : Nat) : Int) rd r1 r2 n) from I3.out)
  clear s3 f3 f3d c0 cp j0 j1 I3 o3' j0' O3
  generalize w3.drew = w3 at *
  have c0 := s3d.c0
  go_wp2_with fail
  refine (operate_any t rd a k s3d.m_ hl hd ht.1 ht.2 ra ⟨hk, hk'⟩ c0).mono ?_
  rintro e w4 ⟨rfl, rfl⟩
  obtain ⟨s4, g4⟩ := s3d.mach hA (s3d.m_.setW hl hd hA.1 (opV t a k)) ((fr_setW w3 p rd _).mono (by simp))
  have f4 := f3'.trans g4
  have i4 := Lib.hid (at_p (fr_setW w3 p rd (opV t a k)) I3'.out z1)
  clear g4 c0
  generalize setW w3 p rd (opV t a k) = w4 at *
  have c04 := s4.c0
  go_wp2_with (refine wpList_load_g (o := ⟨some 189, _, _, _, _, _⟩) rfl 49 (.tmp 3) rfl ib rfl 49 _ (0, 0) _ i4.out Tryd.underlying49 rfl sizeInstr ?_)
  refine (mark_any ((o : Nat) : Int) rd r1 r2 n _).mono ?_
  rintro e w5 ⟨rfl, hb5⟩
  cases hmk : markB ((o : Nat) : Int) rd r1 r2 n
  · have HM := Lib.hid hmk
    clear hmk
    obtain ⟨s5, f5⟩ := s4.below hA hb5
    have c05 := s5.c0
    have cp5 := s5.m_.cpl (Ma.set_len _ _ hl)
    have fp5 := s5.m_.fr 33
    clear c04 s4 hb5
    go_wp2
    go_ret
    obtain ⟨s6, f6⟩ := s5.mach hA (s5.m_.setPl (Ma.set_len _ _ hl) hA.1 _) ((Fr.set (S := [p]) _ p 33 _ (by simp)).mono (by simp))
    refine ⟨rfl, ?_, (f4.trans f5).trans f6⟩
    rw [hm'.out, hR'.out, HM.out, if_neg (by decide)]
    try simp only [HA.out, HB.out, HK.out]
    simp only [IntKind.wrap_u64] at s6 ⊢
    exact s6.more (by omega)
  · have HM := Lib.hid hmk
    clear hmk
    obtain ⟨s5, f5⟩ := s4.below hA hb5
    have c05 := s5.c0
    have cp5 := s5.m_.cpl (Ma.set_len _ _ hl)
    have fp5 := s5.m_.fr 33
    clear c04 s4 hb5
    have c65 := rc_checks s5
    have f65 := rc_free s5
    have zpr : p ≠ rb := rb_ne s5 hA
    have zrp : rb ≠ p := fun e => zpr e.symm
    go_wp2
    go_ret
    obtain ⟨s5', f5'⟩ := checks_up s5 hA
    obtain ⟨s6, f6⟩ := s5'.mach hA (s5'.m_.setPl (Ma.set_len _ _ hl) hA.1 _) ((Fr.set (S := [p]) _ p 33 _ (by simp)).mono (by simp))
    refine ⟨rfl, ?_, ((f4.trans f5).trans f5').trans f6⟩
    rw [hm'.out, hR'.out, HM.out, if_pos rfl]
    try simp only [HA.out, HB.out, HK.out]
    simp only [IntKind.wrap_u64] at s6 ⊢
    exact s6.more (by omega)
end Go.Proofs.YtppcbommaddkgaaDoor
namespace Go.Proofs.YtppcbommaddkgaaDoor
open Go.RowKit Go.Maps
set_option linter.unusedVariables false
set_option linter.unusedSimpArgs false
set_option maxRecDepth 10000
open Pm Pc Pl
namespace Pm
def opTab (o : Int) : Int := [1, 4, 5, 6, 9, 10, 3, 7, 8, 18].getD (o - 28).toNat 0
theorem opTab_ok (o : Int) (h : 28 ≤ o ∧ o ≤ 37) : 1 ≤ opTab o ∧ opTab o ≤ 27 := by
  have : o = 28 ∨ o = 29 ∨ o = 30 ∨ o = 31 ∨ o = 32 ∨ o = 33 ∨ o = 34 ∨ o = 35 ∨ o = 36 ∨ o = 37 := by omega
  rcases this with rfl | rfl | rfl | rfl | rfl | rfl | rfl | rfl | rfl | rfl <;> decide
/-- The place behind. -/
def Ma.nx (m : Ma) : Int := (m.pl + 4) % 18446744073709551616
/-- An address: a register and an Imm. -/
def Ma.ad (m : Ma) (r1 : Nat) (n : Int) : Int := (m.reg r1 + n % 18446744073709551616) % 18446744073709551616
/-- Behind an instruction; none: it faults. -/
def doV (m : Ma) (R : Ru) (op : Int) (rd r1 r2 : Nat) (n : Int) : Option (Ma × Ru) :=
  if op ≤ 27 then some ({ m.set rd (opV op (m.reg r1) (m.reg r2)) with pl := m.nx }, R)
  else if op ≤ 37 then some ({ m.set rd (opV (opTab op) (m.reg r1) (n % 18446744073709551616)) with pl := m.nx }, if markB op rd r1 r2 n = true then { R with checks := R.checks + 1 } else R)
  else if op ≤ 41 then (if hasB (m.ad r1 n) (widthV op) m.mem.length = true then some ({ m.set rd (nrV (op != 39) (getV m.mem (m.ad r1 n).toNat (widthV op).toNat) (8 * widthV op)) with pl := m.nx }, R.note ⟨m.pl, m.ad r1 n, widthV op, false⟩) else none)
  else if op ≤ 44 then (if hasB (m.ad r1 n) (widthV op) m.mem.length = true then some ({ m with mem := putV m.mem (m.ad r1 n).toNat (m.reg r2) (widthV op).toNat, pl := m.nx }, R.note ⟨m.pl, m.ad r1 n, widthV op, true⟩) else none)
  else if op ≤ 50 then some ({ m with pl := if holdV op (m.reg r1) (m.reg r2) = true then (m.pl + n % 18446744073709551616) % 18446744073709551616 else m.nx }, R)
  else if op = 51 then some ({ m.set rd (n % 18446744073709551616 * 4096 % 18446744073709551616) with pl := m.nx }, R)
  else if op = 52 then some ({ m.set rd ((m.pl + n % 18446744073709551616 * 4096 % 18446744073709551616) % 18446744073709551616) with pl := m.nx }, R)
  else if op = 53 then some ({ m.set rd m.nx with pl := (m.pl + n % 18446744073709551616) % 18446744073709551616 }, R)
  else if op = 54 then some ({ m.set rd m.nx with pl := m.ad r1 n / 2 * 2 }, R)
  else (match callV m R with
    | some x => some ({ x.1 with pl := m.nx }, x.2)
    | none => none)
def kOf (u : Int) : Int := (rowOf (findOp u)).1
/-- Behind a step; none: it faults. -/
def stepV (m : Ma) (R : Ru) : Option (Ma × Ru) :=
  if hasB m.pl 4 m.mem.length = true ∧ findOp (wordAt m) ≠ 0 then doV m R (findOp (wordAt m)) (dRd (kOf (wordAt m)) (wordAt m)).toNat (dR1 (kOf (wordAt m)) (wordAt m)).toNat (dR2 (kOf (wordAt m)) (wordAt m)).toNat (dI (kOf (wordAt m)) (wordAt m)) else none
theorem d_small (k u : Int) : 0 ≤ dRd k u ∧ dRd k u < 32 ∧ 0 ≤ dR1 k u ∧ dR1 k u < 32 ∧ 0 ≤ dR2 k u ∧ dR2 k u < 32 := by
  unfold dRd dR1 dR2
  refine ⟨?_, ?_, ?_, ?_, ?_, ?_⟩ <;> split <;> omega
end Pm
def OpsIn (w : World) : Prop := ∀ o : Nat, 28 ≤ o → o ≤ 37 → w.cell? ⟨0, o, none⟩ = some (.int .i64 (opTab o))
theorem some_to {w : World} {base p q rb : Nat} {m : Ma} {R : Ru} {B : Nat} {o : Option (Ma × Ru)} {x : Ma × Ru} (h : o = some x) {e : Ending} {w' : World} (hs : StTo w base p q rb x.1 x.2 B (.bool true) e w') : OptTo w base p q rb m R B o e w' := by subst h; exact hs
theorem none_to {w : World} {base p q rb : Nat} {m : Ma} {R : Ru} {B : Nat} {o : Option (Ma × Ru)} (h : o = none) {e : Ending} {w' : World} (hs : StTo w base p q rb m R B (.bool false) e w') : OptTo w base p q rb m R B o e w' := by subst h; exact hs
section
variable {w : World} {base p q rb : Nat} {m : Ma} {R : Ru} {B : Nat}
theorem do_step (op n : Int) (rd r1 r2 : Nat) (h : St w base p q rb m R B) (hA : Apart base p q) (hp1 : 1 < p ∧ 1 < q) (hm : m.ok) (hB : B < 1099511627770) (hF : FormsIn w) (hO : OpsIn w) (hch : R.checks < 1099511627776) (hd : rd < 32) (h1 : r1 < 32) (h2 : r2 < 32)
    (hop : 1 ≤ op ∧ op ≤ 55) (hh : Hid (hasB m.pl 4 m.mem.length = true)) (hf : Hid (findOp (wordAt m) ≠ 0)) (hdec : Hid (decV (wordAt m) = ins op rd r1 r2 n)) :
    Calls Tryd.prog 27 #[.pointer (some ⟨rb, 0, none⟩)] w (OptTo w base p q rb m R (B + 5) (doV m R op rd r1 r2 n)) := by
  by_cases k1 : op ≤ 27
  · exact (step_R op n rd r1 r2 h hA hm hB hF hd h1 h2 ⟨hop.1, k1⟩ hh hf hdec (Lib.hid rfl) (Lib.hid rfl)).mono fun e w' hs => some_to (by unfold doV; rw [if_pos k1]) hs
  by_cases k2 : op ≤ 37
  · obtain ⟨o, rfl⟩ := Int.eq_ofNat_of_zero_le (show 0 ≤ op by omega)
    exact (step_I n o rd r1 r2 h hA hm hB hF hd h1 h2 (by omega) (opTab o) (opTab_ok _ (by omega)) hp1 (hO o (by omega) (by omega)) hch hh hf hdec (Lib.hid rfl) (Lib.hid rfl)).mono fun e w' hs => some_to (by unfold doV; rw [if_neg k1, if_pos k2]) hs
  by_cases k3 : op ≤ 41
  · have ho : op = 38 ∨ op = 39 ∨ op = 40 ∨ op = 41 := by omega
    cases hb : hasB (m.ad r1 n) (widthV op) m.mem.length
    · exact (step_ldno op n rd r1 r2 h hA hm hB hF hd h1 h2 ho (Lib.hid hb) hh hf hdec (Lib.hid rfl) (Lib.hid rfl)).mono fun e w' hs => none_to (by unfold doV; rw [if_neg k1, if_neg k2, if_pos k3, if_neg (by simp [hb])]) hs
    · rcases ho with rfl | rfl | rfl | rfl
      · exact (step_ld38 n rd r1 r2 h hA hm hB hF hd h1 h2 (Lib.hid hb) hh hf hdec (Lib.hid rfl) (Lib.hid rfl)).mono fun e w' hs => some_to (by unfold doV; rw [if_neg k1, if_neg k2, if_pos k3, if_pos hb]) hs
      · exact (step_ld39 n rd r1 r2 h hA hm hB hF hd h1 h2 (Lib.hid hb) hh hf hdec (Lib.hid rfl) (Lib.hid rfl)).mono fun e w' hs => some_to (by unfold doV; rw [if_neg k1, if_neg k2, if_pos k3, if_pos hb]) hs
      · exact (step_ld40 n rd r1 r2 h hA hm hB hF hd h1 h2 (Lib.hid hb) hh hf hdec (Lib.hid rfl) (Lib.hid rfl)).mono fun e w' hs => some_to (by unfold doV; rw [if_neg k1, if_neg k2, if_pos k3, if_pos hb]) hs
      · exact (step_ld41 n rd r1 r2 h hA hm hB hF hd h1 h2 (Lib.hid hb) hh hf hdec (Lib.hid rfl) (Lib.hid rfl)).mono fun e w' hs => some_to (by unfold doV; rw [if_neg k1, if_neg k2, if_pos k3, if_pos hb]) hs
  by_cases k4 : op ≤ 44
  · have ho : op = 42 ∨ op = 43 ∨ op = 44 := by omega
    cases hb : hasB (m.ad r1 n) (widthV op) m.mem.length
    · exact (step_stno op n rd r1 r2 h hA hm hB hF hd h1 h2 ho (Lib.hid hb) hh hf hdec (Lib.hid rfl) (Lib.hid rfl)).mono fun e w' hs => none_to (by unfold doV; rw [if_neg k1, if_neg k2, if_neg k3, if_pos k4, if_neg (by simp [hb])]) hs
    · rcases ho with rfl | rfl | rfl
      · exact (step_st42 n rd r1 r2 h hA hm hB hF hd h1 h2 (Lib.hid hb) hh hf hdec (Lib.hid rfl) (Lib.hid rfl)).mono fun e w' hs => some_to (by unfold doV; rw [if_neg k1, if_neg k2, if_neg k3, if_pos k4, if_pos hb]) hs
      · exact (step_st43 n rd r1 r2 h hA hm hB hF hd h1 h2 (Lib.hid hb) hh hf hdec (Lib.hid rfl) (Lib.hid rfl)).mono fun e w' hs => some_to (by unfold doV; rw [if_neg k1, if_neg k2, if_neg k3, if_pos k4, if_pos hb]) hs
      · exact (step_st44 n rd r1 r2 h hA hm hB hF hd h1 h2 (Lib.hid hb) hh hf hdec (Lib.hid rfl) (Lib.hid rfl)).mono fun e w' hs => some_to (by unfold doV; rw [if_neg k1, if_neg k2, if_neg k3, if_pos k4, if_pos hb]) hs
  by_cases k5 : op ≤ 50
  · exact (step_br op n rd r1 r2 h hA hm hB hF hd h1 h2 (by omega) hh hf hdec (Lib.hid rfl) (Lib.hid rfl)).mono fun e w' hs => some_to (by unfold doV; rw [if_neg k1, if_neg k2, if_neg k3, if_neg k4, if_pos k5]) hs
  have ho : op = 51 ∨ op = 52 ∨ op = 53 ∨ op = 54 ∨ op = 55 := by omega
  rcases ho with rfl | rfl | rfl | rfl | rfl
  · exact (step_lui n rd r1 r2 h hA hm hB hF hd h1 h2 hh hf hdec (Lib.hid rfl) (Lib.hid rfl)).mono fun e w' hs => some_to (by rfl) hs
  · exact (step_auipc n rd r1 r2 h hA hm hB hF hd h1 h2 hh hf hdec (Lib.hid rfl) (Lib.hid rfl)).mono fun e w' hs => some_to (by rfl) hs
  · exact (step_jal n rd r1 r2 h hA hm hB hF hd h1 h2 hh hf hdec (Lib.hid rfl) (Lib.hid rfl)).mono fun e w' hs => some_to (by rfl) hs
  · exact (step_jalr n rd r1 r2 h hA hm hB hF hd h1 h2 hh hf hdec (Lib.hid rfl) (Lib.hid rfl)).mono fun e w' hs => some_to (by rfl) hs
  · have he : doV m R 55 rd r1 r2 n = (match callV m R with
      | some x => some ({ x.1 with pl := m.nx }, x.2)
      | none => none) := by rfl
    cases hc : callV m R with
    | none => exact (step_ecno n rd r1 r2 h hA hm hB hF hd h1 h2 (Lib.hid hc) hh hf hdec (Lib.hid rfl) (Lib.hid rfl)).mono fun e w' hs => none_to (by rw [he, hc]) hs
    | some x => exact (step_ecall n rd r1 r2 h hA hm hB hF hd h1 h2 x (Lib.hid hc) (callV_len hc hm.1).1 hh hf hdec (Lib.hid rfl) (Lib.hid rfl)).mono fun e w' hs => some_to (by rw [he, hc]) hs
theorem step_any (h : St w base p q rb m R B) (hA : Apart base p q) (hp1 : 1 < p ∧ 1 < q) (hm : m.ok) (hB : B < 1099511627770) (hF : FormsIn w) (hO : OpsIn w) (hch : R.checks < 1099511627776) :
    Calls Tryd.prog 27 #[.pointer (some ⟨rb, 0, none⟩)] w (OptTo w base p q rb m R (B + 5) (stepV m R)) := by
  by_cases hh : hasB m.pl 4 m.mem.length = true ∧ findOp (wordAt m) ≠ 0
  · have hr := findOp_range (wordAt m)
    have hd := d_small (kOf (wordAt m)) (wordAt m)
    have he : stepV m R = doV m R (findOp (wordAt m)) (dRd (kOf (wordAt m)) (wordAt m)).toNat (dR1 (kOf (wordAt m)) (wordAt m)).toNat (dR2 (kOf (wordAt m)) (wordAt m)).toNat (dI (kOf (wordAt m)) (wordAt m)) := by unfold stepV; rw [if_pos hh]
    rw [he]
    refine do_step _ _ _ _ _ h hA hp1 hm hB hF hO hch (by omega) (by omega) (by omega) (by omega) (Lib.hid hh.1) (Lib.hid hh.2) (Lib.hid ?_)
    unfold decV
    rw [Int.toNat_of_nonneg hd.1, Int.toNat_of_nonneg hd.2.2.1, Int.toNat_of_nonneg hd.2.2.2.2.1]
    rfl
  · exact (step_none h hA hm hB hF hh).mono fun e w' hs => none_to (by unfold stepV; rw [if_neg hh]) hs
end
end Go.Proofs.YtppcbommaddkgaaDoor
namespace Go.Proofs.YtppcbommaddkgaaDoor
open Go.RowKit Go.Maps
set_option linter.unusedVariables false
set_option linter.unusedSimpArgs false
set_option maxRecDepth 10000
open Pm Pc Pl
namespace Pm
theorem Ma.pl_ok {m : Ma} (h : m.ok) {v : Int} (hv : 0 ≤ v ∧ v < 18446744073709551616) : Ma.ok { m with pl := v } := ⟨h.1, h.2.1, h.2.2.1, h.2.2.2.1, hv, h.2.2.2.2.2⟩
theorem Ma.set_ok {m : Ma} (h : m.ok) (k : Nat) {v : Int} (hv : 0 ≤ v ∧ v < 18446744073709551616) : (m.set k v).ok := by
  unfold Ma.set
  split
  · rename_i hk
    refine ⟨by simp [h.1], h.2.1, fun u hu => ?_, h.2.2.2.1, h.2.2.2.2.1, ?_⟩
    · rcases List.mem_or_eq_of_mem_set hu with hu | rfl
      · exact h.2.2.1 u hu
      · exact hv
    · have := h.2.2.2.2.2
      simp only [List.getD_eq_getElem?_getD] at this ⊢
      rw [List.getElem?_set_ne (by omega)]; exact this
  · exact h
theorem Ma.mem_ok {m : Ma} (h : m.ok) (l : List Int) (hl : l.length = m.mem.length) (hb : ∀ b ∈ l, 0 ≤ b ∧ b < 256) : Ma.ok { m with mem := l } := ⟨h.1, by show l.length ≤ _; rw [hl]; exact h.2.1, h.2.2.1, hb, h.2.2.2.2.1, h.2.2.2.2.2⟩
theorem putV_byte (l : List Int) (a : Nat) (x : Int) (n : Nat) (hb : ∀ b ∈ l, 0 ≤ b ∧ b < 256) : ∀ b ∈ putV l a x n, 0 ≤ b ∧ b < 256 := by
  induction n with
  | zero => exact hb
  | succ n ih =>
    intro b h
    rw [putV] at h
    rcases List.mem_or_eq_of_mem_set h with h | rfl
    · exact ih b h
    · omega
theorem Ma.set_mem (m : Ma) (k : Nat) (v : Int) : (m.set k v).mem = m.mem := by unfold Ma.set; split <;> rfl
theorem nx_range (m : Ma) : 0 ≤ m.nx ∧ m.nx < 18446744073709551616 := by unfold Ma.nx; omega
theorem note_keeps (R : Ru) (a : Ac) : (R.note a).steps = R.steps ∧ (R.note a).checks = R.checks ∧ (R.note a).wat = R.wat ∧ (R.note a).inp = R.inp := by unfold Ru.note; split <;> exact ⟨rfl, rfl, rfl, rfl⟩
/-- What a step keeps. -/
def Kept (m : Ma) (R : Ru) (x : Ma × Ru) : Prop := x.1.ok ∧ x.1.mem.length = m.mem.length ∧ x.2.steps = R.steps ∧ x.2.checks ≤ R.checks + 1 ∧ x.2.wat = R.wat
theorem callV_kept {m : Ma} {R : Ru} {x : Ma × Ru} (hm : m.ok) (hi : ∀ i : Nat, 0 ≤ R.inp.getD i 0 ∧ R.inp.getD i 0 < 256) (h : callV m R = some x) : Kept m R x := by
  unfold callV at h
  split at h
  · injection h with h; subst h; exact ⟨hm, rfl, rfl, Nat.le_succ _, rfl⟩
  split at h
  · split at h
    · injection h with h; subst h; exact ⟨Ma.set_ok hm _ (by decide), by simp [Ma.set_mem], rfl, Nat.le_succ _, rfl⟩
    · rename_i b l hbl
      injection h with h; subst h
      have := hi 0
      rw [hbl] at this
      simp at this
      exact ⟨Ma.set_ok hm _ (by omega), by simp [Ma.set_mem], rfl, Nat.le_succ _, rfl⟩
  split at h
  · injection h with h; subst h; exact ⟨hm, rfl, rfl, Nat.le_succ _, rfl⟩
  split at h
  · injection h with h; subst h; exact ⟨hm, rfl, rfl, Nat.le_succ _, rfl⟩
  · cases h
theorem doV_kept {m : Ma} {R : Ru} {op n : Int} {rd r1 r2 : Nat} {x : Ma × Ru} (hm : m.ok) (hi : ∀ i : Nat, 0 ≤ R.inp.getD i 0 ∧ R.inp.getD i 0 < 256) (hop : 1 ≤ op) (h : doV m R op rd r1 r2 n = some x) : Kept m R x := by
  have ra := reg_range hm r1
  have rb := reg_range hm r2
  have hn : 0 ≤ n % 18446744073709551616 ∧ n % 18446744073709551616 < 18446744073709551616 := by omega
  have hx := nx_range m
  unfold doV at h
  split at h
  · injection h with h; subst h
    exact ⟨Ma.pl_ok (Ma.set_ok hm _ (opV_range _ _ _ ra.1 ra.2 rb.1 rb.2)) hx, by simp [Ma.set_mem], rfl, Nat.le_succ _, rfl⟩
  split at h
  · injection h with h; subst h
    refine ⟨Ma.pl_ok (Ma.set_ok hm _ (opV_range _ _ _ ra.1 ra.2 hn.1 hn.2)) hx, by simp [Ma.set_mem], ?_, ?_, ?_⟩ <;> (split <;> simp)
  split at h
  · split at h
    · rename_i h1 h2 h3 h4
      injection h with h; subst h
      have hk := note_keeps R ⟨m.pl, m.ad r1 n, widthV op, false⟩
      have hw : widthV op = 1 ∨ widthV op = 4 ∨ widthV op = 8 := by unfold widthV; split <;> (try split) <;> simp
      exact ⟨Ma.pl_ok (Ma.set_ok hm _ (nrV_range _ _ _ (by omega) (by omega))) hx, by simp [Ma.set_mem], hk.1, by show (R.note _).checks ≤ _; omega, hk.2.2.1⟩
    · cases h
  split at h
  · split at h
    · injection h with h; subst h
      have hk := note_keeps R ⟨m.pl, m.ad r1 n, widthV op, true⟩
      exact ⟨Ma.pl_ok (Ma.mem_ok hm _ (putV_len _ _ _ _) (putV_byte _ _ _ _ hm.2.2.2.1)) hx, by simp [putV_len], hk.1, by show (R.note _).checks ≤ _; omega, hk.2.2.1⟩
    · cases h
  split at h
  · injection h with h; subst h
    exact ⟨Ma.pl_ok hm (by split <;> omega), rfl, rfl, Nat.le_succ _, rfl⟩
  split at h
  · injection h with h; subst h
    exact ⟨Ma.pl_ok (Ma.set_ok hm _ (by omega)) hx, by simp [Ma.set_mem], rfl, Nat.le_succ _, rfl⟩
  split at h
  · injection h with h; subst h
    exact ⟨Ma.pl_ok (Ma.set_ok hm _ (by omega)) hx, by simp [Ma.set_mem], rfl, Nat.le_succ _, rfl⟩
  split at h
  · injection h with h; subst h
    exact ⟨Ma.pl_ok (Ma.set_ok hm _ hx) (by omega), by simp [Ma.set_mem], rfl, Nat.le_succ _, rfl⟩
  split at h
  · injection h with h; subst h
    exact ⟨Ma.pl_ok (Ma.set_ok hm _ hx) (by unfold Ma.ad; omega), by simp [Ma.set_mem], rfl, Nat.le_succ _, rfl⟩
  · split at h
    · rename_i x' hc
      injection h with h; subst h
      obtain ⟨k1, k2, k3, k4, k5⟩ := callV_kept hm hi hc
      exact ⟨Ma.pl_ok k1 hx, k2, k3, k4, k5⟩
    · cases h
theorem stepV_kept {m : Ma} {R : Ru} {x : Ma × Ru} (hm : m.ok) (hi : ∀ i : Nat, 0 ≤ R.inp.getD i 0 ∧ R.inp.getD i 0 < 256) (h : stepV m R = some x) : Kept m R x := by
  unfold stepV at h
  split at h
  · have := findOp_range (wordAt m)
    exact doV_kept hm hi (by omega) h
  · cases h
/-- Behind so many steps, or as many as there are. -/
def runV : Nat → Ma → Ru → Ma × Ru
  | 0, m, R => (m, R)
  | n + 1, m, R => if m.st = 0 then (match stepV m R with
    | none => ({ m with st := 4 }, R)
    | some x => runV n x.1 { x.2 with steps := x.2.steps + 1 }) else (m, R)
end Pm
theorem FormsIn.fj {w w' : World} {base p q : Nat} (h : FormsIn w) (hA : Apart base p q) (hf : Fj base p q w w') : FormsIn w' := by
  refine ⟨Nat.lt_of_lt_of_le h.1 hf.fb.size, fun j v hv => ?_⟩
  have hc := h.2 j v hv
  rw [← hc]
  exact World.cell?_of_block (hf.fb.block 1 h.1 (by have := hA.2.1; have := hA.2.2.2.1; omega) (by have := hA.2.2.2.1; omega) (by have := hA.2.2.2.2; omega))
theorem OpsIn.fj {w w' : World} {base p q : Nat} (h : OpsIn w) (hA : Apart base p q) (hp1 : 1 < p ∧ 1 < q) (hf : Fj base p q w w') : OpsIn w' := by
  intro o h1 h2
  have hc := h o h1 h2
  rw [← hc]
  exact World.cell?_of_block (hf.fb.block 0 (World.block_lt_of_cell? w _ hc) (by have := hA.2.1; omega) (by omega) (by omega))
theorem St.inp {w : World} {base p q rb : Nat} {m : Ma} {R : Ru} {B : Nat} (h : St w base p q rb m R B) : ∀ i : Nat, 0 ≤ R.inp.getD i 0 ∧ R.inp.getD i 0 < 256 := by
  obtain ⟨ov, sv, A, c, mb, cnt, D, hr, -⟩ := h
  exact hr.inp.1
/-- What is left to do. -/
def left (F : Nat) (m : Ma) (R : Ru) : Nat := if m.st = 0 then F - R.steps else 0
/-- What each round keeps. -/
def StepsRel (w : World) (base p q rb : Nat) (F C : Nat) (fin : Ma × Ru) (len : Nat) (wat : Bool) (k : Nat) (wr : World) : Prop :=
  ∃ m R B, St wr base p q rb m R B ∧ Fj base p q w wr ∧ m.ok ∧ k = left F m R ∧ B + 5 * k ≤ C ∧ R.steps ≤ F ∧ R.checks ≤ R.steps ∧ runV (F - R.steps) m R = fin ∧ m.mem.length = len ∧ R.wat = wat
/-- The final state: what the run answers stands in it. -/
def StepsTo (w : World) (base p q rb : Nat) (fin : Ma × Ru) (C len : Nat) (wat : Bool) (e : Ending) (w' : World) : Prop :=
  e = .returned (.tuple #[]) ∧ ∃ w1 B, St w1 base p q rb fin.1 fin.2 B ∧ Fj base p q w w1 ∧ fin.1.ok ∧ B ≤ C ∧ fin.1.mem.length = len ∧ fin.2.wat = wat ∧ Alike2 w' ((w1.setCell ⟨rb, 1, none⟩ (.int .i64 fin.1.st)).setCell ⟨rb, 2, none⟩ (.int .u8 fin.1.cd))
theorem runV_stop {n : Nat} {m : Ma} {R : Ru} (h : m.st ≠ 0 ∨ n = 0) : runV n m R = (m, R) := by
  cases n with
  | zero => rfl
  | succ n =>
    have : m.st ≠ 0 := by omega
    unfold runV
    rw [if_neg this]
theorem runV_go {n : Nat} {m : Ma} {R : Ru} (h : m.st = 0) : runV (n + 1) m R = (match stepV m R with
    | none => ({ m with st := 4 }, R)
    | some x => runV n x.1 { x.2 with steps := x.2.steps + 1 }) := by
  rw [runV, if_pos h]
section
variable {w : World} {base p q rb : Nat} {m : Ma} {R : Ru} {B : Nat}
theorem St.c5 (h : St w base p q rb m R B) : w.cell? ⟨rb, 5, none⟩ = some (.int .i64 R.steps) := by
  obtain ⟨ov, sv, A, c, mb, cnt, D, hr, -⟩ := h
  exact (hr.c 5).trans rfl
theorem St.cf (h : St w base p q rb m R B) (i : Nat) : w.frozen? ⟨rb, i, none⟩ = false := by
  obtain ⟨ov, sv, A, c, mb, cnt, D, hr, -⟩ := h
  exact hr.f i
theorem St.c12 (h : St w base p q rb m R B) : w.cell? ⟨rb, 1, none⟩ = some (.int .i64 0) ∧ w.cell? ⟨rb, 2, none⟩ = some (.int .u8 0) := by
  obtain ⟨ov, sv, A, c, mb, cnt, D, hr, -⟩ := h
  exact ⟨(hr.c 1).trans rfl, (hr.c 2).trans rfl⟩
theorem rb_blk (h : St w base p q rb m R B) : ∃ cs, w.heap[rb]? = some (Obj.cells cs 69) := by
  obtain ⟨ov, sv, A, c, mb, cnt, D, hr, -⟩ := h
  exact ⟨_, hr.blk⟩
theorem steps_up (h : St w base p q rb m R B) (hA : Apart base p q) : St (w.setCell ⟨rb, 5, none⟩ (.int .i64 ((R.steps : Int) + 1))) base p q rb m { R with steps := R.steps + 1 } B ∧ Fj base p q w (w.setCell ⟨rb, 5, none⟩ (.int .i64 ((R.steps : Int) + 1))) := by
  obtain ⟨ov, sv, A, c, mb, cnt, D, hr, hm, b⟩ := h
  obtain ⟨r1, r2, r3⟩ := run_cell (i := 5) (x := .int .i64 ((R.steps : Int) + 1)) (R' := { R with steps := R.steps + 1 }) (A' := A) (c' := c) hr hm hA (by simp [runC]) rfl rfl hr.inp
  exact ⟨⟨_, _, _, _, _, _, _, r1, r2, b⟩, r3⟩
set_option maxRecDepth 100000 in
set_option maxHeartbeats 8000000 in
theorem steps_any (f : Int) (F C : Nat) (h : St w base p q rb m R B) (hA : Apart base p q) (hp1 : 1 < p ∧ 1 < q) (hm : m.ok) (hF : FormsIn w) (hO : OpsIn w) (hf : F = f.toNat) (hs : R.steps = 0) (hc : R.checks = 0) (hC : B + 5 * F ≤ C) (hC' : C < 1000000000000) :
    Calls Tryd.prog 22 #[.pointer (some ⟨rb, 0, none⟩), .int .i64 f] w (StepsTo w base p q rb (runV F m R) C m.mem.length R.wat) := by
  go_enter Tryd.func22, Tryd.ntmps22
  go_wp2
  have hrel0 : StepsRel w base p q rb F C (runV F m R) m.mem.length R.wat (left F m R) w := ⟨m, R, B, h, Fj.refl _ _ _ _, hm, rfl, by unfold left; split <;> omega, by omega, by omega, by rw [hs]; rfl, rfl, rfl⟩
  have HRel := Lib.hid hrel0; clear hrel0
  generalize runV F m R = fin at *
  generalize m.mem.length = len at *
  generalize R.wat = wat at *
  generalize left F m R = k0 at *
  have hC5 : 5 * F ≤ C := by omega
  clear h hm hs hc hC
  go_loopg [] k0 (fun k wr => StepsRel w base p q rb F C fin len wat k wr)
  case atStart => exact HRel.out
  case round =>
    obtain ⟨m, R, B, h, hfj, hm, hk, hB, hst, hck, hfin, hlen, hwat⟩ := hrel
    have Hfin := Lib.hid hfin; have Hk := Lib.hid hk; have Hlen := Lib.hid hlen; have Hwat := Lib.hid hwat
    clear hfin hk hlen hwat
    have c0 := h.c0
    have cst := h.m_.cst hm.1
    have c5 := h.c5
    by_cases hgo : m.st = 0 ∧ (R.steps : Int) < f
    · obtain ⟨g1, g2⟩ := hgo
      have d2 : decide ((R.steps : Int) < f) = true := decide_eq_true g2
      rw [g1] at cst
      go_wp2_with fail
      refine (step_any h hA hp1 hm (by omega) (hF.fj hA hfj) (hO.fj hA hp1 hfj) (by omega)).mono ?_
      intro e w1 ho
      cases hsv : stepV m R with
      | none =>
        rw [hsv] at ho
        obtain ⟨rfl, s1, f1⟩ := ho
        have c01 := s1.c0
        have cs1 := s1.m_.cst hm.1
        have fs1 := s1.m_.fr 34
        obtain ⟨s2, f2⟩ := s1.mach hA (s1.m_.setSt hm.1 hA.1 4) ((Fr.set (S := [p]) w1 p 34 (.int .i64 4) (by simp)).mono (by simp))
        go_wp2
        have hkF : gk = F - R.steps := by rw [Hk.out]; unfold left; rw [if_pos g1]
        have hfe : F - R.steps = (F - R.steps - 1) + 1 := by omega
        go_roundg 0
        case measure => omega
        case rel => exact ⟨{ m with st := 4 }, R, B + 5, s2, (hfj.trans f1).trans f2, hm, by unfold left; rw [if_neg (by simp)], by omega, hst, hck, by
          rw [runV_stop (.inl (by simp)), ← Hfin.out, hfe, runV_go g1, hsv], Hlen.out, Hwat.out⟩
      | some x =>
        rw [hsv] at ho
        obtain ⟨rfl, s1, f1⟩ := ho
        have c01 := s1.c0
        have c51 := s1.c5
        have fs1 := s1.cf 5
        obtain ⟨kk1, kk2, kk3, kk4, kk5⟩ := stepV_kept hm h.inp hsv
        obtain ⟨s2, f2⟩ := steps_up s1 hA
        have hx5 : x.2.steps ≤ 1000000000000 := by omega
        have Hsv := Lib.hid hsv
        have K2 := Lib.hid kk2
        have K3 := Lib.hid kk3
        have K5 := Lib.hid kk5
        clear hsv kk2 kk3 kk5
        go_wp2
        have hkF : gk = F - R.steps := by rw [Hk.out]; unfold left; rw [if_pos g1]
        have hfe : F - R.steps = (F - R.steps - 1) + 1 := by omega
        have e3 := K3.out
        go_roundg (left F x.1 { x.2 with steps := x.2.steps + 1 })
        case measure => unfold left; split <;> (try dsimp only) <;> omega
        case rel => exact ⟨x.1, { x.2 with steps := x.2.steps + 1 }, B + 5, s2, (hfj.trans f1).trans f2, kk1, rfl, by unfold left; split <;> (try dsimp only) <;> omega, by dsimp only; omega, by dsimp only; omega, by
          rw [← Hfin.out, hfe, runV_go g1, Hsv.out]; simp only [e3]; rw [show F - (R.steps + 1) = F - R.steps - 1 by omega], K2.out.trans Hlen.out, K5.out.trans Hwat.out⟩
    · have hend : runV (F - R.steps) m R = (m, R) := runV_stop (by omega)
      have Hend := Lib.hid hend; clear hend
      have c12 := h.c12
      have cc1 := c12.1
      have cc2 := c12.2
      have cf1 := h.cf 1
      have cf2 := h.cf 2
      have ccd := h.m_.ccd hm.1
      clear c12
      have hz : p ≠ rb := rb_ne h hA
      have hz' : rb ≠ p := fun e => hz e.symm
      by_cases g1 : m.st = 0
      · have d2 : decide ((R.steps : Int) < f) = false := decide_eq_false (fun g2 => hgo ⟨g1, g2⟩)
        have G1 := Lib.hid g1
        rw [g1] at cst
        clear g1 hgo
        go_wp2_with fail
        go_region
        go_end0
        have hfe : fin = (m, R) := Hfin.out.symm.trans Hend.out
        subst hfe
        refine ⟨rfl, wr, B, h, hfj, hm, by omega, Hlen.out, Hwat.out, ?_⟩
        dsimp only
        rw [G1.out]
        first | exact ⟨rfl, rfl, rfl, rfl⟩ | exact ⟨rfl, rfl, rfl, setCell_comm (rb_blk h).choose_spec (by decide)⟩
      · have g1b : (m.st == 0) = false := by simpa using g1
        have g1c : decide (m.st = 0) = false := decide_eq_false g1
        clear hgo
        go_wp2_with fail
        go_region
        go_end0
        have hfe : fin = (m, R) := Hfin.out.symm.trans Hend.out
        subst hfe
        refine ⟨rfl, wr, B, h, hfj, hm, by omega, Hlen.out, Hwat.out, ?_⟩
        dsimp only
        first | exact ⟨rfl, rfl, rfl, rfl⟩ | exact ⟨rfl, rfl, rfl, setCell_comm (rb_blk h).choose_spec (by decide)⟩
end
end Go.Proofs.YtppcbommaddkgaaDoor
