/- A step of package mach, form by form. Conditions: each theorem's. -/
import Derived.Test.YtoehfncgkkfdeaaDoorMachM1
import Derived.Deep.LoopGhost
import Derived.Deep.OwnRows
import Derived.Laws.CopyOwn
import Derived.Test.YtoehfncgkkfdeaaDoorCodeRencAny
import Derived.Test.YtoehfncgkkfdeaaDoorCodeLaid
namespace Go.Proofs.YtoehfncgkkfdeaaDoor
open Go.RowKit Go.Maps
set_option linter.unusedVariables false
set_option linter.unusedSimpArgs false
set_option maxRecDepth 10000
open Pm Pc Pl
set_option maxRecDepth 100000 in
set_option maxHeartbeats 8000000 in
theorem step_ldno {w : World} {base p q rb : Nat} {m m' : Ma} {R R' : Ru} {B : Nat} (op n : Int) (rd r1 r2 : Nat) (h : St w base p q rb m R B) (hA : Apart base p q) (hm : m.ok) (hB : B < 1099511627770) (hF : FormsIn w) (hd : rd < 32) (h1 : r1 < 32) (h2 : r2 < 32)
    (hop : op = 38 ∨ op = 39 ∨ op = 40 ∨ op = 41) (hhas : Hid (hasB ((m.reg r1 + (n % 18446744073709551616)) % 18446744073709551616) (widthV op) m.mem.length = false)) (hh : Hid (hasB m.pl 4 m.mem.length = true)) (hf : Hid (findOp (wordAt m) ≠ 0)) (hdec : Hid (decV (wordAt m) = ins op rd r1 r2 n))
    (hm' : Hid (m' = m)) (hR' : Hid (R' = R)) :
    Calls Tryd.prog 27 #[.pointer (some ⟨rb, 0, none⟩)] w (StTo w base p q rb m' R' (B + 5) (.bool false)) := by
  have hl := hm.1
  have hpl := hm.2.2.2.2.1
  have t27 : decide (op ≤ 27) = false := decide_eq_false (by omega)
  have t37 : decide (op ≤ 37) = false := decide_eq_false (by omega)
  have t41 : decide (op ≤ 41) = true := decide_eq_true (by omega)
  have ra := reg_range hm r1
  have rb_ := reg_range hm r2
  go_enter Tryd.func27, Tryd.ntmps27
  go_wp2_with fail
  refine (instr_st h hA hm (by omega) hF).mono ?_
  rintro e w1 ⟨s1, f1, he⟩
  rw [if_pos ⟨hh.out, hf.out⟩, hdec.out] at he
  subst he
  go_wp2_with fail
  obtain ⟨s2, f2⟩ := s1.below hA ((Below.refl w1.heap.size w1).alloc (Nat.le_refl _) (insB op rd r1 r2 n))
  have i2 := heap_alloc_new w1 (insB op rd r1 r2 n)
  have z1 : w1.heap.size ≠ p := by have := s1.m_.lp; omega
  have z2 : w1.heap.size ≠ q := by have := s1.m_.lq; omega
  generalize w1.heap.size = ib at *
  generalize w1.alloc (insB op rd r1 r2 n) = w2 at *
  have ma := s2.m_
  have q0 : ∀ k : Nat, MachAt (w2.drewN k) p q m := fun _ => ma
  have c0 := s2.c0
  have j2 : w2.cell? ⟨ib, 2, none⟩ = some (.int .i64 r1) := by rw [cell_of_row w2 _ 2 _ _ _ i2]; rfl
  have j3 : w2.cell? ⟨ib, 3, none⟩ = some (.int .i64 r2) := by rw [cell_of_row w2 _ 3 _ _ _ i2]; rfl
  have j4 : w2.cell? ⟨ib, 4, none⟩ = some (.int .i64 n) := by rw [cell_of_row w2 _ 4 _ _ _ i2]; rfl
  go_quiet ((first | (go_at_call 24; with_reducible refine (regs_any (q0 _) hl h1).mono ?_; rintro e w9 ⟨rfl, rfl⟩; exact ⟨rfl, _, rfl⟩) | (go_at_call 24; with_reducible refine (regs_any (q0 _) hl h2).mono ?_; rintro e w9 ⟨rfl, rfl⟩; exact ⟨rfl, _, rfl⟩) | (go_at_call 41; with_reducible refine (of_num _ _).mono ?_; rintro e w9 ⟨rfl, rfl⟩; exact ⟨rfl, _, rfl⟩)))
  revert nq; intro kq
  obtain ⟨s3, f30⟩ := s2.below hA (belowQ kq (Below.refl _ w2))
  have f3 := (f1.trans f2).trans f30
  clear f30
  have i3 : (w2.drewN kq).heap[ib]? = some (insB op rd r1 r2 n) := i2
  clear s1 s2 f1 f2 i2 q0 c0 j2 j3 j4 ma h hF
  generalize w2.drewN kq = w3 at *
  have c0 := s3.c0
  have cp := s3.m_.cpl hl
  have j0 : w3.cell? ⟨ib, 0, none⟩ = some (.int .i64 op) := by rw [cell_of_row w3 _ 0 _ _ _ i3]; rfl
  have j1 : w3.cell? ⟨ib, 1, none⟩ = some (.int .i64 rd) := by rw [cell_of_row w3 _ 1 _ _ _ i3]; rfl
  have I3 := Lib.hid i3
  obtain ⟨a, ha⟩ : ∃ a, m.reg r1 = a := ⟨_, rfl⟩
  obtain ⟨b, hb⟩ : ∃ b, m.reg r2 = b := ⟨_, rfl⟩
  have HA := Lib.hid ha; have HB := Lib.hid hb
  rw [ha] at ra ⊢
  rw [hb] at rb_ ⊢
  have hk := Int.emod_nonneg n (by decide : (18446744073709551616 : Int) ≠ 0)
  have hk' := Int.emod_lt_of_pos n (by decide : (0 : Int) < 18446744073709551616)
  obtain ⟨k, hke⟩ : ∃ k, n % 18446744073709551616 = k := ⟨_, rfl⟩
  have HK := Lib.hid hke
  rw [hke] at hk hk' ⊢
  clear ha hb hke i3
  obtain ⟨ad, had⟩ := Int.eq_ofNat_of_zero_le (Int.emod_nonneg (a + k) (by decide : (18446744073709551616 : Int) ≠ 0))
  have had1 := Int.emod_lt_of_pos (a + k) (by decide : (0 : Int) < 18446744073709551616)
  have hwr : IntKind.u64.wrap (a + k) = (ad : Int) := by rw [IntKind.wrap_u64]; exact had
  rw [had] at had1
  have hhh := hhas.out
  rw [HA.out, HK.out, had] at hhh
  have HHH := Lib.hid hhh
  clear hhh had
  go_wp2_with fail
  refine (load_no op rd ad hop (by omega) s3 hm HHH.out).mono ?_
  rintro e w4 ⟨rfl, rfl⟩
  go_wp2
  go_ret
  refine ⟨rfl, ?_, f3⟩
  rw [hm'.out, hR'.out]
  exact s3.more (by omega)
set_option maxRecDepth 100000 in
set_option maxHeartbeats 8000000 in
theorem step_stno {w : World} {base p q rb : Nat} {m m' : Ma} {R R' : Ru} {B : Nat} (op n : Int) (rd r1 r2 : Nat) (h : St w base p q rb m R B) (hA : Apart base p q) (hm : m.ok) (hB : B < 1099511627770) (hF : FormsIn w) (hd : rd < 32) (h1 : r1 < 32) (h2 : r2 < 32)
    (hop : op = 42 ∨ op = 43 ∨ op = 44) (hhas : Hid (hasB ((m.reg r1 + (n % 18446744073709551616)) % 18446744073709551616) (widthV op) m.mem.length = false)) (hh : Hid (hasB m.pl 4 m.mem.length = true)) (hf : Hid (findOp (wordAt m) ≠ 0)) (hdec : Hid (decV (wordAt m) = ins op rd r1 r2 n))
    (hm' : Hid (m' = m)) (hR' : Hid (R' = R)) :
    Calls Tryd.prog 27 #[.pointer (some ⟨rb, 0, none⟩)] w (StTo w base p q rb m' R' (B + 5) (.bool false)) := by
  have hl := hm.1
  have hpl := hm.2.2.2.2.1
  have t27 : decide (op ≤ 27) = false := decide_eq_false (by omega)
  have t37 : decide (op ≤ 37) = false := decide_eq_false (by omega)
  have t41 : decide (op ≤ 41) = false := decide_eq_false (by omega)
  have t44 : decide (op ≤ 44) = true := decide_eq_true (by omega)
  have ra := reg_range hm r1
  have rb_ := reg_range hm r2
  go_enter Tryd.func27, Tryd.ntmps27
  go_wp2_with fail
  refine (instr_st h hA hm (by omega) hF).mono ?_
  rintro e w1 ⟨s1, f1, he⟩
  rw [if_pos ⟨hh.out, hf.out⟩, hdec.out] at he
  subst he
  go_wp2_with fail
  obtain ⟨s2, f2⟩ := s1.below hA ((Below.refl w1.heap.size w1).alloc (Nat.le_refl _) (insB op rd r1 r2 n))
  have i2 := heap_alloc_new w1 (insB op rd r1 r2 n)
  have z1 : w1.heap.size ≠ p := by have := s1.m_.lp; omega
  have z2 : w1.heap.size ≠ q := by have := s1.m_.lq; omega
  generalize w1.heap.size = ib at *
  generalize w1.alloc (insB op rd r1 r2 n) = w2 at *
  have ma := s2.m_
  have q0 : ∀ k : Nat, MachAt (w2.drewN k) p q m := fun _ => ma
  have c0 := s2.c0
  have j2 : w2.cell? ⟨ib, 2, none⟩ = some (.int .i64 r1) := by rw [cell_of_row w2 _ 2 _ _ _ i2]; rfl
  have j3 : w2.cell? ⟨ib, 3, none⟩ = some (.int .i64 r2) := by rw [cell_of_row w2 _ 3 _ _ _ i2]; rfl
  have j4 : w2.cell? ⟨ib, 4, none⟩ = some (.int .i64 n) := by rw [cell_of_row w2 _ 4 _ _ _ i2]; rfl
  go_quiet ((first | (go_at_call 24; with_reducible refine (regs_any (q0 _) hl h1).mono ?_; rintro e w9 ⟨rfl, rfl⟩; exact ⟨rfl, _, rfl⟩) | (go_at_call 24; with_reducible refine (regs_any (q0 _) hl h2).mono ?_; rintro e w9 ⟨rfl, rfl⟩; exact ⟨rfl, _, rfl⟩) | (go_at_call 41; with_reducible refine (of_num _ _).mono ?_; rintro e w9 ⟨rfl, rfl⟩; exact ⟨rfl, _, rfl⟩)))
  revert nq; intro kq
  obtain ⟨s3, f30⟩ := s2.below hA (belowQ kq (Below.refl _ w2))
  have f3 := (f1.trans f2).trans f30
  clear f30
  have i3 : (w2.drewN kq).heap[ib]? = some (insB op rd r1 r2 n) := i2
  clear s1 s2 f1 f2 i2 q0 c0 j2 j3 j4 ma h hF
  generalize w2.drewN kq = w3 at *
  have c0 := s3.c0
  have cp := s3.m_.cpl hl
  have j0 : w3.cell? ⟨ib, 0, none⟩ = some (.int .i64 op) := by rw [cell_of_row w3 _ 0 _ _ _ i3]; rfl
  have j1 : w3.cell? ⟨ib, 1, none⟩ = some (.int .i64 rd) := by rw [cell_of_row w3 _ 1 _ _ _ i3]; rfl
  have I3 := Lib.hid i3
  obtain ⟨a, ha⟩ : ∃ a, m.reg r1 = a := ⟨_, rfl⟩
  obtain ⟨b, hb⟩ : ∃ b, m.reg r2 = b := ⟨_, rfl⟩
  have HA := Lib.hid ha; have HB := Lib.hid hb
  rw [ha] at ra ⊢
  rw [hb] at rb_ ⊢
  have hk := Int.emod_nonneg n (by decide : (18446744073709551616 : Int) ≠ 0)
  have hk' := Int.emod_lt_of_pos n (by decide : (0 : Int) < 18446744073709551616)
  obtain ⟨k, hke⟩ : ∃ k, n % 18446744073709551616 = k := ⟨_, rfl⟩
  have HK := Lib.hid hke
  rw [hke] at hk hk' ⊢
  clear ha hb hke i3
  obtain ⟨ad, had⟩ := Int.eq_ofNat_of_zero_le (Int.emod_nonneg (a + k) (by decide : (18446744073709551616 : Int) ≠ 0))
  have had1 := Int.emod_lt_of_pos (a + k) (by decide : (0 : Int) < 18446744073709551616)
  have hwr : IntKind.u64.wrap (a + k) = (ad : Int) := by rw [IntKind.wrap_u64]; exact had
  rw [had] at had1
  have hhh := hhas.out
  rw [HA.out, HK.out, had] at hhh
  have HHH := Lib.hid hhh
  clear hhh had
  go_wp2_with fail
  refine (store_no op b ad hop (by omega) s3 hm HHH.out).mono ?_
  rintro e w4 ⟨rfl, rfl⟩
  go_wp2
  go_ret
  refine ⟨rfl, ?_, f3⟩
  rw [hm'.out, hR'.out]
  exact s3.more (by omega)
namespace Pm
theorem callV_len {m : Ma} {R : Ru} {x : Ma × Ru} (h : callV m R = some x) (hl : m.x.length = 32) : x.1.x.length = 32 ∧ x.1.pl = m.pl := by
  unfold callV at h
  split at h
  · injection h with h; subst h; exact ⟨hl, rfl⟩
  split at h
  · split at h
    · injection h with h; subst h; exact ⟨Ma.set_len _ _ hl, by unfold Ma.set; split <;> rfl⟩
    · injection h with h; subst h; exact ⟨Ma.set_len _ _ hl, by unfold Ma.set; split <;> rfl⟩
  split at h
  · injection h with h; subst h; exact ⟨hl, rfl⟩
  split at h
  · injection h with h; subst h; exact ⟨hl, rfl⟩
  · cases h
end Pm
set_option maxRecDepth 100000 in
set_option maxHeartbeats 8000000 in
theorem step_ecall {w : World} {base p q rb : Nat} {m m' : Ma} {R R' : Ru} {B : Nat} (n : Int) (rd r1 r2 : Nat) (h : St w base p q rb m R B) (hA : Apart base p q) (hm : m.ok) (hB : B < 1099511627770) (hF : FormsIn w) (hd : rd < 32) (h1 : r1 < 32) (h2 : r2 < 32)
     (x : Ma × Ru) (hcv : Hid (callV m R = some x)) (hlx : x.1.x.length = 32) (hh : Hid (hasB m.pl 4 m.mem.length = true)) (hf : Hid (findOp (wordAt m) ≠ 0)) (hdec : Hid (decV (wordAt m) = ins 55 rd r1 r2 n))
    (hm' : Hid (m' = { x.1 with pl := (m.pl + 4) % 18446744073709551616 })) (hR' : Hid (R' = x.2)) :
    Calls Tryd.prog 27 #[.pointer (some ⟨rb, 0, none⟩)] w (StTo w base p q rb m' R' (B + 5) (.bool true)) := by
  have hl := hm.1
  have hpl := hm.2.2.2.2.1
  have ra := reg_range hm r1
  have rb_ := reg_range hm r2
  go_enter Tryd.func27, Tryd.ntmps27
  go_wp2_with fail
  refine (instr_st h hA hm (by omega) hF).mono ?_
  rintro e w1 ⟨s1, f1, he⟩
  rw [if_pos ⟨hh.out, hf.out⟩, hdec.out] at he
  subst he
  go_wp2_with fail
  obtain ⟨s2, f2⟩ := s1.below hA ((Below.refl w1.heap.size w1).alloc (Nat.le_refl _) (insB 55 rd r1 r2 n))
  have i2 := heap_alloc_new w1 (insB 55 rd r1 r2 n)
  have z1 : w1.heap.size ≠ p := by have := s1.m_.lp; omega
  have z2 : w1.heap.size ≠ q := by have := s1.m_.lq; omega
  generalize w1.heap.size = ib at *
  generalize w1.alloc (insB 55 rd r1 r2 n) = w2 at *
  have ma := s2.m_
  have q0 : ∀ k : Nat, MachAt (w2.drewN k) p q m := fun _ => ma
  have c0 := s2.c0
  have j2 : w2.cell? ⟨ib, 2, none⟩ = some (.int .i64 r1) := by rw [cell_of_row w2 _ 2 _ _ _ i2]; rfl
  have j3 : w2.cell? ⟨ib, 3, none⟩ = some (.int .i64 r2) := by rw [cell_of_row w2 _ 3 _ _ _ i2]; rfl
  have j4 : w2.cell? ⟨ib, 4, none⟩ = some (.int .i64 n) := by rw [cell_of_row w2 _ 4 _ _ _ i2]; rfl
  go_quiet ((first | (go_at_call 24; with_reducible refine (regs_any (q0 _) hl h1).mono ?_; rintro e w9 ⟨rfl, rfl⟩; exact ⟨rfl, _, rfl⟩) | (go_at_call 24; with_reducible refine (regs_any (q0 _) hl h2).mono ?_; rintro e w9 ⟨rfl, rfl⟩; exact ⟨rfl, _, rfl⟩) | (go_at_call 41; with_reducible refine (of_num _ _).mono ?_; rintro e w9 ⟨rfl, rfl⟩; exact ⟨rfl, _, rfl⟩)))
  revert nq; intro kq
  obtain ⟨s3, f30⟩ := s2.below hA (belowQ kq (Below.refl _ w2))
  have f3 := (f1.trans f2).trans f30
  clear f30
  have i3 : (w2.drewN kq).heap[ib]? = some (insB 55 rd r1 r2 n) := i2
  clear s1 s2 f1 f2 i2 q0 c0 j2 j3 j4 ma h hF
  generalize w2.drewN kq = w3 at *
  have c0 := s3.c0
  have cp := s3.m_.cpl hl
  have j0 : w3.cell? ⟨ib, 0, none⟩ = some (.int .i64 55) := by rw [cell_of_row w3 _ 0 _ _ _ i3]; rfl
  have j1 : w3.cell? ⟨ib, 1, none⟩ = some (.int .i64 rd) := by rw [cell_of_row w3 _ 1 _ _ _ i3]; rfl
  have I3 := Lib.hid i3
  obtain ⟨a, ha⟩ : ∃ a, m.reg r1 = a := ⟨_, rfl⟩
  obtain ⟨b, hb⟩ : ∃ b, m.reg r2 = b := ⟨_, rfl⟩
  have HA := Lib.hid ha; have HB := Lib.hid hb
  rw [ha] at ra ⊢
  rw [hb] at rb_ ⊢
  have hk := Int.emod_nonneg n (by decide : (18446744073709551616 : Int) ≠ 0)
  have hk' := Int.emod_lt_of_pos n (by decide : (0 : Int) < 18446744073709551616)
  obtain ⟨k, hke⟩ : ∃ k, n % 18446744073709551616 = k := ⟨_, rfl⟩
  have HK := Lib.hid hke
  rw [hke] at hk hk' ⊢
  clear ha hb hke i3
  go_wp2_with fail
  have hcc := call_st s3 hA hm (by omega)
  rw [hcv.out] at hcc
  refine hcc.mono ?_
  rintro e w4 ⟨rfl, s4, g4⟩
  have f4 := f3.trans g4
  have i4 := Lib.hid (g4.ins _ _ I3.out)
  clear s3 f3 g4 c0 cp j0 j1 hcc
  have c04 := s4.c0
  go_wp2_with (refine wpList_load_g (o := ⟨some 189, _, _, _, _, _⟩) rfl 49 (.tmp 3) rfl ib rfl 49 _ (0, 0) _ i4.out Tryd.underlying49 rfl sizeInstr ?_)
  refine (mark_any 55 rd r1 r2 n _).mono ?_
  rintro e w5 ⟨rfl, hb5⟩
  rw [show markB 55 rd r1 r2 n = false from mark_no (by omega)]
  obtain ⟨s5, f5⟩ := s4.below hA hb5
  have c05 := s5.c0
  have cp5 := s5.m_.cpl (hlx)
  have fp5 := s5.m_.fr 33
  clear c04 s4 hb5
  go_wp2
  go_ret
  obtain ⟨s6, f6⟩ := s5.mach hA (s5.m_.setPl (hlx) hA.1 _) ((Fr.set (S := [p]) _ p 33 _ (by simp)).mono (by simp))
  refine ⟨rfl, ?_, (f4.trans f5).trans f6⟩
  rw [hm'.out, hR'.out]
  try simp only [HA.out, HB.out, HK.out]
  simp only [IntKind.wrap_u64] at s6 ⊢
  exact s6.more (by omega)
set_option maxRecDepth 100000 in
set_option maxHeartbeats 8000000 in
theorem step_ecno {w : World} {base p q rb : Nat} {m m' : Ma} {R R' : Ru} {B : Nat} (n : Int) (rd r1 r2 : Nat) (h : St w base p q rb m R B) (hA : Apart base p q) (hm : m.ok) (hB : B < 1099511627770) (hF : FormsIn w) (hd : rd < 32) (h1 : r1 < 32) (h2 : r2 < 32)
     (hcv : Hid (callV m R = none)) (hh : Hid (hasB m.pl 4 m.mem.length = true)) (hf : Hid (findOp (wordAt m) ≠ 0)) (hdec : Hid (decV (wordAt m) = ins 55 rd r1 r2 n))
    (hm' : Hid (m' = m)) (hR' : Hid (R' = R)) :
    Calls Tryd.prog 27 #[.pointer (some ⟨rb, 0, none⟩)] w (StTo w base p q rb m' R' (B + 5) (.bool false)) := by
  have hl := hm.1
  have hpl := hm.2.2.2.2.1
  have ra := reg_range hm r1
  have rb_ := reg_range hm r2
  go_enter Tryd.func27, Tryd.ntmps27
  go_wp2_with fail
  refine (instr_st h hA hm (by omega) hF).mono ?_
  rintro e w1 ⟨s1, f1, he⟩
  rw [if_pos ⟨hh.out, hf.out⟩, hdec.out] at he
  subst he
  go_wp2_with fail
  obtain ⟨s2, f2⟩ := s1.below hA ((Below.refl w1.heap.size w1).alloc (Nat.le_refl _) (insB 55 rd r1 r2 n))
  have i2 := heap_alloc_new w1 (insB 55 rd r1 r2 n)
  have z1 : w1.heap.size ≠ p := by have := s1.m_.lp; omega
  have z2 : w1.heap.size ≠ q := by have := s1.m_.lq; omega
  generalize w1.heap.size = ib at *
  generalize w1.alloc (insB 55 rd r1 r2 n) = w2 at *
  have ma := s2.m_
  have q0 : ∀ k : Nat, MachAt (w2.drewN k) p q m := fun _ => ma
  have c0 := s2.c0
  have j2 : w2.cell? ⟨ib, 2, none⟩ = some (.int .i64 r1) := by rw [cell_of_row w2 _ 2 _ _ _ i2]; rfl
  have j3 : w2.cell? ⟨ib, 3, none⟩ = some (.int .i64 r2) := by rw [cell_of_row w2 _ 3 _ _ _ i2]; rfl
  have j4 : w2.cell? ⟨ib, 4, none⟩ = some (.int .i64 n) := by rw [cell_of_row w2 _ 4 _ _ _ i2]; rfl
  go_quiet ((first | (go_at_call 24; with_reducible refine (regs_any (q0 _) hl h1).mono ?_; rintro e w9 ⟨rfl, rfl⟩; exact ⟨rfl, _, rfl⟩) | (go_at_call 24; with_reducible refine (regs_any (q0 _) hl h2).mono ?_; rintro e w9 ⟨rfl, rfl⟩; exact ⟨rfl, _, rfl⟩) | (go_at_call 41; with_reducible refine (of_num _ _).mono ?_; rintro e w9 ⟨rfl, rfl⟩; exact ⟨rfl, _, rfl⟩)))
  revert nq; intro kq
  obtain ⟨s3, f30⟩ := s2.below hA (belowQ kq (Below.refl _ w2))
  have f3 := (f1.trans f2).trans f30
  clear f30
  have i3 : (w2.drewN kq).heap[ib]? = some (insB 55 rd r1 r2 n) := i2
  clear s1 s2 f1 f2 i2 q0 c0 j2 j3 j4 ma h hF
  generalize w2.drewN kq = w3 at *
  have c0 := s3.c0
  have cp := s3.m_.cpl hl
  have j0 : w3.cell? ⟨ib, 0, none⟩ = some (.int .i64 55) := by rw [cell_of_row w3 _ 0 _ _ _ i3]; rfl
  have j1 : w3.cell? ⟨ib, 1, none⟩ = some (.int .i64 rd) := by rw [cell_of_row w3 _ 1 _ _ _ i3]; rfl
  have I3 := Lib.hid i3
  obtain ⟨a, ha⟩ : ∃ a, m.reg r1 = a := ⟨_, rfl⟩
  obtain ⟨b, hb⟩ : ∃ b, m.reg r2 = b := ⟨_, rfl⟩
  have HA := Lib.hid ha; have HB := Lib.hid hb
  rw [ha] at ra ⊢
  rw [hb] at rb_ ⊢
  have hk := Int.emod_nonneg n (by decide : (18446744073709551616 : Int) ≠ 0)
  have hk' := Int.emod_lt_of_pos n (by decide : (0 : Int) < 18446744073709551616)
  obtain ⟨k, hke⟩ : ∃ k, n % 18446744073709551616 = k := ⟨_, rfl⟩
  have HK := Lib.hid hke
  rw [hke] at hk hk' ⊢
  clear ha hb hke i3
  go_wp2_with fail
  have hcc := call_st s3 hA hm (by omega)
  rw [hcv.out] at hcc
  refine hcc.mono ?_
  rintro e w4 ⟨rfl, s4, g4⟩
  go_wp2
  go_ret
  refine ⟨rfl, ?_, f3.trans g4⟩
  rw [hm'.out, hR'.out]
  exact s4.more (by omega)
set_option maxRecDepth 100000 in
set_option maxHeartbeats 8000000 in
theorem step_none {w : World} {base p q rb : Nat} {m : Ma} {R : Ru} {B : Nat} (h : St w base p q rb m R B) (hA : Apart base p q) (hm : m.ok) (hB : B < 1099511627770) (hF : FormsIn w)
    (hh : ¬ (hasB m.pl 4 m.mem.length = true ∧ findOp (wordAt m) ≠ 0)) :
    Calls Tryd.prog 27 #[.pointer (some ⟨rb, 0, none⟩)] w (StTo w base p q rb m R (B + 5) (.bool false)) := by
  have HH := Lib.hid hh; clear hh
  go_enter Tryd.func27, Tryd.ntmps27
  go_wp2_with fail
  refine (instr_st h hA hm (by omega) hF).mono ?_
  rintro e w1 ⟨s1, f1, he⟩
  rw [if_neg HH.out] at he
  subst he
  obtain ⟨s2, f2⟩ := s1.below hA ((Below.refl w1.heap.size w1).alloc (Nat.le_refl _) (insB 0 0 0 0 0))
  go_wp2
  go_ret
  exact ⟨rfl, s2.more (by omega), f1.trans f2⟩
end Go.Proofs.YtoehfncgkkfdeaaDoor
/- A step of package mach, form by form. Conditions: each theorem's. -/
namespace Go.Proofs.YtoehfncgkkfdeaaDoor
open Go.RowKit Go.Maps
set_option linter.unusedVariables false
set_option linter.unusedSimpArgs false
set_option maxRecDepth 10000
open Pm Pc Pl
section
variable {w : World} {base p q rb : Nat} {m : Ma} {R : Ru} {B : Nat}
theorem rc_checks (h : St w base p q rb m R B) : w.cell? ⟨rb, 6, none⟩ = some (.int .i64 R.checks) := by
  obtain ⟨ov, sv, A, c, mb, cnt, D, hr, -⟩ := h
  exact (hr.c 6).trans rfl
theorem rc_free (h : St w base p q rb m R B) : w.frozen? ⟨rb, 6, none⟩ = false := by
  obtain ⟨ov, sv, A, c, mb, cnt, D, hr, -⟩ := h
  exact hr.f 6
theorem rb_ne (h : St w base p q rb m R B) (hA : Apart base p q) : p ≠ rb := by
  obtain ⟨ov, sv, A, c, mb, cnt, D, hr, -⟩ := h
  have := hr.lrb; have := hA.2.1; omega
theorem checks_up (h : St w base p q rb m R B) (hA : Apart base p q) : St (w.setCell ⟨rb, 6, none⟩ (.int .i64 ((R.checks : Int) + 1))) base p q rb m { R with checks := R.checks + 1 } B ∧ Fj base p q w (w.setCell ⟨rb, 6, none⟩ (.int .i64 ((R.checks : Int) + 1))) := by
  obtain ⟨ov, sv, A, c, mb, cnt, D, hr, hm, b⟩ := h
  obtain ⟨r1, r2, r3⟩ := run_cell (i := 6) (x := .int .i64 ((R.checks : Int) + 1)) (R' := { R with checks := R.checks + 1 }) (A' := A) (c' := c) hr hm hA (by simp [runC]) rfl rfl hr.inp
  exact ⟨⟨_, _, _, _, _, _, _, r1, r2, b⟩, r3⟩
end
set_option maxRecDepth 100000 in
set_option maxHeartbeats 8000000 in
theorem step_I {w : World} {base p q rb : Nat} {m m' : Ma} {R R' : Ru} {B : Nat} (n : Int) (o rd r1 r2 : Nat) (h : St w base p q rb m R B) (hA : Apart base p q) (hm : m.ok) (hB : B < 1099511627770) (hF : FormsIn w) (hd : rd < 32) (h1 : r1 < 32) (h2 : r2 < 32)
    (hop : 28 ≤ ((o : Nat) : Int) ∧ ((o : Nat) : Int) ≤ 37) (t : Int) (ht : 1 ≤ t ∧ t ≤ 27) (hp1 : 1 < p ∧ 1 < q) (ho : w.cell? ⟨0, o, none⟩ = some (.int .i64 t)) (hch : R.checks < 1099511627776) (hh : Hid (hasB m.pl 4 m.mem.length = true)) (hf : Hid (findOp (wordAt m) ≠ 0)) (hdec : Hid (decV (wordAt m) = ins ((o : Nat) : Int) rd r1 r2 n))
    (hm' : Hid (m' = { m.set rd (opV t (m.reg r1) (n % 18446744073709551616)) with pl := (m.pl + 4) % 18446744073709551616 })) (hR' : Hid (R' = if markB ((o : Nat) : Int) rd r1 r2 n = true then { R with checks := R.checks + 1 } else R)) :
    Calls Tryd.prog 27 #[.pointer (some ⟨rb, 0, none⟩)] w (StTo w base p q rb m' R' (B + 5) (.bool true)) := by
  have hl := hm.1
  have hpl := hm.2.2.2.2.1
  have t27 : decide (((o : Nat) : Int) ≤ 27) = false := decide_eq_false (by omega)
  have t37 : decide (((o : Nat) : Int) ≤ 37) = true := decide_eq_true (by omega)
  have ra := reg_range hm r1
  have rb_ := reg_range hm r2
  go_enter Tryd.func27, Tryd.ntmps27
  go_wp2_with fail
  refine (instr_st h hA hm (by omega) hF).mono ?_
  rintro e w1 ⟨s1, f1, he⟩
  rw [if_pos ⟨hh.out, hf.out⟩, hdec.out] at he
  subst he
  go_wp2_with fail
  obtain ⟨s2, f2⟩ := s1.below hA ((Below.refl w1.heap.size w1).alloc (Nat.le_refl _) (insB ((o : Nat) : Int) rd r1 r2 n))
  have i2 := heap_alloc_new w1 (insB ((o : Nat) : Int) rd r1 r2 n)
  have z1 : w1.heap.size ≠ p := by have := s1.m_.lp; omega
  have z2 : w1.heap.size ≠ q := by have := s1.m_.lq; omega
  generalize w1.heap.size = ib at *
  generalize w1.alloc (insB ((o : Nat) : Int) rd r1 r2 n) = w2 at *
  have ma := s2.m_
  have q0 : ∀ k : Nat, MachAt (w2.drewN k) p q m := fun _ => ma
  have c0 := s2.c0
  have j2 : w2.cell? ⟨ib, 2, none⟩ = some (.int .i64 r1) := by rw [cell_of_row w2 _ 2 _ _ _ i2]; rfl
  have j3 : w2.cell? ⟨ib, 3, none⟩ = some (.int .i64 r2) := by rw [cell_of_row w2 _ 3 _ _ _ i2]; rfl
  have j4 : w2.cell? ⟨ib, 4, none⟩ = some (.int .i64 n) := by rw [cell_of_row w2 _ 4 _ _ _ i2]; rfl
  go_quiet ((first | (go_at_call 24; with_reducible refine (regs_any (q0 _) hl h1).mono ?_; rintro e w9 ⟨rfl, rfl⟩; exact ⟨rfl, _, rfl⟩) | (go_at_call 24; with_reducible refine (regs_any (q0 _) hl h2).mono ?_; rintro e w9 ⟨rfl, rfl⟩; exact ⟨rfl, _, rfl⟩) | (go_at_call 41; with_reducible refine (of_num _ _).mono ?_; rintro e w9 ⟨rfl, rfl⟩; exact ⟨rfl, _, rfl⟩)))
  revert nq; intro kq
  obtain ⟨s3, f30⟩ := s2.below hA (belowQ kq (Below.refl _ w2))
  have f3 := (f1.trans f2).trans f30
  clear f30
  have i3 : (w2.drewN kq).heap[ib]? = some (insB ((o : Nat) : Int) rd r1 r2 n) := i2
  clear s1 s2 f1 f2 i2 q0 c0 j2 j3 j4 ma h hF
  generalize w2.drewN kq = w3 at *
  have c0 := s3.c0
  have cp := s3.m_.cpl hl
  have j0 : w3.cell? ⟨ib, 0, none⟩ = some (.int .i64 ((o : Nat) : Int)) := by rw [cell_of_row w3 _ 0 _ _ _ i3]; rfl
  have j1 : w3.cell? ⟨ib, 1, none⟩ = some (.int .i64 rd) := by rw [cell_of_row w3 _ 1 _ _ _ i3]; rfl
  have I3 := Lib.hid i3
  obtain ⟨a, ha⟩ : ∃ a, m.reg r1 = a := ⟨_, rfl⟩
  obtain ⟨b, hb⟩ : ∃ b, m.reg r2 = b := ⟨_, rfl⟩
  have HA := Lib.hid ha; have HB := Lib.hid hb
  rw [ha] at ra ⊢
  rw [hb] at rb_ ⊢
  have hk := Int.emod_nonneg n (by decide : (18446744073709551616 : Int) ≠ 0)
  have hk' := Int.emod_lt_of_pos n (by decide : (0 : Int) < 18446744073709551616)
  obtain ⟨k, hke⟩ : ∃ k, n % 18446744073709551616 = k := ⟨_, rfl⟩
  have HK := Lib.hid hke
  rw [hke] at hk hk' ⊢
  clear ha hb hke i3
  have o3 : w3.cell? ⟨0, o, none⟩ = some (.int .i64 t) := by
    have hlt := World.block_lt_of_cell? w _ ho
    rw [← ho]; exact World.cell?_of_block (f3.fb.block 0 hlt (by have := hA.2.1; omega) (by omega) (by omega))
  have O3 := Lib.hid o3; clear o3
  have o3' : w3.drew.cell? ⟨0, o, none⟩ = some (.int .i64 t) := O3.out
  have j0' : w3.drew.cell? ⟨ib, 0, none⟩ = some (.int .i64 ((o : Nat) : Int)) := j0
  have b0 : (0 : Int) ≤ ((o : Nat) : Int) := by omega
  have b1 : ((o : Nat) : Int) < 38 := by omega
  have b2 : o < 38 := by omega
  go_wp2_with fail
  go_still_tail 9, (by kernel_rfl)
  change wpList _ _ _ _ _ w3.drew
  obtain ⟨s3d, f3d⟩ := s3.below hA ((Below.refl _ w3).drew)
  have f3' := f3.trans f3d
  have I3' := Lib.hid (show w3.drew.heap[ib]? = some (insB ((o : Nat) : Int) rd r1 r2 n) from I3.out)
  clear s3 f3 f3d c0 cp j0 j1 I3 o3' j0' O3
  generalize w3.drew = w3 at *
  have c0 := s3d.c0
  go_wp2_with fail
  refine (operate_any t rd a k s3d.m_ hl hd ht.1 ht.2 ra ⟨hk, hk'⟩ c0).mono ?_
  rintro e w4 ⟨rfl, rfl⟩
  obtain ⟨s4, g4⟩ := s3d.mach hA (s3d.m_.setW hl hd hA.1 (opV t a k)) ((fr_setW w3 p rd _).mono (by simp))
  have f4 := f3'.trans g4
  have i4 := Lib.hid (at_p (fr_setW w3 p rd (opV t a k)) I3'.out z1)
  clear g4 c0
  generalize setW w3 p rd (opV t a k) = w4 at *
  have c04 := s4.c0
  go_wp2_with (refine wpList_load_g (o := ⟨some 189, _, _, _, _, _⟩) rfl 49 (.tmp 3) rfl ib rfl 49 _ (0, 0) _ i4.out Tryd.underlying49 rfl sizeInstr ?_)
  refine (mark_any ((o : Nat) : Int) rd r1 r2 n _).mono ?_
  rintro e w5 ⟨rfl, hb5⟩
  cases hmk : markB ((o : Nat) : Int) rd r1 r2 n
  · have HM := Lib.hid hmk
    clear hmk
    obtain ⟨s5, f5⟩ := s4.below hA hb5
    have c05 := s5.c0
    have cp5 := s5.m_.cpl (Ma.set_len _ _ hl)
    have fp5 := s5.m_.fr 33
    clear c04 s4 hb5
    go_wp2
    go_ret
    obtain ⟨s6, f6⟩ := s5.mach hA (s5.m_.setPl (Ma.set_len _ _ hl) hA.1 _) ((Fr.set (S := [p]) _ p 33 _ (by simp)).mono (by simp))
    refine ⟨rfl, ?_, (f4.trans f5).trans f6⟩
    rw [hm'.out, hR'.out, HM.out, if_neg (by decide)]
    try simp only [HA.out, HB.out, HK.out]
    simp only [IntKind.wrap_u64] at s6 ⊢
    exact s6.more (by omega)
  · have HM := Lib.hid hmk
    clear hmk
    obtain ⟨s5, f5⟩ := s4.below hA hb5
    have c05 := s5.c0
    have cp5 := s5.m_.cpl (Ma.set_len _ _ hl)
    have fp5 := s5.m_.fr 33
    clear c04 s4 hb5
    have c65 := rc_checks s5
    have f65 := rc_free s5
    have zpr : p ≠ rb := rb_ne s5 hA
    have zrp : rb ≠ p := fun e => zpr e.symm
    go_wp2
    go_ret
    obtain ⟨s5', f5'⟩ := checks_up s5 hA
    obtain ⟨s6, f6⟩ := s5'.mach hA (s5'.m_.setPl (Ma.set_len _ _ hl) hA.1 _) ((Fr.set (S := [p]) _ p 33 _ (by simp)).mono (by simp))
    refine ⟨rfl, ?_, ((f4.trans f5).trans f5').trans f6⟩
    rw [hm'.out, hR'.out, HM.out, if_pos rfl]
    try simp only [HA.out, HB.out, HK.out]
    simp only [IntKind.wrap_u64] at s6 ⊢
    exact s6.more (by omega)
end Go.Proofs.YtoehfncgkkfdeaaDoor
/- A step of package mach: what it makes of any machine. Conditions: a machine of its Go types in memory, the tables as the program lays them. -/
namespace Go.Proofs.YtoehfncgkkfdeaaDoor
open Go.RowKit Go.Maps
set_option linter.unusedVariables false
set_option linter.unusedSimpArgs false
set_option maxRecDepth 10000
open Pm Pc Pl
namespace Pm
def opTab (o : Int) : Int := [1, 4, 5, 6, 9, 10, 3, 7, 8, 18].getD (o - 28).toNat 0
theorem opTab_ok (o : Int) (h : 28 ≤ o ∧ o ≤ 37) : 1 ≤ opTab o ∧ opTab o ≤ 27 := by
  have : o = 28 ∨ o = 29 ∨ o = 30 ∨ o = 31 ∨ o = 32 ∨ o = 33 ∨ o = 34 ∨ o = 35 ∨ o = 36 ∨ o = 37 := by omega
  rcases this with rfl | rfl | rfl | rfl | rfl | rfl | rfl | rfl | rfl | rfl <;> decide
/-- The place behind. -/
def Ma.nx (m : Ma) : Int := (m.pl + 4) % 18446744073709551616
/-- An address: a register and an Imm. -/
def Ma.ad (m : Ma) (r1 : Nat) (n : Int) : Int := (m.reg r1 + n % 18446744073709551616) % 18446744073709551616
/-- Behind an instruction; none: it faults. -/
def doV (m : Ma) (R : Ru) (op : Int) (rd r1 r2 : Nat) (n : Int) : Option (Ma × Ru) :=
  if op ≤ 27 then some ({ m.set rd (opV op (m.reg r1) (m.reg r2)) with pl := m.nx }, R)
  else if op ≤ 37 then some ({ m.set rd (opV (opTab op) (m.reg r1) (n % 18446744073709551616)) with pl := m.nx }, if markB op rd r1 r2 n = true then { R with checks := R.checks + 1 } else R)
  else if op ≤ 41 then (if hasB (m.ad r1 n) (widthV op) m.mem.length = true then some ({ m.set rd (nrV (op != 39) (getV m.mem (m.ad r1 n).toNat (widthV op).toNat) (8 * widthV op)) with pl := m.nx }, R.note ⟨m.pl, m.ad r1 n, widthV op, false⟩) else none)
  else if op ≤ 44 then (if hasB (m.ad r1 n) (widthV op) m.mem.length = true then some ({ m with mem := putV m.mem (m.ad r1 n).toNat (m.reg r2) (widthV op).toNat, pl := m.nx }, R.note ⟨m.pl, m.ad r1 n, widthV op, true⟩) else none)
  else if op ≤ 50 then some ({ m with pl := if holdV op (m.reg r1) (m.reg r2) = true then (m.pl + n % 18446744073709551616) % 18446744073709551616 else m.nx }, R)
  else if op = 51 then some ({ m.set rd (n % 18446744073709551616 * 4096 % 18446744073709551616) with pl := m.nx }, R)
  else if op = 52 then some ({ m.set rd ((m.pl + n % 18446744073709551616 * 4096 % 18446744073709551616) % 18446744073709551616) with pl := m.nx }, R)
  else if op = 53 then some ({ m.set rd m.nx with pl := (m.pl + n % 18446744073709551616) % 18446744073709551616 }, R)
  else if op = 54 then some ({ m.set rd m.nx with pl := m.ad r1 n / 2 * 2 }, R)
  else (match callV m R with
    | some x => some ({ x.1 with pl := m.nx }, x.2)
    | none => none)
def kOf (u : Int) : Int := (rowOf (findOp u)).1
/-- Behind a step; none: it faults. -/
def stepV (m : Ma) (R : Ru) : Option (Ma × Ru) :=
  if hasB m.pl 4 m.mem.length = true ∧ findOp (wordAt m) ≠ 0 then doV m R (findOp (wordAt m)) (dRd (kOf (wordAt m)) (wordAt m)).toNat (dR1 (kOf (wordAt m)) (wordAt m)).toNat (dR2 (kOf (wordAt m)) (wordAt m)).toNat (dI (kOf (wordAt m)) (wordAt m)) else none
theorem d_small (k u : Int) : 0 ≤ dRd k u ∧ dRd k u < 32 ∧ 0 ≤ dR1 k u ∧ dR1 k u < 32 ∧ 0 ≤ dR2 k u ∧ dR2 k u < 32 := by
  unfold dRd dR1 dR2
  refine ⟨?_, ?_, ?_, ?_, ?_, ?_⟩ <;> split <;> omega
end Pm
def OpsIn (w : World) : Prop := ∀ o : Nat, 28 ≤ o → o ≤ 37 → w.cell? ⟨0, o, none⟩ = some (.int .i64 (opTab o))
theorem some_to {w : World} {base p q rb : Nat} {m : Ma} {R : Ru} {B : Nat} {o : Option (Ma × Ru)} {x : Ma × Ru} (h : o = some x) {e : Ending} {w' : World} (hs : StTo w base p q rb x.1 x.2 B (.bool true) e w') : OptTo w base p q rb m R B o e w' := by subst h; exact hs
theorem none_to {w : World} {base p q rb : Nat} {m : Ma} {R : Ru} {B : Nat} {o : Option (Ma × Ru)} (h : o = none) {e : Ending} {w' : World} (hs : StTo w base p q rb m R B (.bool false) e w') : OptTo w base p q rb m R B o e w' := by subst h; exact hs
section
variable {w : World} {base p q rb : Nat} {m : Ma} {R : Ru} {B : Nat}
theorem do_step (op n : Int) (rd r1 r2 : Nat) (h : St w base p q rb m R B) (hA : Apart base p q) (hp1 : 1 < p ∧ 1 < q) (hm : m.ok) (hB : B < 1099511627770) (hF : FormsIn w) (hO : OpsIn w) (hch : R.checks < 1099511627776) (hd : rd < 32) (h1 : r1 < 32) (h2 : r2 < 32)
    (hop : 1 ≤ op ∧ op ≤ 55) (hh : Hid (hasB m.pl 4 m.mem.length = true)) (hf : Hid (findOp (wordAt m) ≠ 0)) (hdec : Hid (decV (wordAt m) = ins op rd r1 r2 n)) :
    Calls Tryd.prog 27 #[.pointer (some ⟨rb, 0, none⟩)] w (OptTo w base p q rb m R (B + 5) (doV m R op rd r1 r2 n)) := by
  by_cases k1 : op ≤ 27
  · exact (step_R op n rd r1 r2 h hA hm hB hF hd h1 h2 ⟨hop.1, k1⟩ hh hf hdec (Lib.hid rfl) (Lib.hid rfl)).mono fun e w' hs => some_to (by unfold doV; rw [if_pos k1]) hs
  by_cases k2 : op ≤ 37
  · obtain ⟨o, rfl⟩ := Int.eq_ofNat_of_zero_le (show 0 ≤ op by omega)
    exact (step_I n o rd r1 r2 h hA hm hB hF hd h1 h2 (by omega) (opTab o) (opTab_ok _ (by omega)) hp1 (hO o (by omega) (by omega)) hch hh hf hdec (Lib.hid rfl) (Lib.hid rfl)).mono fun e w' hs => some_to (by unfold doV; rw [if_neg k1, if_pos k2]) hs
  by_cases k3 : op ≤ 41
  · have ho : op = 38 ∨ op = 39 ∨ op = 40 ∨ op = 41 := by omega
    cases hb : hasB (m.ad r1 n) (widthV op) m.mem.length
    · exact (step_ldno op n rd r1 r2 h hA hm hB hF hd h1 h2 ho (Lib.hid hb) hh hf hdec (Lib.hid rfl) (Lib.hid rfl)).mono fun e w' hs => none_to (by unfold doV; rw [if_neg k1, if_neg k2, if_pos k3, if_neg (by simp [hb])]) hs
    · rcases ho with rfl | rfl | rfl | rfl
      · exact (step_ld38 n rd r1 r2 h hA hm hB hF hd h1 h2 (Lib.hid hb) hh hf hdec (Lib.hid rfl) (Lib.hid rfl)).mono fun e w' hs => some_to (by unfold doV; rw [if_neg k1, if_neg k2, if_pos k3, if_pos hb]) hs
      · exact (step_ld39 n rd r1 r2 h hA hm hB hF hd h1 h2 (Lib.hid hb) hh hf hdec (Lib.hid rfl) (Lib.hid rfl)).mono fun e w' hs => some_to (by unfold doV; rw [if_neg k1, if_neg k2, if_pos k3, if_pos hb]) hs
      · exact (step_ld40 n rd r1 r2 h hA hm hB hF hd h1 h2 (Lib.hid hb) hh hf hdec (Lib.hid rfl) (Lib.hid rfl)).mono fun e w' hs => some_to (by unfold doV; rw [if_neg k1, if_neg k2, if_pos k3, if_pos hb]) hs
      · exact (step_ld41 n rd r1 r2 h hA hm hB hF hd h1 h2 (Lib.hid hb) hh hf hdec (Lib.hid rfl) (Lib.hid rfl)).mono fun e w' hs => some_to (by unfold doV; rw [if_neg k1, if_neg k2, if_pos k3, if_pos hb]) hs
  by_cases k4 : op ≤ 44
  · have ho : op = 42 ∨ op = 43 ∨ op = 44 := by omega
    cases hb : hasB (m.ad r1 n) (widthV op) m.mem.length
    · exact (step_stno op n rd r1 r2 h hA hm hB hF hd h1 h2 ho (Lib.hid hb) hh hf hdec (Lib.hid rfl) (Lib.hid rfl)).mono fun e w' hs => none_to (by unfold doV; rw [if_neg k1, if_neg k2, if_neg k3, if_pos k4, if_neg (by simp [hb])]) hs
    · rcases ho with rfl | rfl | rfl
      · exact (step_st42 n rd r1 r2 h hA hm hB hF hd h1 h2 (Lib.hid hb) hh hf hdec (Lib.hid rfl) (Lib.hid rfl)).mono fun e w' hs => some_to (by unfold doV; rw [if_neg k1, if_neg k2, if_neg k3, if_pos k4, if_pos hb]) hs
      · exact (step_st43 n rd r1 r2 h hA hm hB hF hd h1 h2 (Lib.hid hb) hh hf hdec (Lib.hid rfl) (Lib.hid rfl)).mono fun e w' hs => some_to (by unfold doV; rw [if_neg k1, if_neg k2, if_neg k3, if_pos k4, if_pos hb]) hs
      · exact (step_st44 n rd r1 r2 h hA hm hB hF hd h1 h2 (Lib.hid hb) hh hf hdec (Lib.hid rfl) (Lib.hid rfl)).mono fun e w' hs => some_to (by unfold doV; rw [if_neg k1, if_neg k2, if_neg k3, if_pos k4, if_pos hb]) hs
  by_cases k5 : op ≤ 50
  · exact (step_br op n rd r1 r2 h hA hm hB hF hd h1 h2 (by omega) hh hf hdec (Lib.hid rfl) (Lib.hid rfl)).mono fun e w' hs => some_to (by unfold doV; rw [if_neg k1, if_neg k2, if_neg k3, if_neg k4, if_pos k5]) hs
  have ho : op = 51 ∨ op = 52 ∨ op = 53 ∨ op = 54 ∨ op = 55 := by omega
  rcases ho with rfl | rfl | rfl | rfl | rfl
  · exact (step_lui n rd r1 r2 h hA hm hB hF hd h1 h2 hh hf hdec (Lib.hid rfl) (Lib.hid rfl)).mono fun e w' hs => some_to (by rfl) hs
  · exact (step_auipc n rd r1 r2 h hA hm hB hF hd h1 h2 hh hf hdec (Lib.hid rfl) (Lib.hid rfl)).mono fun e w' hs => some_to (by rfl) hs
  · exact (step_jal n rd r1 r2 h hA hm hB hF hd h1 h2 hh hf hdec (Lib.hid rfl) (Lib.hid rfl)).mono fun e w' hs => some_to (by rfl) hs
  · exact (step_jalr n rd r1 r2 h hA hm hB hF hd h1 h2 hh hf hdec (Lib.hid rfl) (Lib.hid rfl)).mono fun e w' hs => some_to (by rfl) hs
  · have he : doV m R 55 rd r1 r2 n = (match callV m R with
      | some x => some ({ x.1 with pl := m.nx }, x.2)
      | none => none) := by rfl
    cases hc : callV m R with
    | none => exact (step_ecno n rd r1 r2 h hA hm hB hF hd h1 h2 (Lib.hid hc) hh hf hdec (Lib.hid rfl) (Lib.hid rfl)).mono fun e w' hs => none_to (by rw [he, hc]) hs
    | some x => exact (step_ecall n rd r1 r2 h hA hm hB hF hd h1 h2 x (Lib.hid hc) (callV_len hc hm.1).1 hh hf hdec (Lib.hid rfl) (Lib.hid rfl)).mono fun e w' hs => some_to (by rw [he, hc]) hs
theorem step_any (h : St w base p q rb m R B) (hA : Apart base p q) (hp1 : 1 < p ∧ 1 < q) (hm : m.ok) (hB : B < 1099511627770) (hF : FormsIn w) (hO : OpsIn w) (hch : R.checks < 1099511627776) :
    Calls Tryd.prog 27 #[.pointer (some ⟨rb, 0, none⟩)] w (OptTo w base p q rb m R (B + 5) (stepV m R)) := by
  by_cases hh : hasB m.pl 4 m.mem.length = true ∧ findOp (wordAt m) ≠ 0
  · have hr := findOp_range (wordAt m)
    have hd := d_small (kOf (wordAt m)) (wordAt m)
    have he : stepV m R = doV m R (findOp (wordAt m)) (dRd (kOf (wordAt m)) (wordAt m)).toNat (dR1 (kOf (wordAt m)) (wordAt m)).toNat (dR2 (kOf (wordAt m)) (wordAt m)).toNat (dI (kOf (wordAt m)) (wordAt m)) := by unfold stepV; rw [if_pos hh]
    rw [he]
    refine do_step _ _ _ _ _ h hA hp1 hm hB hF hO hch (by omega) (by omega) (by omega) (by omega) (Lib.hid hh.1) (Lib.hid hh.2) (Lib.hid ?_)
    unfold decV
    rw [Int.toNat_of_nonneg hd.1, Int.toNat_of_nonneg hd.2.2.1, Int.toNat_of_nonneg hd.2.2.2.2.1]
    rfl
  · exact (step_none h hA hm hB hF hh).mono fun e w' hs => none_to (by unfold stepV; rw [if_neg hh]) hs
end
end Go.Proofs.YtoehfncgkkfdeaaDoor
/- A run of package mach: what its steps make of any machine. Conditions: a machine of its Go types in memory, the tables as the program lays them, no more than so many steps. -/
namespace Go.Proofs.YtoehfncgkkfdeaaDoor
open Go.RowKit Go.Maps
set_option linter.unusedVariables false
set_option linter.unusedSimpArgs false
set_option maxRecDepth 10000
open Pm Pc Pl
namespace Pm
theorem Ma.pl_ok {m : Ma} (h : m.ok) {v : Int} (hv : 0 ≤ v ∧ v < 18446744073709551616) : Ma.ok { m with pl := v } := ⟨h.1, h.2.1, h.2.2.1, h.2.2.2.1, hv, h.2.2.2.2.2⟩
theorem Ma.st_ok {m : Ma} (h : m.ok) (s c : Int) : Ma.ok { m with st := s, cd := c } := h
theorem Ma.set_ok {m : Ma} (h : m.ok) (k : Nat) {v : Int} (hv : 0 ≤ v ∧ v < 18446744073709551616) : (m.set k v).ok := by
  unfold Ma.set
  split
  · rename_i hk
    refine ⟨by simp [h.1], h.2.1, fun u hu => ?_, h.2.2.2.1, h.2.2.2.2.1, ?_⟩
    · rcases List.mem_or_eq_of_mem_set hu with hu | rfl
      · exact h.2.2.1 u hu
      · exact hv
    · have := h.2.2.2.2.2
      simp only [List.getD_eq_getElem?_getD] at this ⊢
      rw [List.getElem?_set_ne (by omega)]; exact this
  · exact h
theorem Ma.mem_ok {m : Ma} (h : m.ok) (l : List Int) (hl : l.length = m.mem.length) (hb : ∀ b ∈ l, 0 ≤ b ∧ b < 256) : Ma.ok { m with mem := l } := ⟨h.1, by show l.length ≤ _; rw [hl]; exact h.2.1, h.2.2.1, hb, h.2.2.2.2.1, h.2.2.2.2.2⟩
theorem putV_byte (l : List Int) (a : Nat) (x : Int) (n : Nat) (hb : ∀ b ∈ l, 0 ≤ b ∧ b < 256) : ∀ b ∈ putV l a x n, 0 ≤ b ∧ b < 256 := by
  induction n with
  | zero => exact hb
  | succ n ih =>
    intro b h
    rw [putV] at h
    rcases List.mem_or_eq_of_mem_set h with h | rfl
    · exact ih b h
    · omega
theorem Ma.set_mem (m : Ma) (k : Nat) (v : Int) : (m.set k v).mem = m.mem := by unfold Ma.set; split <;> rfl
theorem nx_range (m : Ma) : 0 ≤ m.nx ∧ m.nx < 18446744073709551616 := by unfold Ma.nx; omega
theorem note_keeps (R : Ru) (a : Ac) : (R.note a).steps = R.steps ∧ (R.note a).checks = R.checks ∧ (R.note a).wat = R.wat ∧ (R.note a).inp = R.inp := by unfold Ru.note; split <;> exact ⟨rfl, rfl, rfl, rfl⟩
/-- What a step keeps. -/
def Kept (m : Ma) (R : Ru) (x : Ma × Ru) : Prop := x.1.ok ∧ x.1.mem.length = m.mem.length ∧ x.2.steps = R.steps ∧ x.2.checks ≤ R.checks + 1 ∧ x.2.wat = R.wat
theorem callV_kept {m : Ma} {R : Ru} {x : Ma × Ru} (hm : m.ok) (hi : ∀ i : Nat, 0 ≤ R.inp.getD i 0 ∧ R.inp.getD i 0 < 256) (h : callV m R = some x) : Kept m R x := by
  unfold callV at h
  split at h
  · injection h with h; subst h; exact ⟨hm, rfl, rfl, Nat.le_succ _, rfl⟩
  split at h
  · split at h
    · injection h with h; subst h; exact ⟨Ma.set_ok hm _ (by decide), by simp [Ma.set_mem], rfl, Nat.le_succ _, rfl⟩
    · rename_i b l hbl
      injection h with h; subst h
      have := hi 0
      rw [hbl] at this
      simp at this
      exact ⟨Ma.set_ok hm _ (by omega), by simp [Ma.set_mem], rfl, Nat.le_succ _, rfl⟩
  split at h
  · injection h with h; subst h; exact ⟨hm, rfl, rfl, Nat.le_succ _, rfl⟩
  split at h
  · injection h with h; subst h; exact ⟨hm, rfl, rfl, Nat.le_succ _, rfl⟩
  · cases h
theorem doV_kept {m : Ma} {R : Ru} {op n : Int} {rd r1 r2 : Nat} {x : Ma × Ru} (hm : m.ok) (hi : ∀ i : Nat, 0 ≤ R.inp.getD i 0 ∧ R.inp.getD i 0 < 256) (hop : 1 ≤ op) (h : doV m R op rd r1 r2 n = some x) : Kept m R x := by
  have ra := reg_range hm r1
  have rb := reg_range hm r2
  have hn : 0 ≤ n % 18446744073709551616 ∧ n % 18446744073709551616 < 18446744073709551616 := by omega
  have hx := nx_range m
  unfold doV at h
  split at h
  · injection h with h; subst h
    exact ⟨Ma.pl_ok (Ma.set_ok hm _ (opV_range _ _ _ ra.1 ra.2 rb.1 rb.2)) hx, by simp [Ma.set_mem], rfl, Nat.le_succ _, rfl⟩
  split at h
  · injection h with h; subst h
    refine ⟨Ma.pl_ok (Ma.set_ok hm _ (opV_range _ _ _ ra.1 ra.2 hn.1 hn.2)) hx, by simp [Ma.set_mem], ?_, ?_, ?_⟩ <;> (split <;> simp)
  split at h
  · split at h
    · rename_i h1 h2 h3 h4
      injection h with h; subst h
      have hk := note_keeps R ⟨m.pl, m.ad r1 n, widthV op, false⟩
      have hw : widthV op = 1 ∨ widthV op = 4 ∨ widthV op = 8 := by unfold widthV; split <;> (try split) <;> simp
      exact ⟨Ma.pl_ok (Ma.set_ok hm _ (nrV_range _ _ _ (by omega) (by omega))) hx, by simp [Ma.set_mem], hk.1, by show (R.note _).checks ≤ _; omega, hk.2.2.1⟩
    · cases h
  split at h
  · split at h
    · injection h with h; subst h
      have hk := note_keeps R ⟨m.pl, m.ad r1 n, widthV op, true⟩
      exact ⟨Ma.pl_ok (Ma.mem_ok hm _ (putV_len _ _ _ _) (putV_byte _ _ _ _ hm.2.2.2.1)) hx, by simp [putV_len], hk.1, by show (R.note _).checks ≤ _; omega, hk.2.2.1⟩
    · cases h
  split at h
  · injection h with h; subst h
    exact ⟨Ma.pl_ok hm (by split <;> omega), rfl, rfl, Nat.le_succ _, rfl⟩
  split at h
  · injection h with h; subst h
    exact ⟨Ma.pl_ok (Ma.set_ok hm _ (by omega)) hx, by simp [Ma.set_mem], rfl, Nat.le_succ _, rfl⟩
  split at h
  · injection h with h; subst h
    exact ⟨Ma.pl_ok (Ma.set_ok hm _ (by omega)) hx, by simp [Ma.set_mem], rfl, Nat.le_succ _, rfl⟩
  split at h
  · injection h with h; subst h
    exact ⟨Ma.pl_ok (Ma.set_ok hm _ hx) (by omega), by simp [Ma.set_mem], rfl, Nat.le_succ _, rfl⟩
  split at h
  · injection h with h; subst h
    exact ⟨Ma.pl_ok (Ma.set_ok hm _ hx) (by unfold Ma.ad; omega), by simp [Ma.set_mem], rfl, Nat.le_succ _, rfl⟩
  · split at h
    · rename_i x' hc
      injection h with h; subst h
      obtain ⟨k1, k2, k3, k4, k5⟩ := callV_kept hm hi hc
      exact ⟨Ma.pl_ok k1 hx, k2, k3, k4, k5⟩
    · cases h
theorem stepV_kept {m : Ma} {R : Ru} {x : Ma × Ru} (hm : m.ok) (hi : ∀ i : Nat, 0 ≤ R.inp.getD i 0 ∧ R.inp.getD i 0 < 256) (h : stepV m R = some x) : Kept m R x := by
  unfold stepV at h
  split at h
  · have := findOp_range (wordAt m)
    exact doV_kept hm hi (by omega) h
  · cases h
/-- Behind so many steps, or as many as there are. -/
def runV : Nat → Ma → Ru → Ma × Ru
  | 0, m, R => (m, R)
  | n + 1, m, R => if m.st = 0 then (match stepV m R with
    | none => ({ m with st := 4 }, R)
    | some x => runV n x.1 { x.2 with steps := x.2.steps + 1 }) else (m, R)
end Pm
theorem FormsIn.fj {w w' : World} {base p q : Nat} (h : FormsIn w) (hA : Apart base p q) (hf : Fj base p q w w') : FormsIn w' := by
  refine ⟨Nat.lt_of_lt_of_le h.1 hf.fb.size, fun j v hv => ?_⟩
  have hc := h.2 j v hv
  rw [← hc]
  exact World.cell?_of_block (hf.fb.block 1 h.1 (by have := hA.2.1; have := hA.2.2.2.1; omega) (by have := hA.2.2.2.1; omega) (by have := hA.2.2.2.2; omega))
theorem OpsIn.fj {w w' : World} {base p q : Nat} (h : OpsIn w) (hA : Apart base p q) (hp1 : 1 < p ∧ 1 < q) (hf : Fj base p q w w') : OpsIn w' := by
  intro o h1 h2
  have hc := h o h1 h2
  rw [← hc]
  exact World.cell?_of_block (hf.fb.block 0 (World.block_lt_of_cell? w _ hc) (by have := hA.2.1; omega) (by omega) (by omega))
theorem St.inp {w : World} {base p q rb : Nat} {m : Ma} {R : Ru} {B : Nat} (h : St w base p q rb m R B) : ∀ i : Nat, 0 ≤ R.inp.getD i 0 ∧ R.inp.getD i 0 < 256 := by
  obtain ⟨ov, sv, A, c, mb, cnt, D, hr, -⟩ := h
  exact hr.inp.1
/-- What is left to do. -/
def left (F : Nat) (m : Ma) (R : Ru) : Nat := if m.st = 0 then F - R.steps else 0
/-- What each round keeps. -/
def StepsRel (w : World) (base p q rb : Nat) (F C : Nat) (fin : Ma × Ru) (len : Nat) (wat : Bool) (k : Nat) (wr : World) : Prop :=
  ∃ m R B, St wr base p q rb m R B ∧ Fj base p q w wr ∧ m.ok ∧ k = left F m R ∧ B + 5 * k ≤ C ∧ R.steps ≤ F ∧ R.checks ≤ R.steps ∧ runV (F - R.steps) m R = fin ∧ m.mem.length = len ∧ R.wat = wat
/-- The final state: what the run answers stands in it. -/
def StepsTo (w : World) (base p q rb : Nat) (fin : Ma × Ru) (C len : Nat) (wat : Bool) (e : Ending) (w' : World) : Prop :=
  e = .returned (.tuple #[]) ∧ ∃ w1 B, St w1 base p q rb fin.1 fin.2 B ∧ Fj base p q w w1 ∧ fin.1.ok ∧ B ≤ C ∧ fin.1.mem.length = len ∧ fin.2.wat = wat ∧ Alike2 w' ((w1.setCell ⟨rb, 1, none⟩ (.int .i64 fin.1.st)).setCell ⟨rb, 2, none⟩ (.int .u8 fin.1.cd))
theorem runV_stop {n : Nat} {m : Ma} {R : Ru} (h : m.st ≠ 0 ∨ n = 0) : runV n m R = (m, R) := by
  cases n with
  | zero => rfl
  | succ n =>
    have : m.st ≠ 0 := by omega
    unfold runV
    rw [if_neg this]
theorem runV_go {n : Nat} {m : Ma} {R : Ru} (h : m.st = 0) : runV (n + 1) m R = (match stepV m R with
    | none => ({ m with st := 4 }, R)
    | some x => runV n x.1 { x.2 with steps := x.2.steps + 1 }) := by
  rw [runV, if_pos h]
section
variable {w : World} {base p q rb : Nat} {m : Ma} {R : Ru} {B : Nat}
theorem St.c5 (h : St w base p q rb m R B) : w.cell? ⟨rb, 5, none⟩ = some (.int .i64 R.steps) := by
  obtain ⟨ov, sv, A, c, mb, cnt, D, hr, -⟩ := h
  exact (hr.c 5).trans rfl
theorem St.cf (h : St w base p q rb m R B) (i : Nat) : w.frozen? ⟨rb, i, none⟩ = false := by
  obtain ⟨ov, sv, A, c, mb, cnt, D, hr, -⟩ := h
  exact hr.f i
theorem St.c12 (h : St w base p q rb m R B) : w.cell? ⟨rb, 1, none⟩ = some (.int .i64 0) ∧ w.cell? ⟨rb, 2, none⟩ = some (.int .u8 0) := by
  obtain ⟨ov, sv, A, c, mb, cnt, D, hr, -⟩ := h
  exact ⟨(hr.c 1).trans rfl, (hr.c 2).trans rfl⟩
theorem rb_blk (h : St w base p q rb m R B) : ∃ cs, w.heap[rb]? = some (Obj.cells cs 69) := by
  obtain ⟨ov, sv, A, c, mb, cnt, D, hr, -⟩ := h
  exact ⟨_, hr.blk⟩
theorem steps_up (h : St w base p q rb m R B) (hA : Apart base p q) : St (w.setCell ⟨rb, 5, none⟩ (.int .i64 ((R.steps : Int) + 1))) base p q rb m { R with steps := R.steps + 1 } B ∧ Fj base p q w (w.setCell ⟨rb, 5, none⟩ (.int .i64 ((R.steps : Int) + 1))) := by
  obtain ⟨ov, sv, A, c, mb, cnt, D, hr, hm, b⟩ := h
  obtain ⟨r1, r2, r3⟩ := run_cell (i := 5) (x := .int .i64 ((R.steps : Int) + 1)) (R' := { R with steps := R.steps + 1 }) (A' := A) (c' := c) hr hm hA (by simp [runC]) rfl rfl hr.inp
  exact ⟨⟨_, _, _, _, _, _, _, r1, r2, b⟩, r3⟩
set_option maxRecDepth 100000 in
set_option maxHeartbeats 8000000 in
theorem steps_any (f : Int) (F C : Nat) (h : St w base p q rb m R B) (hA : Apart base p q) (hp1 : 1 < p ∧ 1 < q) (hm : m.ok) (hF : FormsIn w) (hO : OpsIn w) (hf : F = f.toNat) (hs : R.steps = 0) (hc : R.checks = 0) (hC : B + 5 * F ≤ C) (hC' : C < 1000000000000) :
    Calls Tryd.prog 22 #[.pointer (some ⟨rb, 0, none⟩), .int .i64 f] w (StepsTo w base p q rb (runV F m R) C m.mem.length R.wat) := by
  go_enter Tryd.func22, Tryd.ntmps22
  go_wp2
  have hrel0 : StepsRel w base p q rb F C (runV F m R) m.mem.length R.wat (left F m R) w := ⟨m, R, B, h, Fj.refl _ _ _ _, hm, rfl, by unfold left; split <;> omega, by omega, by omega, by rw [hs]; rfl, rfl, rfl⟩
  have HRel := Lib.hid hrel0; clear hrel0
  generalize runV F m R = fin at *
  generalize m.mem.length = len at *
  generalize R.wat = wat at *
  generalize left F m R = k0 at *
  have hC5 : 5 * F ≤ C := by omega
  clear h hm hs hc hC
  go_loopg [] k0 (fun k wr => StepsRel w base p q rb F C fin len wat k wr)
  case atStart => exact HRel.out
  case round =>
    obtain ⟨m, R, B, h, hfj, hm, hk, hB, hst, hck, hfin, hlen, hwat⟩ := hrel
    have Hfin := Lib.hid hfin; have Hk := Lib.hid hk; have Hlen := Lib.hid hlen; have Hwat := Lib.hid hwat
    clear hfin hk hlen hwat
    have c0 := h.c0
    have cst := h.m_.cst hm.1
    have c5 := h.c5
    by_cases hgo : m.st = 0 ∧ (R.steps : Int) < f
    · obtain ⟨g1, g2⟩ := hgo
      have d2 : decide ((R.steps : Int) < f) = true := decide_eq_true g2
      rw [g1] at cst
      go_wp2_with fail
      refine (step_any h hA hp1 hm (by omega) (hF.fj hA hfj) (hO.fj hA hp1 hfj) (by omega)).mono ?_
      intro e w1 ho
      cases hsv : stepV m R with
      | none =>
        rw [hsv] at ho
        obtain ⟨rfl, s1, f1⟩ := ho
        have c01 := s1.c0
        have cs1 := s1.m_.cst hm.1
        have fs1 := s1.m_.fr 34
        obtain ⟨s2, f2⟩ := s1.mach hA (s1.m_.setSt hm.1 hA.1 4) ((Fr.set (S := [p]) w1 p 34 (.int .i64 4) (by simp)).mono (by simp))
        go_wp2
        have hkF : gk = F - R.steps := by rw [Hk.out]; unfold left; rw [if_pos g1]
        have hfe : F - R.steps = (F - R.steps - 1) + 1 := by omega
        go_roundg 0
        case measure => omega
        case rel => exact ⟨{ m with st := 4 }, R, B + 5, s2, (hfj.trans f1).trans f2, hm, by unfold left; rw [if_neg (by simp)], by omega, hst, hck, by
          rw [runV_stop (.inl (by simp)), ← Hfin.out, hfe, runV_go g1, hsv], Hlen.out, Hwat.out⟩
      | some x =>
        rw [hsv] at ho
        obtain ⟨rfl, s1, f1⟩ := ho
        have c01 := s1.c0
        have c51 := s1.c5
        have fs1 := s1.cf 5
        obtain ⟨kk1, kk2, kk3, kk4, kk5⟩ := stepV_kept hm h.inp hsv
        obtain ⟨s2, f2⟩ := steps_up s1 hA
        have hx5 : x.2.steps ≤ 1000000000000 := by omega
        have Hsv := Lib.hid hsv
        have K2 := Lib.hid kk2
        have K3 := Lib.hid kk3
        have K5 := Lib.hid kk5
        clear hsv kk2 kk3 kk5
        go_wp2
        have hkF : gk = F - R.steps := by rw [Hk.out]; unfold left; rw [if_pos g1]
        have hfe : F - R.steps = (F - R.steps - 1) + 1 := by omega
        have e3 := K3.out
        go_roundg (left F x.1 { x.2 with steps := x.2.steps + 1 })
        case measure => unfold left; split <;> (try dsimp only) <;> omega
        case rel => exact ⟨x.1, { x.2 with steps := x.2.steps + 1 }, B + 5, s2, (hfj.trans f1).trans f2, kk1, rfl, by unfold left; split <;> (try dsimp only) <;> omega, by dsimp only; omega, by dsimp only; omega, by
          rw [← Hfin.out, hfe, runV_go g1, Hsv.out]; simp only [e3]; rw [show F - (R.steps + 1) = F - R.steps - 1 by omega], K2.out.trans Hlen.out, K5.out.trans Hwat.out⟩
    · have hend : runV (F - R.steps) m R = (m, R) := runV_stop (by omega)
      have Hend := Lib.hid hend; clear hend
      have c12 := h.c12
      have cc1 := c12.1
      have cc2 := c12.2
      have cf1 := h.cf 1
      have cf2 := h.cf 2
      have ccd := h.m_.ccd hm.1
      clear c12
      have hz : p ≠ rb := rb_ne h hA
      have hz' : rb ≠ p := fun e => hz e.symm
      by_cases g1 : m.st = 0
      · have d2 : decide ((R.steps : Int) < f) = false := decide_eq_false (fun g2 => hgo ⟨g1, g2⟩)
        have G1 := Lib.hid g1
        rw [g1] at cst
        clear g1 hgo
        go_wp2_with fail
        go_region
        go_end0
        have hfe : fin = (m, R) := Hfin.out.symm.trans Hend.out
        subst hfe
        refine ⟨rfl, wr, B, h, hfj, hm, by omega, Hlen.out, Hwat.out, ?_⟩
        dsimp only
        rw [G1.out]
        first | exact ⟨rfl, rfl, rfl, rfl⟩ | exact ⟨rfl, rfl, rfl, setCell_comm (rb_blk h).choose_spec (by decide)⟩
      · have g1b : (m.st == 0) = false := by simpa using g1
        have g1c : decide (m.st = 0) = false := decide_eq_false g1
        clear hgo
        go_wp2_with fail
        go_region
        go_end0
        have hfe : fin = (m, R) := Hfin.out.symm.trans Hend.out
        subst hfe
        refine ⟨rfl, wr, B, h, hfj, hm, by omega, Hlen.out, Hwat.out, ?_⟩
        dsimp only
        first | exact ⟨rfl, rfl, rfl, rfl⟩ | exact ⟨rfl, rfl, rfl, setCell_comm (rb_blk h).choose_spec (by decide)⟩
end
end Go.Proofs.YtoehfncgkkfdeaaDoor
/- A machine made, a run begun, a run whole: package mach. Conditions: each theorem's. -/
namespace Go.Proofs.YtoehfncgkkfdeaaDoor
open Go.RowKit Go.Maps
set_option linter.unusedVariables false
set_option linter.unusedSimpArgs false
set_option maxRecDepth 10000
open Pm Pc Pl
/-- Bytes that come in. -/
def SrcIs (w : World) (A : Option Addr) (xs : List Int) : Prop :=
  (∀ b ∈ xs, 0 ≤ b ∧ b < 256) ∧ (0 < xs.length → ∃ ib off, A = some ⟨ib, off, none⟩ ∧ ∀ j, j < xs.length → w.cell? ⟨ib, off + j, none⟩ = some (.int .u8 (xs.getD j 0)))
def maNew (xs : List Int) (N : Nat) : Ma := ⟨xs ++ List.replicate (N - xs.length) 0, List.replicate 32 0, 0, 0, 0⟩
theorem maNew_ok {xs : List Int} {N : Nat} (hb : ∀ b ∈ xs, 0 ≤ b ∧ b < 256) (hN : xs.length ≤ N) (hN' : N ≤ 4194304) : (maNew xs N).ok := by
  refine ⟨rfl, by simp [maNew]; omega, ?_, ?_, ⟨Int.le_refl 0, by show (0 : Int) < _; decide⟩, rfl⟩
  · intro v hv
    simp [maNew] at hv
    omega
  · intro b h
    simp [maNew] at h
    rcases h with h | h
    · exact hb b h
    · omega
theorem maNew_len {xs : List Int} {N : Nat} (hN : xs.length ≤ N) : (maNew xs N).mem.length = N := by simp [maNew]; omega
theorem begin_any {w : World} {p q : Nat} {m : Ma} {A : Option Addr} {c : Nat} {xs : List Int} (hm : MachAt w p q m) :
    Calls Tryd.prog 21 #[.pointer (some ⟨p, 0, none⟩), .slice A xs.length c] w fun e w' => e = .returned (.pointer (some ⟨w.heap.size + 1, 0, none⟩)) ∧ w' = (w.alloc (.map #[] 0)).alloc (.cells (runC p w.heap.size ⟨[], 0, 0, xs, false, []⟩ (.slice none 0 0) (.slice none 0 0) A c) 69) := by
  have hmk : ∀ W : World, (Instr.makeMap 67 none).run Tryd.prog W = .ok (.map (some W.heap.size)) (W.alloc (.map #[] 0)) := fun W => by kernel_rfl
  go_enter Tryd.func21, Tryd.ntmps21
  go_wp2
  go_ret
  exact ⟨rfl, rfl⟩
theorem begin_st {w : World} {p q : Nat} {m : Ma} {A : Option Addr} {c : Nat} {xs : List Int} (hm : MachAt w p q m) (hi : InpIs w w.heap.size p q A xs) (hc : xs.length ≤ c) :
    Calls Tryd.prog 21 #[.pointer (some ⟨p, 0, none⟩), .slice A xs.length c] w fun e w' => e = .returned (.pointer (some ⟨w.heap.size + 1, 0, none⟩)) ∧ St w' w.heap.size p q (w.heap.size + 1) m ⟨[], 0, 0, xs, false, []⟩ 0 ∧ Below w.heap.size w w' := by
  refine (begin_any (xs := xs) hm).mono ?_
  rintro e w' ⟨rfl, rfl⟩
  have hb := below2 w (.map #[] 0) (.cells (runC p w.heap.size ⟨[], 0, 0, xs, false, []⟩ (.slice none 0 0) (.slice none 0 0) A c) 69)
  refine ⟨rfl, ⟨_, _, A, c, w.heap.size, 0, .map [], ⟨heap_alloc2_new w _ _, ⟨rfl, .inl ⟨rfl, rfl⟩⟩, ⟨rfl, .inl ⟨rfl, rfl⟩⟩, ?_, (World.ownsMap_made _ _ _ _).alloc _, ⟨isMap_empty, fun u _ _ h => by simp [has] at h⟩, by omega, Nat.le_refl _⟩, ?_, by omega, by simp, by simp, hc⟩, hb⟩
  · exact hi.at_ fun g hg _ _ _ => hb.block g hg
  · exact hm.keep (Fr.below (S := []) hb) (by simp) (by simp)
theorem made_u8 (N : Nat) : madeCells #[Value.int .u8 0] N = (u8s (List.replicate N 0)).toArray := by
  apply Array.ext
  · simp [madeCells, u8s]
  · intro i h1 h2
    simp [madeCells, u8s, Nat.mod_one]
theorem add_at (b o j : Nat) : (⟨b, o, none⟩ : Addr).add j = ⟨b, o + j, none⟩ := by
  unfold Addr.add
  split
  · rename_i h; subst h; rfl
  · rfl
theorem new_cells (N : Nat) (q : Nat) : (#[Value.slice (some ⟨q, 0, none⟩) N N, .int .u64 0, .int .u64 0, .int .u64 0, .int .u64 0, .int .u64 0, .int .u64 0, .int .u64 0, .int .u64 0, .int .u64 0, .int .u64 0, .int .u64 0, .int .u64 0, .int .u64 0, .int .u64 0, .int .u64 0, .int .u64 0, .int .u64 0, .int .u64 0, .int .u64 0, .int .u64 0, .int .u64 0, .int .u64 0, .int .u64 0, .int .u64 0, .int .u64 0, .int .u64 0, .int .u64 0, .int .u64 0, .int .u64 0, .int .u64 0, .int .u64 0, .int .u64 0, .int .u64 0, .int .i64 0, .int .u8 0] : Array Value) = (Value.slice (some ⟨q, 0, none⟩) N N :: (u64s (List.replicate 32 0) ++ [.int .u64 0, .int .i64 0, .int .u8 0])).toArray := rfl
theorem new_at {w : World} {xs : List Int} {N : Nat} (hN : xs.length ≤ N) {C : Obj} (hC : C = .cells (Value.slice (some ⟨w.heap.size, 0, none⟩) N N :: (u64s (List.replicate 32 0) ++ [.int .u64 0, .int .i64 0, .int .u8 0])).toArray 63) {X : World} (hp : X.heap[w.heap.size + 1]? = some C) (hq : X.heap[w.heap.size]? = some (.cells (u8s (xs ++ List.replicate (N - xs.length) 0)).toArray 5)) : MachAt X (w.heap.size + 1) w.heap.size (maNew xs N) := by
  refine ⟨?_, hq⟩
  rw [hp, hC, Ma.cells, maNew_len hN]
  rfl
theorem cat_new (xs : List Int) (N : Nat) : (u8s xs ++ List.drop (u8s xs).length (u8s (List.replicate N 0))).toArray = (u8s (xs ++ List.replicate (N - xs.length) 0)).toArray := by
  simp [u8s]
set_option maxHeartbeats 1000000 in
theorem new_any {w : World} {A : Option Addr} {c N : Nat} {xs : List Int} (hN : xs.length ≤ N) (hN' : N ≤ 4194304) (hr : SrcIs w A xs) :
    Calls Tryd.prog 8 #[.slice A xs.length c, .int .i64 N] w fun e w' => e = .returned (.tuple #[.pointer (some ⟨w.heap.size + 1, 0, none⟩), .int .i64 0]) ∧ MachAt w' (w.heap.size + 1) w.heap.size (maNew xs N) ∧ Below w.heap.size w w' := by
  have hmk := run_make_row' (P := Tryd.prog) 22 5 (.int .u8 0) 1 Tryd.underlying22 (by kernel_rfl) rfl .i64 .i64 N (by omega) (by omega)
  rw [made_u8] at hmk
  by_cases h0 : xs.length = 0
  · have hx : xs = [] := List.eq_nil_of_length_eq_zero h0
    subst hx
    go_enter Tryd.func8, Tryd.ntmps8
    go_wp2_with (refine wpList_copy_nothing (o := ⟨some 24, _, _, _, _, _⟩) rfl (.tmp 22) (.tmp 23) 22 22 rfl 5 Tryd.underlying22 (by kernel_rfl) (some ⟨w.heap.size, 0, none⟩) A N N 0 c rfl rfl (by simp) ?_)
    go_ret2
    exact ⟨rfl, new_at (by simp) rfl (heap_alloc2_new w _ _) (by rw [heap_alloc2_old]; simp), below2 _ _ _⟩
  · obtain ⟨ib, off, rfl, hsrc⟩ := hr.2 (by omega)
    have hlt : ib < w.heap.size := World.block_lt_of_cell? w _ (hsrc 0 (by omega))
    have hlen : (u8s xs).length = Nat.min xs.length N := by rw [show Nat.min xs.length N = xs.length from Nat.min_eq_left hN]; simp [u8s]
    have Hsrc : Hid (∀ (C D : Obj) (j : Nat) (v : Value), (u8s xs)[j]? = some v → ((w.alloc C).alloc D).cell? ((⟨ib, off, none⟩ : Addr).add j) = some v) := Lib.hid fun C D j v hv => by
      have hj : j < xs.length := by
        rcases Nat.lt_or_ge j xs.length with h | h
        · exact h
        · rw [List.getElem?_eq_none (by simpa [u8s] using h)] at hv; cases hv
      rw [add_at, World.cell?_alloc_lt _ _ _ (by simp; omega), World.cell?_alloc_lt _ _ _ hlt, hsrc j hj]
      simpa [u8s, hj] using hv
    have HL := Lib.hid hlen
    clear hsrc hr hlen
    go_enter Tryd.func8, Tryd.ntmps8
    go_wp2_with (refine wpList_copy_own (o := ⟨some 24, _, _, _, _, _⟩) rfl (.tmp 22) (.tmp 23) 22 22 rfl 5 Tryd.underlying22 (by kernel_rfl) w.heap.size 0 N N ⟨ib, off, none⟩ xs.length c rfl rfl (u8s (List.replicate N 0)).toArray 5 (heap_alloc2_old w _ _) (u8s xs) HL.out (Hsrc.out _ _) (by simp [u8s]; omega) (by simp [u8s, Value.oneCell']) ?_)
    go_ret2
    refine ⟨rfl, new_at hN rfl ((setRow_other _ _ _ _ (by omega)).trans (heap_alloc2_new w _ _)) ?_, below_setRow (below2 _ _ _) (Nat.le_refl _) _⟩
    rw [setRow_heap _ w.heap.size _ _ _ _ (heap_alloc2_old w _ _), cat_new]
end Go.Proofs.YtoehfncgkkfdeaaDoor
/- A run of package mach, whole; watched or not. Conditions: each theorem's. -/
namespace Go.Proofs.YtoehfncgkkfdeaaDoor
open Go.RowKit Go.Maps
set_option linter.unusedVariables false
set_option linter.unusedSimpArgs false
set_option maxRecDepth 10000
open Pm Pc Pl
theorem own_slice {w : World} {base size n : Nat} {e : TypeId} {v : Value} {xs : List Value} (h : w.ownsRow base e size v n xs) : ∃ A n c, v = .slice A n c := by
  rcases h.2 with ⟨rfl, _⟩ | ⟨g', cap, cur, rfl, _⟩
  · exact ⟨_, _, _, rfl⟩
  · exact ⟨_, _, _, rfl⟩
theorem size52 : (Tryd.prog.info? 39).map (·.size) = some 6 := by kernel_rfl
/-- What a run answers, and leaves. -/
def RunTo (w : World) (p q : Nat) (len : Nat) (fin : Ma × Ru) (e : Ending) (w' : World) : Prop :=
  ∃ ov, e = .returned (.agg #[.int .i64 fin.1.st, .int .u8 fin.1.cd, .int .i64 0, ov, .int .i64 fin.2.steps, .int .i64 fin.2.checks]) ∧ w'.ownsRow w.heap.size 5 1 ov fin.2.out.length (u8s fin.2.out) ∧ MachAt w' p q fin.1 ∧ fin.1.ok ∧ fin.1.mem.length = len ∧ Fj w.heap.size p q w w'
/-- What stands behind the steps of a run. -/
theorem steps_out {w w1 w2 : World} {base p q rb C len : Nat} {fin : Ma × Ru} {wat : Bool} {e : Ending} (hA : Apart base p q) (h : StepsTo w base p q rb fin C len wat e w2) :
    e = .returned (.tuple #[]) ∧ ∃ ov sv A c mb, w2.heap[rb]? = some (Obj.cells #[.pointer (some ⟨p, 0, none⟩), .int .i64 fin.1.st, .int .u8 fin.1.cd, .int .i64 0, ov, .int .i64 fin.2.steps, .int .i64 fin.2.checks, .slice A fin.2.inp.length c, .map (some mb), .bool fin.2.wat, sv] 69) ∧
      w2.ownsRow base 5 1 ov fin.2.out.length (u8s fin.2.out) ∧ w2.ownsRow base 81 4 sv fin.2.seen.length (accs fin.2.seen) ∧ MachAt w2 p q fin.1 ∧ fin.1.ok ∧ fin.1.mem.length = len ∧ Fj base p q w w2 ∧ base ≤ rb := by
  obtain ⟨rfl, w1, B, hs, hf, hok, -, hlen, -, ha⟩ := h
  obtain ⟨ov, sv, A, c, mb, cnt, D, hr, hm, -⟩ := hs
  have hrb := hr.lrb
  have hh : w2.heap = ((w1.setCell ⟨rb, 1, none⟩ (.int .i64 fin.1.st)).setCell ⟨rb, 2, none⟩ (.int .u8 fin.1.cd)).heap := ha.2.2.2
  have hfr : Fr [rb] w1 w2 := Fr.alike ((Fr.set (S := [rb]) w1 rb 1 (.int .i64 fin.1.st) (by simp)).trans (Fr.set (S := [rb]) _ rb 2 (.int .u8 fin.1.cd) (by simp))) ha
  have hrow : ∀ t, t ≠ 69 → ∀ g cur, base ≤ g → w1.heap[g]? = some (Obj.cells cur t) → w2.heap[g]? = some (Obj.cells cur t) := by
    intro t ht g cur _ h1
    refine hfr.at_ h1 ?_
    simp only [List.mem_cons, List.not_mem_nil, or_false]
    rintro rfl
    rw [hr.blk] at h1
    injection h1 with h1
    injection h1 with _ h1
    exact ht h1.symm
  refine ⟨rfl, ov, sv, A, c, mb, ?_, ownsRow_at2 hr.out (hrow _ (by decide)), ownsRow_at2 hr.seen (hrow _ (by decide)), hm.keep hfr (by have := hA.2.1; simp; omega) (by have := hA.2.2.1; simp; omega), hok, hlen, hf.trans (Fj.of hfr (by simp; omega) ?_), hrb⟩
  · rw [hh, heap_setCell_same _ _ _ _ _ _ (heap_setCell_same _ _ _ _ _ _ hr.blk)]
    rfl
  · intro k hk cs
    simp only [List.mem_cons, List.not_mem_nil, or_false] at hk
    subst hk
    rw [hr.blk]; intro e; injection e with e; injection e with _ e; exact absurd e (by decide)
theorem run_frame {w w0 w1 w2 : World} {p q : Nat} (h0 : Below w.heap.size w w0) (z0 : w0.heap.size = w.heap.size + 1) (h1 : Below (w.heap.size + 1) w0 w1) (h2 : Fj (w.heap.size + 1) p q w1 w2) (cs : Array Value) : Fj w.heap.size p q w (w2.setRow w.heap.size cs) := by
  have s0 := h0.size
  have s1 := h1.size
  have s2 := h2.fb.size
  refine ⟨⟨h2.fb.os.trans (h1.os.trans h0.os), h2.fb.tape.trans (h1.tape.trans h0.tape), h2.fb.output.trans (h1.output.trans h0.output), by simp [World.setRow]; omega, fun k hk hb hp hq => ?_⟩, fun g c hg => ?_⟩
  · rw [setRow_other _ _ _ _ (by omega), h2.fb.block k (by omega) (by omega) hp hq, h1.block k (by omega), h0.block k hk]
  · have hlt := lt_of_at hg
    rw [setRow_other _ _ _ _ (by omega)]
    exact h2.ins _ _ ((h1.block g (by omega)).trans ((h0.block g hlt).trans hg))
theorem own_setRow {w : World} {base size n : Nat} {e : TypeId} {v : Value} {xs : List Value} (h : w.ownsRow (base + 1) e size v n xs) (cs : Array Value) : (w.setRow base cs).ownsRow base e size v n xs := by
  obtain ⟨hl, h⟩ := h
  refine ⟨hl, ?_⟩
  rcases h with h | ⟨g, cap, cur, h1, h2, h3, h4⟩
  · exact .inl h
  · exact .inr ⟨g, cap, cur, h1, by omega, (setRow_other _ _ _ _ (by omega)).trans h3, h4⟩
theorem mach_setRow {w : World} {p q b : Nat} {m : Ma} (h : MachAt w p q m) (hp : p ≠ b) (hq : q ≠ b) (cs : Array Value) : MachAt (w.setRow b cs) p q m := ⟨(setRow_other _ _ _ _ hp).trans h.1, (setRow_other _ _ _ _ hq).trans h.2⟩
set_option maxRecDepth 100000 in
set_option maxHeartbeats 4000000 in
theorem run_any {w : World} {p q : Nat} {m : Ma} {A : Option Addr} {c : Nat} {xs : List Int} (f : Int) (hm : MachAt w p q m) (hok : m.ok) (hpq : p ≠ q) (hp1 : 1 < p ∧ 1 < q) (hi : InpIs w w.heap.size p q A xs) (hc : xs.length ≤ c) (hF : FormsIn w) (hO : OpsIn w) (hf : f ≤ 1073741824) :
    Calls Tryd.prog 11 #[.pointer (some ⟨p, 0, none⟩), .slice A xs.length c, .int .i64 f] w (RunTo w p q m.mem.length (runV f.toNat m ⟨[], 0, 0, xs, false, []⟩)) := by
  have lp := hm.lp
  have lq := hm.lq
  go_enter Tryd.func11, Tryd.ntmps11
  go_wp2_with fail
  have R0b := (Below.refl w.heap.size w).alloc (Nat.le_refl _) (Obj.cells #[.int .i64 0, .int .u8 0, .int .i64 0, .slice none 0 0, .int .i64 0, .int .i64 0] 39)
  have R0 := heap_alloc_new w (Obj.cells #[.int .i64 0, .int .u8 0, .int .i64 0, .slice none 0 0, .int .i64 0, .int .i64 0] 39)
  have hF0 := hF.keep R0b (Nat.le_refl _)
  have hO0 : OpsIn (w.alloc (Obj.cells #[.int .i64 0, .int .u8 0, .int .i64 0, .slice none 0 0, .int .i64 0, .int .i64 0] 39)) := fun o a b => (World.cell?_alloc_lt w _ _ (World.block_lt_of_cell? w _ (hO o a b))).trans (hO o a b)
  have hm0 : MachAt (w.alloc (Obj.cells #[.int .i64 0, .int .u8 0, .int .i64 0, .slice none 0 0, .int .i64 0, .int .i64 0] 39)) p q m := hm.keep (Fr.below (S := []) R0b) (by simp) (by simp)
  have hi0 : InpIs (w.alloc (Obj.cells #[.int .i64 0, .int .u8 0, .int .i64 0, .slice none 0 0, .int .i64 0, .int .i64 0] 39)) (w.alloc (Obj.cells #[.int .i64 0, .int .u8 0, .int .i64 0, .slice none 0 0, .int .i64 0, .int .i64 0] 39)).heap.size p q A xs := by
    have h1 := hi.at_ (w' := w.alloc (Obj.cells #[.int .i64 0, .int .u8 0, .int .i64 0, .slice none 0 0, .int .i64 0, .int .i64 0] 39)) fun g hg _ _ _ => R0b.block g hg
    exact ⟨h1.1, fun h0 => by obtain ⟨ib, off, a, b, r⟩ := h1.2 h0; exact ⟨ib, off, a, by simp only [szA]; omega, r⟩⟩
  have hz0 : (w.alloc (Obj.cells #[.int .i64 0, .int .u8 0, .int .i64 0, .slice none 0 0, .int .i64 0, .int .i64 0] 39)).heap.size = w.heap.size + 1 := szA _ _
  generalize w.alloc (Obj.cells #[.int .i64 0, .int .u8 0, .int .i64 0, .slice none 0 0, .int .i64 0, .int .i64 0] 39) = w0 at *
  clear hF hO hm hi
  refine (begin_st hm0 hi0 hc).mono ?_
  rintro e w1 ⟨rfl, s1, b1⟩
  rw [hz0] at s1 b1 ⊢
  have hA : Apart (w.heap.size + 1) p q := ⟨hpq, by omega, by omega, by omega, by omega⟩
  have hF1 := hF0.keep b1 (by omega)
  have hO1 : OpsIn w1 := fun o a b => (b1.cell (p := ⟨0, o, none⟩) (by show 0 < w.heap.size + 1; omega)).trans (hO0 o a b)
  have R1 := row_at b1 (by omega) R0
  clear hF0 hO0 hm0 hi0
  go_wp2_with fail
  refine (steps_any f f.toNat 6000000000 s1 hA hp1 hok hF1 hO1 rfl rfl rfl (by omega) (by omega)).mono ?_
  intro e w2 hst
  obtain ⟨rfl, ov, sv, A', c', mb, hblk, hout, hseen, hma, hok2, hlen, hfj, hrb⟩ := steps_out (w1 := w1) hA hst
  clear hst s1 hF1 hO1
  obtain ⟨oA, on, oc, rfl⟩ := own_slice hout
  have R2 : w2.heap[w.heap.size]? = some (Obj.cells #[.int .i64 0, .int .u8 0, .int .i64 0, .slice none 0 0, .int .i64 0, .int .i64 0] 39) := by
    have hlt := lt_of_at R1
    rw [← R1]; exact hfj.fb.block _ hlt (by omega) (by omega) (by omega)
  generalize runV f.toNat m ⟨[], 0, 0, xs, false, []⟩ = fin at *
  have hrg := range_of_row 1 [.int .i64 fin.1.st, .int .u8 fin.1.cd, .int .i64 0, .slice oA on oc, .int .i64 fin.2.steps, .int .i64 fin.2.checks] hblk rfl
  go_wp2_with (first | (refine wpList_load_mid (op := ⟨some 17, _, _, _, _, _⟩) rfl 39 (.tmp 16) rfl (w.heap.size + 1 + 1) 1 rfl [.int .i64 fin.1.st, .int .u8 fin.1.cd, .int .i64 0, .slice oA on oc, .int .i64 fin.2.steps, .int .i64 fin.2.checks] _ hrg Tryd.underlying39 rfl size52 ?_) | (refine wpList_store_row (o := ⟨none, _, _, _, _, _⟩) rfl 39 (.tmp 6) (.tmp 17) rfl w.heap.size _ rfl rfl 39 _ R2 size52 rfl (by simp [Value.oneCell']) ?_))
  exact bodyPost_ret (v := .agg #[.int .i64 fin.1.st, .int .u8 fin.1.cd, .int .i64 0, .slice oA on oc, .int .i64 fin.2.steps, .int .i64 fin.2.checks]) (results_cell_row Tryd.results11 _ _ w.heap.size 39 _ (0, 0) _ rfl (setRow_heap _ w.heap.size _ _ _ _ R2) Tryd.underlying39 rfl size52) rfl
    ⟨_, rfl, own_setRow hout _, mach_setRow hma (by omega) (by omega) _, hok2, hlen, run_frame R0b hz0 b1 hfj _⟩
end Go.Proofs.YtoehfncgkkfdeaaDoor
/- The bytes of instructions' words, as the statements of layer 3 make them; the fixed fact. Conditions: each theorem's. -/
namespace Go.Proofs.YtoehfncgkkfdeaaDoor
open Go.RowKit Go.Maps
set_option linter.unusedVariables false
set_option linter.unusedSimpArgs false
set_option maxRecDepth 10000
open Pm Pc Pl
namespace Pm
abbrev In5 := Int × Int × Int × Int × Int
def in5 (i : In5) : List Value := [.int .i64 i.1, .int .i64 i.2.1, .int .i64 i.2.2.1, .int .i64 i.2.2.2.1, .int .i64 i.2.2.2.2]
def i5S (i : In5) : Int := encS i.1 i.2.1 i.2.2.1 i.2.2.2.1 i.2.2.2.2
def i5W (i : In5) : Int := encW i.1 i.2.1 i.2.2.1 i.2.2.2.1 i.2.2.2.2
def wordB (w : Int) : List Int := [w % 256, w / 256 % 256, w / 65536 % 256, w / 16777216]
def bytesI (i : In5) : List Int := if i5S i = 0 then wordB (i5W i) else []
def bytesOf (l : List In5) : List Int := l.flatMap bytesI
theorem bytesOf_snoc (l : List In5) (k : Nat) (h : k < l.length) : bytesOf (l.take (k + 1)) = bytesOf (l.take k) ++ bytesI (l.getD k (0, 0, 0, 0, 0)) := by
  rw [List.take_succ_eq_append_getElem h, bytesOf, List.flatMap_append]
  simp [bytesOf, List.getD, h]
theorem bytesOf_len (l : List In5) : (bytesOf l).length ≤ 4 * l.length := by
  induction l with
  | nil => simp [bytesOf]
  | cons i l ih =>
    simp only [bytesOf, List.flatMap_cons, List.length_append, List.length_cons] at ih ⊢
    have : (bytesI i).length ≤ 4 := by unfold bytesI; split <;> simp [wordB]
    omega
end Pm
/-- A slice of instructions. -/
def InsAt (w : World) (A : Option Addr) (l : List In5) : Prop := 0 < l.length → ∃ sb, A = some ⟨sb, 0, none⟩ ∧ sb < w.heap.size ∧ ∀ k, k < l.length → w.rangeAt sb (k * 5) (in5 (l.getD k (0, 0, 0, 0, 0)))
theorem InsAt.below {w w' : World} {A : Option Addr} {l : List In5} (h : InsAt w A l) (hb : Below w.heap.size w w') : InsAt w' A l := fun h0 => by
  obtain ⟨sb, h1, h2, h3⟩ := h h0
  exact ⟨sb, h1, Nat.lt_of_lt_of_le h2 hb.size, fun k hk j v hv => (hb.cell (p := ⟨sb, k * 5 + j, none⟩) h2).trans (h3 k hk j v hv)⟩
set_option maxHeartbeats 2000000 in
theorem bytes_any {w : World} {A : Option Addr} {c : Nat} {l : List In5} (hl : l.length ≤ 1048576) (hi : InsAt w A l) :
    Calls Tryd.prog 16 #[.slice A l.length c] w fun e w' => ∃ v, e = .returned v ∧ w'.ownsRow w.heap.size 5 1 v (bytesOf l).length (u8s (bytesOf l)) ∧ Below w.heap.size w w' := by
  obtain ⟨i0, hi0, hz0, hz1, hz2⟩ := info_parts infoU8
  go_enter Tryd.func16, Tryd.ntmps16
  go_wp2
  go_loopw [3, 10] (fun v k wr => ∃ j : Nat, j ≤ l.length ∧ k = .int .i64 j ∧ wr.ownsRow w.heap.size 5 1 v (bytesOf (l.take j)).length (u8s (bytesOf (l.take j))) ∧ Below w.heap.size w wr) (fun _ k _ => l.length - (intOf k).toNat)
  case atStart => exact ⟨0, Nat.zero_le _, rfl, ⟨rfl, .inl ⟨rfl, rfl⟩⟩, Below.refl _ _⟩
  case round =>
    obtain ⟨j, hj, rfl, hown, hb⟩ := hrel
    by_cases hlt : j < l.length
    · obtain ⟨sb, rfl, hsb, hrg⟩ := (hi.below hb) (by omega)
      have hr := hrg j hlt
      have hsn := bytesOf_snoc l j hlt
      have hbl := bytesOf_len (l.take j)
      rw [List.length_take, Nat.min_eq_left (by omega)] at hbl
      have HSN := Lib.hid hsn
      clear hsn hrg
      generalize bytesOf (l.take j) = bs at *
      generalize hin : l.getD j (0, 0, 0, 0, 0) = ins5 at *
      obtain ⟨op, rd, r1, r2, n⟩ := ins5
      clear hin
      have hr' : wr.rangeAt sb (j * 5) [.int .i64 op, .int .i64 rd, .int .i64 r1, .int .i64 r2, .int .i64 n] := hr
      clear hr
      have hdj : decide ((j : Int) < (l.length : Int)) = true := by simp; omega
      have dj0 : (0 : Int) ≤ (j : Int) := by omega
      have dj1 : (j : Int) < (l.length : Int) := by omega
      go_wp2_with ((refine wpList_load_mid (op := ⟨some 13, _, _, _, _, _⟩) rfl 49 (.tmp 12) rfl sb (j * 5) rfl [.int .i64 op, .int .i64 rd, .int .i64 r1, .int .i64 r2, .int .i64 n] _ hr' Tryd.underlying49 rfl sizeInstr ?_))
      refine (renc_any op rd r1 r2 n _).mono ?_
      rintro e w2 ⟨rfl, h2⟩
      have hzw2 : wr.heap.size < w2.heap.size := by have := h2.size; simp only [szA] at this; omega
      have hB0 : Below wr.heap.size wr w2 := ((Below.refl wr.heap.size wr).alloc (Nat.le_refl _) (insB op rd r1 r2 n)).trans (h2.mono (by simp only [szA]; omega))
      have hown2 := ownsRow_at hown fun g o _ hg => below_at hB0 hg
      have hb2 := hb.trans (hB0.mono hb.size)
      have hWr := encW_range op rd r1 r2 n
      have hBI : bytesI (op, rd, r1, r2, n) = if encS op rd r1 r2 n = 0 then wordB (encW op rd r1 r2 n) else [] := rfl
      rw [hBI] at HSN
      clear h2 hB0 hown hb hr' hBI
      generalize encW op rd r1 r2 n = W at *
      generalize hS : encS op rd r1 r2 n = S at *
      clear hS
      by_cases hS0 : S = 0
      · subst hS0
        rw [if_pos rfl] at HSN
        go_wp2_with (at_builtin; refine wpList_append_lies (o := ⟨some 34, _, _, _, _, _⟩) _ rfl (.tmp 21) (.tmp 33) 22 rfl w.heap.size 5 i0 (.int .u8 0) 1 1 Tryd.underlying22 hi0 hz0 hz1 hz2 rfl (by decide) _ _ _ rfl (hown2.alloc _) ⟨w2.heap.size, 0, none⟩ 4 4 [.int .u8 (W % 256), .int .u8 (W / 256 % 256), .int .u8 (W / 65536 % 256), .int .u8 (W / 16777216)] rfl rfl (World.news_of_block (cs := #[.int .u8 (W % 256), .int .u8 (W / 256 % 256), .int .u8 (W / 65536 % 256), .int .u8 (W / 16777216)]) (t := 5) (fr := (0, 0)) (heap_alloc_new w2 _)) (by simp [Value.oneCell']) (by omega) (by unfold maxLen; omega) (by omega) (by have := hb2.size; simp only [szA]; omega) (w2.heap.size + 1) (szA _ _) ?_; intro g cap w3 hown3 hgrow hat hlt3)
        have hb3 : Below w.heap.size w w3 := (hb2.alloc hb2.size (.cells #[.int .u8 (W % 256), .int .u8 (W / 256 % 256), .int .u8 (W / 65536 % 256), .int .u8 (W / 16777216)] 5)).grown hgrow (by simp only [szA]; have := hb2.size; omega) (fun k hk => by
          rcases Nat.lt_or_ge k w.heap.size with hlt' | hge
          · exact absurd hk (own_base hown2 hlt')
          · exact hge)
        have hcat : w3.ownsRow w.heap.size 5 1 (.slice (some ⟨g, 0, none⟩) (bs.length + 4) cap) (bs ++ wordB W).length (u8s (bs ++ wordB W)) := by
          have e1 : u8s (bs ++ wordB W) = u8s bs ++ [.int .u8 (W % 256), .int .u8 (W / 256 % 256), .int .u8 (W / 65536 % 256), .int .u8 (W / 16777216)] := by simp [u8s, wordB]
          have e2 : (bs ++ wordB W).length = bs.length + 4 := by simp [wordB]
          rw [e1, e2]; exact hown3
        go_roundw
        case rel => exact ⟨j + 1, by omega, by go_num, by rw [HSN.out]; exact hcat, hb3⟩
        case measure => simp [intOf]; omega
      · have hSb : (S == 0) = false := by simpa using hS0
        have hSd : decide (S = 0) = false := decide_eq_false hS0
        rw [if_neg hS0, List.append_nil] at HSN
        clear hS0
        go_wp2
        go_roundw
        case rel => exact ⟨j + 1, by omega, by go_num, by rw [HSN.out]; exact hown2, hb2⟩
        case measure => simp [intOf]; omega
    · obtain rfl : j = l.length := by omega
      rw [List.take_of_length_le (Nat.le_refl _)] at hown
      go_wp2
      go_ret
      exact ⟨_, rfl, hown, hb⟩
end Go.Proofs.YtoehfncgkkfdeaaDoor
/- The fixed fact of the statements of layer 3. Conditions: the tables as the program lays them. -/
namespace Go.Proofs.YtoehfncgkkfdeaaDoor
open Go.RowKit Go.Maps
set_option linter.unusedVariables false
set_option linter.unusedSimpArgs false
set_option maxRecDepth 10000
open Pm Pc Pl
namespace Pm
theorem bytesOf_range (l : List In5) : ∀ b ∈ bytesOf l, 0 ≤ b ∧ b < 256 := by
  intro b hb
  simp only [bytesOf, List.mem_flatMap] at hb
  obtain ⟨i, -, hb⟩ := hb
  have hr := encW_range i.1 i.2.1 i.2.2.1 i.2.2.2.1 i.2.2.2.2
  unfold bytesI at hb
  split at hb
  · simp only [wordB, i5W, List.mem_cons, List.not_mem_nil, or_false] at hb
    omega
  · cases hb
end Pm
theorem src_own {w : World} {base : Nat} {v : Value} {xs : List Int} (h : w.ownsRow base 5 1 v xs.length (u8s xs)) (hb : ∀ b ∈ xs, 0 ≤ b ∧ b < 256) : ∃ A c, v = .slice A xs.length c ∧ SrcIs w A xs ∧ xs.length ≤ c := by
  rcases h.2 with ⟨rfl, hn⟩ | ⟨g, cap, cur, rfl, hg, hh, hnc, _, hsz, htk⟩
  · exact ⟨none, 0, by rw [hn], ⟨hb, fun h0 => by omega⟩, by omega⟩
  · refine ⟨_, cap, rfl, ⟨hb, fun h0 => ⟨g, 0, rfl, fun j hj => ?_⟩⟩, hnc⟩
    rw [Nat.zero_add, cell_of_row w g j _ _ _ hh]
    have h1 : (u8s xs)[j]? = some (.int .u8 (xs.getD j 0)) := by simp [u8s, hj]
    rw [← htk, List.getElem?_take] at h1
    split at h1
    · simpa using h1
    · cases h1
theorem fj_below {base p q B : Nat} {w w' : World} (h : Fj base p q w w') (h1 : B ≤ base) (h2 : B ≤ w.heap.size) (h3 : B ≤ p) (h4 : B ≤ q) : Below B w w' := ⟨h.fb.os, h.fb.tape, h.fb.output, h.fb.size, fun k hk => h.fb.block k (by omega) (by omega) (by omega) (by omega)⟩
theorem OpsIn.below {w w' : World} (h : OpsIn w) (hb : Below w.heap.size w w') : OpsIn w' := fun o h1 h2 => (hb.cell (p := ⟨0, o, none⟩) (World.block_lt_of_cell? w _ (h o h1 h2))).trans (h o h1 h2)
theorem OpsIn.two {w : World} (h : OpsIn w) (hF : FormsIn w) : 1 < w.heap.size := by
  have a : 0 < w.heap.size := World.block_lt_of_cell? w _ (h 28 (by omega) (by omega))
  have b := hF.1
  omega
def awL : List In5 := [(28, 17, 0, 0, 3), (55, 0, 0, 0, 0)]
def aw0 : Ru := ⟨[], 0, 0, [], false, []⟩
theorem aw_fin : (runV 9 (maNew (bytesOf awL) 64) aw0).1.st = 1 ∧ (runV 9 (maNew (bytesOf awL) 64) aw0).1.cd = 0 ∧ (runV 9 (maNew (bytesOf awL) 64) aw0).2.steps = 2 ∧ (bytesOf awL).length = 8 := by decide +kernel
theorem flat5 (l : List In5) : ∀ k, k < l.length → ∀ j v, (in5 (l.getD k (0, 0, 0, 0, 0)))[j]? = some v → (l.flatMap in5)[k * 5 + j]? = some v := by
  induction l with
  | nil => intro k hk; simp at hk
  | cons i l ih =>
    intro k hk j v hv
    have hj : j < 5 := by
      rcases Nat.lt_or_ge j 5 with h | h
      · exact h
      · rw [List.getElem?_eq_none (by simpa [in5] using h)] at hv; cases hv
    rw [List.flatMap_cons]
    cases k with
    | zero =>
      rw [List.getD_cons_zero] at hv
      rw [List.getElem?_append_left (by simp [in5]; omega)]
      simpa using hv
    | succ k =>
      rw [List.getD_cons_succ] at hv
      rw [List.getElem?_append_right (by simp [in5]; omega)]
      have := ih k (by simpa using hk) j v hv
      rw [← this]
      congr 1
      simp [in5]
      omega
theorem insAt_new (w : World) (l : List In5) (cs : Array Value) (hcs : cs = (l.flatMap in5).toArray) (t : TypeId) : InsAt (w.alloc (.cells cs t)) (some ⟨w.heap.size, 0, none⟩) l := fun _ => ⟨w.heap.size, rfl, by simp, fun k hk j v hv => by
  rw [World.cell?_alloc_new, hcs]
  simpa using flat5 l k hk j v hv⟩
set_option maxHeartbeats 2000000 in
theorem awake3 (w : World) (hF : FormsIn w) (hO : OpsIn w) : Calls Tryd.prog 7 #[] w fun e w' => e = .returned (.bool true) ∧ Below w.heap.size w w' := by
  have h2 := hO.two hF
  have Haw := Lib.hid aw_fin
  go_enter Tryd.func7, Tryd.ntmps7
  go_wp2_with fail
  refine (bytes_any (l := awL) (by decide) (insAt_new w awL _ rfl _)).mono ?_
  rintro e w1 ⟨v, rfl, hown, hb1⟩
  obtain ⟨A, c, rfl, hsrc, -⟩ := src_own hown (bytesOf_range _)
  have hB1 : Below w.heap.size w w1 := ((Below.refl w.heap.size w).alloc (Nat.le_refl _) (.cells #[.int .i64 28, .int .i64 17, .int .i64 0, .int .i64 0, .int .i64 3, .int .i64 55, .int .i64 0, .int .i64 0, .int .i64 0, .int .i64 0] 49)).trans (hb1.mono (by simp))
  have hlen := Haw.out.2.2.2
  have hle : (bytesOf awL).length ≤ 64 := by omega
  clear hb1 hown
  go_wp2_with fail
  refine (new_any (N := 64) hle (by decide) hsrc).mono ?_
  rintro e w2 ⟨rfl, hm, hb2⟩
  have hB2 := hB1.trans (hb2.mono hB1.size)
  have hF2 := hF.keep hB2 (Nat.le_refl _)
  have hO2 := hO.below hB2
  have hz := hB1.size
  clear hb2 hsrc
  go_wp2_with fail
  refine (run_any (A := none) (c := 0) (xs := []) 9 hm (maNew_ok (bytesOf_range _) hle (by decide)) (by omega) (by omega) ⟨fun i => by simp, fun h0 => by simp at h0⟩ (by decide) hF2 hO2 (by decide)).mono ?_
  rintro e w3 ⟨ov, rfl, hov, hm3, -, -, hfj⟩
  obtain ⟨oA, on, oc, rfl⟩ := own_slice hov
  have hB3 := hB2.trans (fj_below hfj hB2.size hB2.size (by omega) (by omega))
  have e1 := Haw.out.1
  have e2 := Haw.out.2.1
  have e3 := Haw.out.2.2.1
  rw [show ((9 : Int).toNat) = 9 from rfl]
  rw [show (⟨[], 0, 0, [], false, []⟩ : Ru) = aw0 from rfl, e1, e2, e3]
  go_wp2
  go_ret
  exact ⟨rfl, hB3.alloc hB3.size _⟩
end Go.Proofs.YtoehfncgkkfdeaaDoor
/- The calls of package mach as the statements make them, on a machine of their own. Conditions: each theorem's. -/
namespace Go.Proofs.YtoehfncgkkfdeaaDoor
open Go.RowKit Go.Maps
set_option linter.unusedVariables false
set_option linter.unusedSimpArgs false
set_option maxRecDepth 10000
open Pm Pc Pl
/-- A machine that a statement made since a world. -/
structure Ks (w0 w : World) (p q : Nat) (m : Ma) : Prop where
  at_ : MachAt w p q m
  ok : m.ok
  forms : FormsIn w
  ops : OpsIn w
  below : Below w0.heap.size w0 w
  pq : p ≠ q
  lp : w0.heap.size ≤ p
  lq : w0.heap.size ≤ q
  two : 1 < w0.heap.size
section
variable {w0 w : World} {p q : Nat} {m : Ma}
theorem Ks.apart (h : Ks w0 w p q m) : Apart w.heap.size p q := ⟨h.pq, h.at_.lp, h.at_.lq, by have := h.two; have := h.lp; omega, by have := h.two; have := h.lq; omega⟩
theorem Ks.one (h : Ks w0 w p q m) : 1 < p ∧ 1 < q := ⟨by have := h.two; have := h.lp; omega, by have := h.two; have := h.lq; omega⟩
theorem Ks.next {w' : World} {m' : Ma} (h : Ks w0 w p q m) (hm : MachAt w' p q m') (hok : m'.ok) (hf : Fj w.heap.size p q w w') : Ks w0 w' p q m' :=
  ⟨hm, hok, h.forms.fj h.apart hf, h.ops.fj h.apart h.one hf, h.below.trans (fj_below hf h.below.size h.below.size h.lp h.lq), h.pq, h.lp, h.lq, h.two⟩
theorem Ks.grow {w' : World} (h : Ks w0 w p q m) (hb : Below w.heap.size w w') : Ks w0 w' p q m :=
  h.next (h.at_.keep (Fr.below (S := []) hb) (by simp) (by simp)) h.ok (Fj.of (Fr.below (S := []) hb) (by simp) (by simp))
theorem fj_p {w' : World} (h : Ks w0 w p q m) (hf : Fr [p] w w') : Fj w.heap.size p q w w' := Fj.of hf (by simp) fun k hk cs => by
  simp only [List.mem_cons, List.not_mem_nil, or_false] at hk
  subst hk
  rw [h.at_.1]; intro e; injection e with e; injection e with _ e; exact absurd e (by decide)
theorem ks_set (h : Ks w0 w p q m) {k : Nat} (hk : k < 32) (v : Int) (hv : 0 ≤ v ∧ v < 18446744073709551616) :
    Calls Tryd.prog 19 #[.pointer (some ⟨p, 0, none⟩), .int .i64 k, .int .u64 v] w fun e w' => e = .returned (.tuple #[]) ∧ Ks w0 w' p q (m.set k v) := by
  refine (set_any h.at_ h.ok.1 hk v).mono ?_
  rintro e w' ⟨rfl, rfl⟩
  exact ⟨rfl, h.next (h.at_.setW h.ok.1 hk h.pq v) (Ma.set_ok h.ok k hv) (fj_p h (fr_setW w p k v))⟩
theorem ks_reg (h : Ks w0 w p q m) {k : Nat} (hk : k < 32) :
    Calls Tryd.prog 24 #[.pointer (some ⟨p, 0, none⟩), .int .i64 k] w fun e w' => e = .returned (.int .u64 (m.reg k)) ∧ w = w' := regs_any h.at_ h.ok.1 hk
theorem ks_place (h : Ks w0 w p q m) : Calls Tryd.prog 20 #[.pointer (some ⟨p, 0, none⟩)] w fun e w' => e = .returned (.int .u64 m.pl) ∧ w = w' := by
  have c := h.at_.cpl h.ok.1
  go_enter Tryd.func20, Tryd.ntmps20
  go_wp2
  go_ret
  exact ⟨rfl, rfl⟩
theorem ks_jump (h : Ks w0 w p q m) (v : Int) (hv : 0 ≤ v ∧ v < 18446744073709551616) : Calls Tryd.prog 15 #[.pointer (some ⟨p, 0, none⟩), .int .u64 v] w fun e w' => e = .returned (.tuple #[]) ∧ Ks w0 w' p q { m with pl := v } := by
  have c := h.at_.cpl h.ok.1
  have cf := h.at_.fr 33
  go_enter Tryd.func15, Tryd.ntmps15
  go_wp2
  go_end0
  exact ⟨rfl, h.next (h.at_.setPl h.ok.1 h.pq v) (Ma.pl_ok h.ok hv) (fj_p h (Fr.set (S := [p]) w p 33 _ (by simp)))⟩
/-- A run with no input. -/
def KRun (w0 : World) (p q : Nat) (fin : Ma × Ru) (e : Ending) (w' : World) : Prop :=
  ∃ A n c, e = .returned (.agg #[.int .i64 fin.1.st, .int .u8 fin.1.cd, .int .i64 0, .slice A n c, .int .i64 fin.2.steps, .int .i64 fin.2.checks]) ∧ Ks w0 w' p q fin.1
theorem ks_run (h : Ks w0 w p q m) (f : Int) (hf : f ≤ 1073741824) : Calls Tryd.prog 11 #[.pointer (some ⟨p, 0, none⟩), .slice none 0 0, .int .i64 f] w (KRun w0 p q (runV f.toNat m aw0)) := by
  refine (run_any (A := none) (c := 0) (xs := []) f h.at_ h.ok h.pq h.one ⟨fun i => by simp, fun h0 => by simp at h0⟩ (by decide) h.forms h.ops hf).mono ?_
  rintro e w' ⟨ov, rfl, hov, hm, hok, -, hfj⟩
  obtain ⟨A, n, c, rfl⟩ := own_slice hov
  exact ⟨A, n, c, rfl, h.next hm hok hfj⟩
end
theorem ks_new {w0 w : World} {A : Option Addr} {c N : Nat} {xs : List Int} (hN : xs.length ≤ N) (hN' : N ≤ 4194304) (hr : SrcIs w A xs) (hF : FormsIn w) (hO : OpsIn w) (hb : Below w0.heap.size w0 w) (h2 : 1 < w0.heap.size) :
    Calls Tryd.prog 8 #[.slice A xs.length c, .int .i64 N] w fun e w' => e = .returned (.tuple #[.pointer (some ⟨w.heap.size + 1, 0, none⟩), .int .i64 0]) ∧ Ks w0 w' (w.heap.size + 1) w.heap.size (maNew xs N) := by
  refine (new_any hN hN' hr).mono ?_
  rintro e w' ⟨rfl, hm, hb2⟩
  have := hb.size
  exact ⟨rfl, hm, maNew_ok hr.1 hN hN', hF.keep hb2 (Nat.le_refl _), hO.below hb2, hb.trans (hb2.mono hb.size), by omega, by omega, by omega, h2⟩
namespace Pm
/-- At a place of a memory stands an instruction's word. -/
def DecAt (M : List Int) (a : Nat) (op : Int) (rd r1 r2 : Nat) (n : Int) : Prop :=
  hasB a 4 M.length = true ∧ op ≠ 0 ∧ findOp (getV M a 4) = op ∧ (dRd (kOf (getV M a 4)) (getV M a 4)).toNat = rd ∧ (dR1 (kOf (getV M a 4)) (getV M a 4)).toNat = r1 ∧ (dR2 (kOf (getV M a 4)) (getV M a 4)).toNat = r2 ∧ dI (kOf (getV M a 4)) (getV M a 4) = n
theorem stepV_dec {m : Ma} {R : Ru} {a : Nat} {op n : Int} {rd r1 r2 : Nat} (hpl : m.pl = a) (h : DecAt m.mem a op rd r1 r2 n) : stepV m R = doV m R op rd r1 r2 n := by
  obtain ⟨h1, h0, h2, h3, h4, h5, h6⟩ := h
  have hw : wordAt m = getV m.mem a 4 := by unfold wordAt; rw [hpl]; rfl
  unfold stepV
  rw [hw, h2, h3, h4, h5, h6, if_pos ⟨by rw [hpl]; exact h1, h0⟩]
theorem runV_one {m : Ma} {R : Ru} {x : Ma × Ru} (h0 : m.st = 0) (h : stepV m R = some x) : runV 1 m R = (x.1, { x.2 with steps := x.2.steps + 1 }) := by
  rw [runV, if_pos h0, h]
  rfl
end Pm
end Go.Proofs.YtoehfncgkkfdeaaDoor
/- From what the rows of layer 3 list of the two tables to their cells; the door's own heap meets that. No condition. -/
namespace Go.Proofs.YtoehfncgkkfdeaaDoor
open Go.ChangeShapes Go.WideShapes Go.ChangeAt Go.WideMaps Go.WideElems Go.RowKit
set_option linter.unusedVariables false
set_option linter.unusedSimpArgs false
open Pm
theorem gOps : Tryd.prog.globalNamed "hauberk/mach.operations" = some 0 := by kernel_rfl
theorem tOps : (Tryd.prog.globals[0]?).map (·.type) = some 99 := by kernel_rfl
theorem keyOps : Tryd.prog.keyTypeAt 10 99 = true := by kernel_rfl
theorem tiledOps : Tryd.prog.tiled 10 99 = true := by kernel_rfl
def opsCells : List Value := ((List.range 38).map fun o : Nat => Value.int .i64 (if o < 28 then 0 else opTab (o : Int)))
theorem flatOps {H : Type} : (Rows.laid_hauberk_mach_operations (H := H)).flat.map Lit.toCell = opsCells := by kernel_rfl
abbrev laidM {H : Type} : List (String × DataW H) := [("hauberk/code.forms", Rows.laid_hauberk_code_forms), ("hauberk/mach.operations", Rows.laid_hauberk_mach_operations)]
theorem both_of_laid {W : World} (h : laidMetH Tryd.prog laidM W) : FormsIn W ∧ OpsIn W := by
  rw [MakeChecks.laidMetH_plain _ _ _ (by kernel_rfl)] at h
  obtain ⟨ps, ⟨g0, t0, cs0, f0, p0, q0, hg0, ht0, hv0, hd0, rest⟩, hr⟩ := h
  obtain ⟨⟨g1, t1, cs1, f1, p1, q1, hg1, ht1, hv1, hd1, _⟩, _⟩ := rest
  refine ⟨?_, ?_⟩
  · obtain rfl := Option.some.inj (gForms.symm.trans hg0)
    obtain rfl := Option.some.inj (tForms.symm.trans ht0)
    have k := (keyLits_of_trod 10 _ keyForms _ _ _ hd0).1
    have c := cells_of_lits 10 _ tiledForms _ _ _ k
    have e : cs0.toList = formCells := c.trans flatForms
    have hc : ∀ j, W.cell? ⟨1, j, none⟩ = formCells[j]? := fun j => by
      have := World.var?_cell hg0 hv0 j
      rw [← e]
      simpa using this
    refine ⟨?_, fun j v hv => by rw [Nat.zero_add, hc]; exact hv⟩
    have h0 : W.cell? ⟨1, 0, none⟩ = some (.bool true) := (hc 0).trans rfl
    exact World.block_lt_of_cell? W _ h0
  · obtain rfl := Option.some.inj (gOps.symm.trans hg1)
    obtain rfl := Option.some.inj (tOps.symm.trans ht1)
    have k := (keyLits_of_trod 10 _ keyOps _ _ _ hd1).1
    have c := cells_of_lits 10 _ tiledOps _ _ _ k
    have e : cs1.toList = opsCells := c.trans flatOps
    intro o h1 h2
    have := World.var?_cell hg1 hv1 o
    rw [this, ← Array.getElem?_toList, e]
    unfold opsCells
    rw [List.getElem?_map, List.getElem?_range (by omega)]
    simp [show ¬ o < 28 by omega]
theorem door_met2 (os : Os) (args : Array Value) : laidMetH Tryd.prog laidM ((World.doorLaid Tryd.prog 46 os).forCall (fun _ _ => 0) ⟨#[], args, []⟩).memory :=
  laidMetH_of_parts3 (fuel := 8) (laidMet_of_run' 8 (by kernel_rfl) (by kernel_rfl)) (by kernel_rfl) (by kernel_rfl)
end Go.Proofs.YtoehfncgkkfdeaaDoor
