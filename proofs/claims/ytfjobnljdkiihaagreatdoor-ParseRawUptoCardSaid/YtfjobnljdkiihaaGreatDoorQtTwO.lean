/- Tree: the text that tells a program. Conditions: each theorem's. -/
import Derived.Test.YtfjobnljdkiihaaGreatDoorQtTwM
import Derived.Test.YtfjobnljdkiihaaGreatDoorQtTwC
namespace Go.Proofs.YtfjobnljdkiihaaGreatDoor
open Go.RowKit Go.Maps
set_option linter.unusedVariables false
set_option linter.unusedSimpArgs false
set_option maxRecDepth 100000
open Lx Pa Go.Lib Qi
theorem tk_flat {α : Type} {f : α → List UInt8} {l : List α} {j : Nat} {x : α} (h : l[j]? = some x) : (l.take (j + 1)).flatMap f = (l.take j).flatMap f ++ f x := by rw [List.take_add_one, h, List.flatMap_append]; simp
theorem tk_le {α : Type} (f : α → List UInt8) (l : List α) (j : Nat) : ((l.take j).flatMap f).length ≤ (l.flatMap f).length := by
 have := congrArg List.length (congrArg (List.flatMap f) (List.take_append_drop j l))
 rw [List.flatMap_append, List.length_append] at this
 omega
theorem lat_len {α : Type} {E : Elem α} {w : World} {S : Nat → Prop} {l : List α} {v : Value} (h : LAt E w S l v) : (l.length : Int) ≤ 9223372036854775807 := by
 obtain ⟨_, _, ⟨_, _, e, h1, h2, _⟩, _⟩ := h
 unfold maxLen at h2
 omega
theorem lineP_eq (T : PrintTabs) (n m k : Nat) : lineT [⟨#[112, 114, 111, 103, 114, 97, 109]⟩, numT n, numT m, numT k] = [112, 114, 111, 103, 114, 97, 109] ++ 32 :: (itoa n ++ 32 :: (itoa m ++ 32 :: (itoa k ++ [10]))) := by
 unfold lineT numT
 simp [Lib.join]
theorem lineSr_eq (T : PrintTabs) (s : PSr) : lineT [⟨#[115, 116, 114, 117, 99, 116]⟩, quoZ T s.nm, numT s.fds.length] ++ s.fds.flatMap (fdT T) = srT T s := by
 unfold lineT srT numT
 rw [quoZ_qt]
 simp [Lib.join]
theorem lineFd_eq (T : PrintTabs) (f : PFd) : lineT [⟨#[102, 105, 101, 108, 100]⟩, quoZ T f.nm, typZ T f.ty.ba f.ty.st f.ty.rc] = fdT T f := by
 unfold lineT fdT
 rw [quoZ_qt, typZ_eq]
 simp [Lib.join]
theorem lineVa_eq (T : PrintTabs) (v : PVa) : lineT [⟨#[118, 97, 114]⟩, varZ T v.nm v.ty.ba v.ty.st v.ty.rc v.ln] = vaT T v := by
 unfold lineT vaT
 rw [varZ_eq]
 simp [Lib.join]
theorem treeT_eq (T : PrintTabs) (p : PPr) : treeT T p = lineT [⟨#[112, 114, 111, 103, 114, 97, 109]⟩, numT p.ss.length, numT p.vs.length, numT p.fs.length] ++ (p.ss.flatMap (srT T) ++ (p.vs.flatMap (vaT T) ++ p.fs.flatMap (fnT T))) := by
 rw [lineP_eq T]
 unfold treeT
 simp
def fP (p : PPr) : Prop := (∀ s ∈ p.ss, s.nm.size ≤ 1048576 ∧ ∀ f ∈ s.fds, f.nm.size ≤ 1048576 ∧ f.ty.rc.size ≤ 1048576 ∧ fitI f.ty.ba ∧ fitI f.ty.st) ∧ (∀ v ∈ p.vs, fV v) ∧ ∀ f ∈ p.fs, fF f
set_option maxHeartbeats 16000000 in
theorem program_any (T : PrintTabs) (B b : Nat) (p : PPr) (vs vv vf : Value) (X : List UInt8) (w0 : World) (h0 : Wr T B b X w0) (hs0 : LAt srE w0 (Bl B) p.ss vs) (hv0 : LAt vaE w0 (Bl B) p.vs vv) (hf0 : LAt fnA w0 (Bl B) p.fs vf) (hf : fP p) (hlen : X.length + (treeT T p).length ≤ 1000000000000) :
  Calls Tryz.prog 16 #[.pointer (some ⟨b, 0, none⟩), .agg #[vs, vv, vf]] w0 fun e w' => e = .returned (.tuple #[]) ∧ Wr T B b (X ++ treeT T p) w' ∧ Below B w0 w' ∧ Tq b w0 w' := by
 obtain ⟨A1, q1, rfl⟩ := hs0.slice
 obtain ⟨A2, q2, rfl⟩ := hv0.slice
 obtain ⟨A3, q3, rfl⟩ := hf0.slice
 obtain ⟨w, hw, hb0, hpc, hpl⟩ : ∃ w, w0.alloc (.cells #[.slice A1 p.ss.length q1, .slice A2 p.vs.length q2, .slice A3 p.fs.length q3] 27) = w ∧ Below w0.heap.size w0 w ∧ w.heap[w0.heap.size]? = some (.cells #[.slice A1 p.ss.length q1, .slice A2 p.vs.length q2, .slice A3 p.fs.length q3] 27) ∧ w0.heap.size < w.heap.size := ⟨_, rfl, (Below.refl _ _).alloc (Nat.le_refl _) _, heap_new w0 _, by simp⟩
 have hW := h0.below hb0
 have HBZ := Lib.hid hb0
 have hnp : w0.heap.size ≠ b := by have := h0.lt; omega
 have hx1 := hs0.keep (bl_keep (hb0.mono h0.bw)) hb0.size
 have hx2 := hv0.keep (bl_keep (hb0.mono h0.bw)) hb0.size
 have hx3 := hf0.keep (bl_keep (hb0.mono h0.bw)) hb0.size
 rw [treeT_eq] at hlen ⊢
 have hBw := hW.bw
 have l1 := lat_len hx1
 have l2 := lat_len hx2
 have l3 := lat_len hx3
 generalize hpbd : w0.heap.size = pb at hpc hpl hnp ⊢
 have hTb : ∀ V, Below w.heap.size w V → Tb T B V := fun V hV => hW.tb.keep (hV.mono hBw)
 have C1 : ∀ V, Below w.heap.size w V → Calls Tryz.prog 26 #[.slice A1 p.ss.length q1] V fun e w' => e = .returned (.string (numT p.ss.length)) ∧ Below V.heap.size V w' := fun V hV => (count_Struct A1 p.ss.length q1 (by omega) V (hTb V hV).get.1).mono fun e w' h => ⟨h.1, below_gr h.2⟩
 have C2 : ∀ V, Below w.heap.size w V → Calls Tryz.prog 27 #[.slice A2 p.vs.length q2] V fun e w' => e = .returned (.string (numT p.vs.length)) ∧ Below V.heap.size V w' := fun V hV => (count_Var A2 p.vs.length q2 (by omega) V (hTb V hV).get.1).mono fun e w' h => ⟨h.1, below_gr h.2⟩
 have C3 : ∀ V, Below w.heap.size w V → Calls Tryz.prog 28 #[.slice A3 p.fs.length q3] V fun e w' => e = .returned (.string (numT p.fs.length)) ∧ Below V.heap.size V w' := fun V hV => (count_Func A3 p.fs.length q3 (by omega) V (hTb V hV).get.1).mono fun e w' h => ⟨h.1, below_gr h.2⟩
 have hlen2 : X.length + (lineT [⟨#[112, 114, 111, 103, 114, 97, 109]⟩, numT p.ss.length, numT p.vs.length, numT p.fs.length]).length + (p.ss.flatMap (srT T)).length + (p.vs.flatMap (vaT T)).length + (p.fs.flatMap (fnT T)).length ≤ 1000000000000 := by
  simp only [List.length_append] at hlen
  omega
 clear hlen
 generalize numT p.ss.length = N1 at *
 generalize numT p.vs.length = N2 at *
 generalize numT p.fs.length = N3 at *
 have CL : ∀ (V V' : World), Below w.heap.size w V' → V'.heap[V.heap.size]? = some (.cells #[.string ⟨#[112, 114, 111, 103, 114, 97, 109]⟩, .string N1, .string N2, .string N3] 9) → Calls Tryz.prog 25 #[.pointer (some ⟨b, 0, none⟩), .slice (some ⟨V.heap.size, 0, none⟩) 4 4] V' fun e w' => e = .returned (.tuple #[]) ∧ Wr T B b (X ++ lineT [⟨#[112, 114, 111, 103, 114, 97, 109]⟩, N1, N2, N3]) w' ∧ Below B V' w' ∧ Tq b V' w' := fun V V' hV hc => by
  have hWV := hW.below hV
  refine (show Calls _ _ _ _ _ from tline_any B b V.heap.size 0 4 [⟨#[112, 114, 111, 103, 114, 97, 109]⟩, N1, N2, N3] (X) V' hWV.bl (fun j x hj => ?_) (Array.getElem?_eq_some_iff.1 hc).1 (by simp) (by simp) (by first | omega | (simp only [List.length_append] at *; omega)) hWV.bw).mono ?_
  ·rw [Nat.zero_add, cell_of_row _ _ _ _ _ _ hc]
   have := List.getElem?_map (f := Value.string) (l := [(⟨#[112, 114, 111, 103, 114, 97, 109]⟩ : ByteArray), N1, N2, N3]) (i := j)
   rw [hj] at this
   simpa using this
  ·rintro e w' ⟨rfl, h1, h2, h3⟩
   exact ⟨rfl, ⟨h1, hWV.tb.keep h2, Nat.le_trans hWV.bw h2.size⟩, h2, h3⟩
 generalize lineT [⟨#[112, 114, 111, 103, 114, 97, 109]⟩, N1, N2, N3] = L at *
 have HW := Lib.hid hW
 have HD := Lib.hid hw
 have HN := Lib.hid hpbd
 have HLN := Lib.hid hlen2
 have C1 := Lib.hid C1
 have C2 := Lib.hid C2
 have C3 := Lib.hid C3
 have CL := Lib.hid CL
 clear hW hTb hw hpbd hb0 hlen2 hs0 hv0 hf0
 go_enter Tryz.func16, Tryz.ntmps16
 go_wp2
 rw [HD.out, HN.out]
 refine wp_region_held_drew (S := fun W : World => Below B w W ∧ W.heap[pb]? = some (.cells #[.slice A1 p.ss.length q1, .slice A2 p.vs.length q2, .slice A3 p.fs.length q3] 27)) (by kernel_rfl) ⟨(Below.refl _ _).drew, hpc⟩ (fun hHeld => ?_)
 have HV0 : Below w.heap.size w w.drew := (Below.refl _ _).drew
 refine wpAnyH_take (i := 0) (oi := ⟨some 11, .move (.tmp 0), 90, "writer.go:20", #[], none⟩) (v := .pointer (some ⟨b, 0, none⟩)) rfl (by kernel_rfl) (by kernel_rfl) (by kernel_rfl) (fun _ _ _ h => h) (Or.inl ⟨by rfl, ?hy1⟩) (by assumption) ?_
 case hy1 => ((intro W hSW; obtain ⟨s0, s1⟩ := hSW; go_simp); (try with_reducible rfl); (try exact ⟨rfl, rfl, rfl⟩))
 simp only [Act.put, sZa, sZb, sZc]
 refine wpAnyH_take (i := 1) (oi := ⟨some 12, .fieldAddr 27 (.tmp 3) 0, 0, "writer.go:20", #[], none⟩) (v := .pointer (some ⟨pb, 0, none⟩)) rfl (by kernel_rfl) (by kernel_rfl) (by kernel_rfl) (fun _ _ _ h => h) (Or.inl ⟨by rfl, ?hy2⟩) (by assumption) ?_
 case hy2 => ((intro W hSW; obtain ⟨s0, s1⟩ := hSW; go_simp); (try with_reducible rfl); (try exact ⟨rfl, rfl, rfl⟩))
 simp only [Act.put, sZa, sZb, sZc]
 refine wpAnyH_take (i := 2) (oi := ⟨some 13, .load 23 (.tmp 12), 23, "writer.go:20", #[⟨1, .data⟩], none⟩) (v := .slice A1 p.ss.length q1) rfl (by kernel_rfl) (by kernel_rfl) (by kernel_rfl) (fun _ _ _ h => h) (Or.inl ⟨by rfl, ?hy3⟩) (by assumption) ?_
 case hy3 => ((intro W hSW; obtain ⟨s0, s1⟩ := hSW; have e0 : W.cell? ⟨pb, 0, none⟩ = _ := cell_of_row _ _ _ _ _ _ s1; go_simp); (try with_reducible rfl); (try exact ⟨rfl, rfl, rfl⟩))
 simp only [Act.put, sZa, sZb, sZc]
 refine wpAnyH_take (i := 4) (oi := ⟨some 15, .fieldAddr 27 (.tmp 3) 1, 0, "writer.go:20", #[], none⟩) (v := .pointer (some ⟨pb, 1, none⟩)) rfl (by kernel_rfl) (by kernel_rfl) (by kernel_rfl) (fun _ _ _ h => h) (Or.inl ⟨by rfl, ?hy4⟩) (by assumption) ?_
 case hy4 => ((intro W hSW; obtain ⟨s0, s1⟩ := hSW; go_simp); (try with_reducible rfl); (try exact ⟨rfl, rfl, rfl⟩))
 simp only [Act.put, sZa, sZb, sZc]
 refine wpAnyH_take (i := 5) (oi := ⟨some 16, .load 24 (.tmp 15), 24, "writer.go:20", #[⟨4, .data⟩], none⟩) (v := .slice A2 p.vs.length q2) rfl (by kernel_rfl) (by kernel_rfl) (by kernel_rfl) (fun _ _ _ h => h) (Or.inl ⟨by rfl, ?hy5⟩) (by assumption) ?_
 case hy5 => ((intro W hSW; obtain ⟨s0, s1⟩ := hSW; have e1 : W.cell? ⟨pb, 1, none⟩ = _ := cell_of_row _ _ _ _ _ _ s1; go_simp); (try with_reducible rfl); (try exact ⟨rfl, rfl, rfl⟩))
 simp only [Act.put, sZa, sZb, sZc]
 refine wpAnyH_take (i := 7) (oi := ⟨some 18, .fieldAddr 27 (.tmp 3) 2, 0, "writer.go:20", #[], none⟩) (v := .pointer (some ⟨pb, 2, none⟩)) rfl (by kernel_rfl) (by kernel_rfl) (by kernel_rfl) (fun _ _ _ h => h) (Or.inl ⟨by rfl, ?hy6⟩) (by assumption) ?_
 case hy6 => ((intro W hSW; obtain ⟨s0, s1⟩ := hSW; go_simp); (try with_reducible rfl); (try exact ⟨rfl, rfl, rfl⟩))
 simp only [Act.put, sZa, sZb, sZc]
 refine wpAnyH_take (i := 8) (oi := ⟨some 19, .load 25 (.tmp 18), 25, "writer.go:20", #[⟨7, .data⟩], none⟩) (v := .slice A3 p.fs.length q3) rfl (by kernel_rfl) (by kernel_rfl) (by kernel_rfl) (fun _ _ _ h => h) (Or.inl ⟨by rfl, ?hy7⟩) (by assumption) ?_
 case hy7 => ((intro W hSW; obtain ⟨s0, s1⟩ := hSW; have e2 : W.cell? ⟨pb, 2, none⟩ = _ := cell_of_row _ _ _ _ _ _ s1; go_simp); (try with_reducible rfl); (try exact ⟨rfl, rfl, rfl⟩))
 simp only [Act.put, sZa, sZb, sZc]
 refine wpAnyH_ready (rs := [3]) (by kernel_rfl) (by simp) ?_
 refine (AllReadyH.cons (i := 3) (o := ⟨some 14, .call { callee := .value (.func 26), args := #[.tmp 13], argTypes := #[23] }, 9, "writer.go:20", #[⟨2, .data⟩], none⟩) rfl (fun K hK => ?_) AllReadyH.nil)
 rw [if_pos (by rfl)]
 go_simp
 refine (C1.out _ HV0).mono ?_
 rintro e V1 ⟨rfl, hb⟩
 have HV1 := HV0.trans (hb.mono HV0.size)
 clear hb
 go_simp
 refine hK.out _ _ (⟨HV1.mono hBw, (HV1.block pb hpl).trans hpc⟩) (fun hHeld => ?_)
 clear hK K
 try simp only [Act.put, sZa, sZb, sZc]
 refine wpAnyH_ready (rs := [6]) (by kernel_rfl) (by simp) ?_
 refine (AllReadyH.cons (i := 6) (o := ⟨some 17, .call { callee := .value (.func 27), args := #[.tmp 16], argTypes := #[24] }, 9, "writer.go:20", #[⟨5, .data⟩, ⟨3, .chain⟩], none⟩) rfl (fun K hK => ?_) AllReadyH.nil)
 rw [if_pos (by rfl)]
 go_simp
 refine (C2.out _ HV1).mono ?_
 rintro e V2 ⟨rfl, hb⟩
 have HV2 := HV1.trans (hb.mono HV1.size)
 clear HV1 hb
 go_simp
 refine hK.out _ _ (⟨HV2.mono hBw, (HV2.block pb hpl).trans hpc⟩) (fun hHeld => ?_)
 clear hK K
 try simp only [Act.put, sZa, sZb, sZc]
 refine wpAnyH_ready (rs := [9]) (by kernel_rfl) (by simp) ?_
 refine (AllReadyH.cons (i := 9) (o := ⟨some 20, .call { callee := .value (.func 28), args := #[.tmp 19], argTypes := #[25] }, 9, "writer.go:20", #[⟨8, .data⟩, ⟨6, .chain⟩], none⟩) rfl (fun K hK => ?_) AllReadyH.nil)
 rw [if_pos (by rfl)]
 go_simp
 refine (C3.out _ HV2).mono ?_
 rintro e V3 ⟨rfl, hb⟩
 have HV3 := HV2.trans (hb.mono HV2.size)
 clear HV2 hb
 go_simp
 refine hK.out _ _ (⟨HV3.mono hBw, (HV3.block pb hpl).trans hpc⟩) (fun hHeld => ?_)
 clear hK K
 try simp only [Act.put, sZa, sZb, sZc]
 refine wpAnyH_ready (rs := [10]) (by kernel_rfl) (by simp) ?_
 refine (AllReadyH.cons (i := 10) (o := ⟨some 21, .buildSlice 111 4 #[(0, .const (Go.Value.string { data := #[112, 114, 111, 103, 114, 97, 109] })), (1, .tmp 14), (2, .tmp 17), (3, .tmp 20)], 111, "writer.go:20", #[⟨3, .data⟩, ⟨6, .data⟩, ⟨9, .data⟩], none⟩) rfl (fun K hK => ?_) AllReadyH.nil)
 rw [if_pos (by rfl)]
 go_simp
 have HC := Lib.hid (heap_new V3 (.cells #[.string ⟨#[112, 114, 111, 103, 114, 97, 109]⟩, .string N1, .string N2, .string N3] 9))
 have HV4 : Below w.heap.size w (V3.alloc (.cells #[.string ⟨#[112, 114, 111, 103, 114, 97, 109]⟩, .string N1, .string N2, .string N3] 9)) := HV3.alloc HV3.size _
 refine hK.out _ _ (⟨HV4.mono hBw, (HV4.block pb hpl).trans hpc⟩) (fun hHeld => ?_)
 clear hK K
 try simp only [Act.put, sZa, sZb, sZc]
 refine wpAnyH_ready (rs := [11]) (by kernel_rfl) (by simp) ?_
 refine (AllReadyH.cons (i := 11) (o := ⟨some 22, .call { callee := .value (.func 25), args := #[.tmp 11, .tmp 21], argTypes := #[90, 111] }, 0, "writer.go:20", #[⟨0, .data⟩, ⟨10, .data⟩, ⟨9, .chain⟩], none⟩) rfl (fun K hK => ?_) AllReadyH.nil)
 rw [if_pos (by rfl)]
 go_simp
 refine (CL.out _ _ HV4 HC.out).mono ?_
 rintro e W9 ⟨rfl, hW9, hb9, tq9⟩
 go_simp
 refine hK.out _ _ (⟨hHeld.1.trans hb9, tq9.block pb _ hHeld.2 hnp (fun c z e => by injection e with _ e _; revert e; decide)⟩) (fun hHeld => ?_)
 clear hK K
 try simp only [Act.put, sZa, sZb, sZc]
 refine wpAnyH_done (by kernel_rfl) ?_ _
 have HH := Lib.hid hHeld
 have TQ9 := Lib.hid ((Tq.of_below HV4).trans tq9)
 clear hHeld tq9
 have es : W9.cell? ⟨pb, 0, none⟩ = some (.slice A1 p.ss.length q1) := cell_of_row _ _ _ _ _ _ HH.out.2
 have hk9 := hx1.keep (bl_keep HH.out.1) HH.out.1.size
 go_wp2
 go_loopw [26] (fun i wr => ∃ j : Nat, j ≤ p.ss.length ∧ i = .int .i64 j ∧ Hid (Wr T B b (X ++ L ++ (p.ss.take j).flatMap (srT T)) wr ∧ Below B W9 wr ∧ Tq b W9 wr)) (fun i _ => p.ss.length - (RowKit.intOf i).toNat)
 case atStart => exact ⟨0, Nat.zero_le _, rfl, Lib.hid ⟨by simpa using hW9, Below.refl _ _, Tq.refl _ _⟩⟩
 case round =>
  obtain ⟨j, hj, rfl, hR⟩ := hrel
  by_cases hlt : j < p.ss.length
  ·have hkr := hk9.keep (bl_keep hR.out.2.1) hR.out.2.1.size
   have hjx : p.ss[j]? = some p.ss[j] := List.getElem?_eq_getElem hlt
   have htk := tk_flat (f := srT T) hjx
   have hle := tk_le (srT T) p.ss (j + 1)
   obtain ⟨gk, ok, cap', cs, e, -, -, hgB, hgl, ⟨fv, hkf, hcs⟩, hcell⟩ := hkr.get j hjx
   injection e with e1 e3 e2
   subst e1
   subst e2
   obtain ⟨fs1, fs2⟩ := hf.1 _ (List.getElem_mem hlt)
   generalize p.ss[j] = s at *
   subst hcs
   obtain ⟨fA, fc, rfl⟩ := hkf.slice
   have ez : srE.z = 3 := rfl
   rw [ez] at hcell
   have q0 : wr.cell? ⟨gk, ok + j * 3, none⟩ = some (.string s.nm) := hcell 0 _ rfl
   have q1' : wr.cell? ⟨gk, ok + j * 3 + 1, none⟩ = some (.slice fA s.fds.length fc) := by rw [Nat.add_assoc]; exact hcell 1 _ rfl
   have q2' : wr.cell? ⟨gk, ok + j * 3 + 2, none⟩ = some (.int .i64 (s.at_ : Int)) := by rw [Nat.add_assoc]; exact hcell 2 _ rfl
   have hj1 : (j : Int) < (p.ss.length : Int) := by omega
   have hj0 : (0 : Int) ≤ (j : Int) := by omega
   have hfl0 : (s.fds.length : Int) ≤ 9223372036854775807 := lat_len hkf
   clear hkr hjx hcell
   go_wp2
   obtain ⟨Wv, hWvd, HBv, hsc, hsl⟩ : ∃ Wv, wr.alloc (.cells #[.string s.nm, .slice fA s.fds.length fc, .int .i64 (s.at_ : Int)] 75) = Wv ∧ Hid (Below wr.heap.size wr Wv) ∧ Wv.heap[wr.heap.size]? = some (.cells #[.string s.nm, .slice fA s.fds.length fc, .int .i64 (s.at_ : Int)] 75) ∧ wr.heap.size < Wv.heap.size := ⟨_, rfl, Lib.hid ((Below.refl _ _).alloc (Nat.le_refl _) _), heap_new wr _, by simp⟩
   rw [hWvd]
   clear hWvd q0 q1' q2'
   have hWv := hR.out.1.below HBv.out
   have hsb : wr.heap.size ≠ b := by have := hR.out.1.lt; omega
   have HBv0 := HBv
   obtain ⟨Wr0, hWr0⟩ : ∃ Wr0, Wr0 = wr := ⟨_, rfl⟩
   subst hWr0
   generalize hsbd : Wr0.heap.size = sb at HBv hsc hsl hsb ⊢
   have D1 : ∀ V, Below Wv.heap.size Wv V → Calls Tryz.prog 29 #[.string s.nm] V fun e w' => e = .returned (.string (quoZ T s.nm)) ∧ Below V.heap.size V w' := fun V hV => quo_any s.nm fs1 V (hWv.tb.keep (hV.mono hWv.bw))
   have D2 : ∀ V, Below Wv.heap.size Wv V → Calls Tryz.prog 30 #[.slice fA s.fds.length fc] V fun e w' => e = .returned (.string (numT s.fds.length)) ∧ Below V.heap.size V w' := fun V hV => (count_Field fA s.fds.length fc (by omega) V (hWv.tb.keep (hV.mono hWv.bw)).get.1).mono fun e w' h => ⟨h.1, below_gr h.2⟩
   have hP := lineSr_eq T s
   rw [← hP] at htk
   have hlB2 : X.length + L.length + ((p.ss.take j).flatMap (srT T)).length + (lineT [⟨#[115, 116, 114, 117, 99, 116]⟩, quoZ T s.nm, numT s.fds.length]).length + (s.fds.flatMap (fdT T)).length ≤ 1000000000000 := by
    rw [htk, List.length_append, List.length_append] at hle
    have := HLN.out
    omega
   clear hP hle
   generalize quoZ T s.nm = M1 at *
   generalize numT s.fds.length = M2 at *
   have CL5 : ∀ (V V' : World), Below Wv.heap.size Wv V' → V'.heap[V.heap.size]? = some (.cells #[.string ⟨#[115, 116, 114, 117, 99, 116]⟩, .string M1, .string M2] 9) → Calls Tryz.prog 25 #[.pointer (some ⟨b, 0, none⟩), .slice (some ⟨V.heap.size, 0, none⟩) 3 3] V' fun e w' => e = .returned (.tuple #[]) ∧ Wr T B b (X ++ L ++ (p.ss.take j).flatMap (srT T) ++ lineT [⟨#[115, 116, 114, 117, 99, 116]⟩, M1, M2]) w' ∧ Below B V' w' ∧ Tq b V' w' := fun V V' hV hc => by
    have hWV := hWv.below hV
    refine (show Calls _ _ _ _ _ from tline_any B b V.heap.size 0 3 [⟨#[115, 116, 114, 117, 99, 116]⟩, M1, M2] (X ++ L ++ (p.ss.take j).flatMap (srT T)) V' hWV.bl (fun j x hj => ?_) (Array.getElem?_eq_some_iff.1 hc).1 (by simp) (by simp) (by first | omega | (simp only [List.length_append] at *; omega)) hWV.bw).mono ?_
    ·rw [Nat.zero_add, cell_of_row _ _ _ _ _ _ hc]
     have := List.getElem?_map (f := Value.string) (l := [(⟨#[115, 116, 114, 117, 99, 116]⟩ : ByteArray), M1, M2]) (i := j)
     rw [hj] at this
     simpa using this
    ·rintro e w' ⟨rfl, h1, h2, h3⟩
     exact ⟨rfl, ⟨h1, hWV.tb.keep h2, Nat.le_trans hWV.bw h2.size⟩, h2, h3⟩
   have hML : Hid (lineT [⟨#[115, 116, 114, 117, 99, 116]⟩, M1, M2] = lineT [⟨#[115, 116, 114, 117, 99, 116]⟩, M1, M2]) := Lib.hid rfl
   generalize lineT [⟨#[115, 116, 114, 117, 99, 116]⟩, M1, M2] = M at CL5 htk hlB2
   have HLE := Lib.hid hlB2
   have HTK := Lib.hid htk
   have D1 := Lib.hid D1
   have D2 := Lib.hid D2
   have CL5 := Lib.hid CL5
   have hWv := Lib.hid hWv
   clear hlB2 htk hML
   refine wp_region_held_drew (S := fun W : World => Below B Wv W ∧ W.heap[sb]? = some (.cells #[.string s.nm, .slice fA s.fds.length fc, .int .i64 (s.at_ : Int)] 75)) (by kernel_rfl) ⟨(Below.refl _ _).drew, hsc⟩ (fun hHeld => ?_)
   have HU0 : Below Wv.heap.size Wv Wv.drew := (Below.refl _ _).drew
   refine wpAnyH_take (i := 0) (oi := ⟨some 30, .move (.tmp 0), 90, "writer.go:22", #[], none⟩) (v := .pointer (some ⟨b, 0, none⟩)) rfl (by kernel_rfl) (by kernel_rfl) (by kernel_rfl) (fun _ _ _ h => h) (Or.inl ⟨by rfl, ?hy1⟩) (by assumption) ?_
   case hy1 => ((intro W hSW; obtain ⟨s0, s1⟩ := hSW; go_simp); (try with_reducible rfl); (try exact ⟨rfl, rfl, rfl⟩))
   simp only [Act.put, sZa, sZb, sZc]
   refine wpAnyH_take (i := 1) (oi := ⟨some 31, .fieldAddr 75 (.tmp 5) 0, 0, "writer.go:22", #[], none⟩) (v := .pointer (some ⟨sb, 0, none⟩)) rfl (by kernel_rfl) (by kernel_rfl) (by kernel_rfl) (fun _ _ _ h => h) (Or.inl ⟨by rfl, ?hy2⟩) (by assumption) ?_
   case hy2 => ((intro W hSW; obtain ⟨s0, s1⟩ := hSW; go_simp); (try with_reducible rfl); (try exact ⟨rfl, rfl, rfl⟩))
   simp only [Act.put, sZa, sZb, sZc]
   refine wpAnyH_take (i := 2) (oi := ⟨some 32, .load 9 (.tmp 31), 9, "writer.go:22", #[⟨1, .data⟩], none⟩) (v := .string s.nm) rfl (by kernel_rfl) (by kernel_rfl) (by kernel_rfl) (fun _ _ _ h => h) (Or.inl ⟨by rfl, ?hy3⟩) (by assumption) ?_
   case hy3 => ((intro W hSW; obtain ⟨s0, s1⟩ := hSW; have e0 : W.cell? ⟨sb, 0, none⟩ = _ := cell_of_row _ _ _ _ _ _ s1; go_simp); (try with_reducible rfl); (try exact ⟨rfl, rfl, rfl⟩))
   simp only [Act.put, sZa, sZb, sZc]
   refine wpAnyH_take (i := 4) (oi := ⟨some 34, .fieldAddr 75 (.tmp 5) 1, 0, "writer.go:22", #[], none⟩) (v := .pointer (some ⟨sb, 1, none⟩)) rfl (by kernel_rfl) (by kernel_rfl) (by kernel_rfl) (fun _ _ _ h => h) (Or.inl ⟨by rfl, ?hy4⟩) (by assumption) ?_
   case hy4 => ((intro W hSW; obtain ⟨s0, s1⟩ := hSW; go_simp); (try with_reducible rfl); (try exact ⟨rfl, rfl, rfl⟩))
   simp only [Act.put, sZa, sZb, sZc]
   refine wpAnyH_take (i := 5) (oi := ⟨some 35, .load 73 (.tmp 34), 73, "writer.go:22", #[⟨4, .data⟩], none⟩) (v := .slice fA s.fds.length fc) rfl (by kernel_rfl) (by kernel_rfl) (by kernel_rfl) (fun _ _ _ h => h) (Or.inl ⟨by rfl, ?hy5⟩) (by assumption) ?_
   case hy5 => ((intro W hSW; obtain ⟨s0, s1⟩ := hSW; have e1 : W.cell? ⟨sb, 1, none⟩ = _ := cell_of_row _ _ _ _ _ _ s1; go_simp); (try with_reducible rfl); (try exact ⟨rfl, rfl, rfl⟩))
   simp only [Act.put, sZa, sZb, sZc]
   refine wpAnyH_ready (rs := [3]) (by kernel_rfl) (by simp) ?_
   refine (AllReadyH.cons (i := 3) (o := ⟨some 33, .call { callee := .value (.func 29), args := #[.tmp 32], argTypes := #[9] }, 9, "writer.go:22", #[⟨2, .data⟩], none⟩) rfl (fun K hK => ?_) AllReadyH.nil)
   rw [if_pos (by rfl)]
   go_simp
   refine (D1.out _ HU0).mono ?_
   rintro e U1 ⟨rfl, hb⟩
   have HU1 := HU0.trans (hb.mono HU0.size)
   clear hb
   go_simp
   refine hK.out _ _ (⟨HU1.mono hWv.out.bw, (HU1.block sb hsl).trans hsc⟩) (fun hHeld => ?_)
   clear hK K
   try simp only [Act.put, sZa, sZb, sZc]
   refine wpAnyH_ready (rs := [6]) (by kernel_rfl) (by simp) ?_
   refine (AllReadyH.cons (i := 6) (o := ⟨some 36, .call { callee := .value (.func 30), args := #[.tmp 35], argTypes := #[73] }, 9, "writer.go:22", #[⟨5, .data⟩, ⟨3, .chain⟩], none⟩) rfl (fun K hK => ?_) AllReadyH.nil)
   rw [if_pos (by rfl)]
   go_simp
   refine (D2.out _ HU1).mono ?_
   rintro e U2 ⟨rfl, hb⟩
   have HU2 := HU1.trans (hb.mono HU1.size)
   clear HU1 hb
   go_simp
   refine hK.out _ _ (⟨HU2.mono hWv.out.bw, (HU2.block sb hsl).trans hsc⟩) (fun hHeld => ?_)
   clear hK K
   try simp only [Act.put, sZa, sZb, sZc]
   refine wpAnyH_ready (rs := [7]) (by kernel_rfl) (by simp) ?_
   refine (AllReadyH.cons (i := 7) (o := ⟨some 37, .buildSlice 111 3 #[(0, .const (Go.Value.string { data := #[115, 116, 114, 117, 99, 116] })), (1, .tmp 33), (2, .tmp 36)], 111, "writer.go:22", #[⟨3, .data⟩, ⟨6, .data⟩], none⟩) rfl (fun K hK => ?_) AllReadyH.nil)
   rw [if_pos (by rfl)]
   go_simp
   have HC := Lib.hid (heap_new U2 (.cells #[.string ⟨#[115, 116, 114, 117, 99, 116]⟩, .string M1, .string M2] 9))
   have HU3 : Below Wv.heap.size Wv (U2.alloc (.cells #[.string ⟨#[115, 116, 114, 117, 99, 116]⟩, .string M1, .string M2] 9)) := HU2.alloc HU2.size _
   refine hK.out _ _ (⟨HU3.mono hWv.out.bw, (HU3.block sb hsl).trans hsc⟩) (fun hHeld => ?_)
   clear hK K
   try simp only [Act.put, sZa, sZb, sZc]
   refine wpAnyH_ready (rs := [8]) (by kernel_rfl) (by simp) ?_
   refine (AllReadyH.cons (i := 8) (o := ⟨some 38, .call { callee := .value (.func 25), args := #[.tmp 30, .tmp 37], argTypes := #[90, 111] }, 0, "writer.go:22", #[⟨0, .data⟩, ⟨7, .data⟩, ⟨6, .chain⟩], none⟩) rfl (fun K hK => ?_) AllReadyH.nil)
   rw [if_pos (by rfl)]
   go_simp
   refine (CL5.out _ _ HU3 HC.out).mono ?_
   rintro e W8 ⟨rfl, hW8, hb8, tq8⟩
   go_simp
   refine hK.out _ _ (⟨hHeld.1.trans hb8, tq8.block sb _ hHeld.2 hsb (fun c z e => by injection e with _ e _; revert e; decide)⟩) (fun hHeld => ?_)
   clear hK K
   try simp only [Act.put, sZa, sZb, sZc]
   refine wpAnyH_done (by kernel_rfl) ?_ _
   have HH8 := Lib.hid hHeld
   have TQ8 := Lib.hid ((Tq.of_below HU3).trans tq8)
   clear hHeld tq8
   have hkf8 := hkf.keep (bl_keep ((HBv0.out.mono hR.out.1.bw).trans HH8.out.1)) (Nat.le_trans HBv0.out.size HH8.out.1.size)
   have ef : W8.cell? ⟨sb, 1, none⟩ = some (.slice fA s.fds.length fc) := cell_of_row _ _ _ _ _ _ HH8.out.2
   go_wp2
   go_loopw [42] (fun i wr => ∃ k : Nat, k ≤ s.fds.length ∧ i = .int .i64 k ∧ Hid (Wr T B b (X ++ L ++ (p.ss.take j).flatMap (srT T) ++ M ++ (s.fds.take k).flatMap (fdT T)) wr ∧ Below B W8 wr ∧ Tq b W8 wr)) (fun i _ => s.fds.length - (RowKit.intOf i).toNat)
   case atStart => exact ⟨0, Nat.zero_le _, rfl, Lib.hid ⟨by simpa using hW8, Below.refl _ _, Tq.refl _ _⟩⟩
   case round =>
    obtain ⟨k, hk, rfl, hRf⟩ := hrel
    by_cases hltk : k < s.fds.length
    ·have hkr := hkf8.keep (bl_keep hRf.out.2.1) hRf.out.2.1.size
     have hjx : s.fds[k]? = some s.fds[k] := List.getElem?_eq_getElem hltk
     have htkf := tk_flat (f := fdT T) hjx
     have hlef := tk_le (fdT T) s.fds (k + 1)
     obtain ⟨gf, of, cap', cs, e, -, -, hgB, hgl, hcs, hcell⟩ := hkr.get k hjx
     injection e with e1 e3 e2
     subst e1
     subst e2
     obtain ⟨fv1, fv2, fv3, fv4⟩ := fs2 _ (List.getElem_mem hltk)
     generalize s.fds[k] = f at *
     subst hcs
     have ez : fdE.z = 5 := rfl
     rw [ez] at hcell
     have q0 : wr.cell? ⟨gf, of + k * 5, none⟩ = some (.string f.nm) := hcell 0 _ rfl
     have q1 : wr.cell? ⟨gf, of + k * 5 + 1, none⟩ = some (.int .i64 f.ty.ba) := by rw [Nat.add_assoc]; exact hcell 1 _ rfl
     have q2 : wr.cell? ⟨gf, of + k * 5 + 2, none⟩ = some (.int .i64 f.ty.st) := by rw [Nat.add_assoc]; exact hcell 2 _ rfl
     have q3 : wr.cell? ⟨gf, of + k * 5 + 3, none⟩ = some (.string f.ty.rc) := by rw [Nat.add_assoc]; exact hcell 3 _ rfl
     have q4 : wr.cell? ⟨gf, of + k * 5 + 4, none⟩ = some (.int .i64 (f.at_ : Int)) := by rw [Nat.add_assoc]; exact hcell 4 _ rfl
     have hj1 : (k : Int) < (s.fds.length : Int) := by omega
     have hj0 : (0 : Int) ≤ (k : Int) := by omega
     clear hkr hjx hcell
     go_wp2
     obtain ⟨Wf, hWfd, HBf, hfc, hfl⟩ : ∃ Wf, wr.alloc (.cells #[.string f.nm, .int .i64 f.ty.ba, .int .i64 f.ty.st, .string f.ty.rc, .int .i64 (f.at_ : Int)] 77) = Wf ∧ Hid (Below wr.heap.size wr Wf) ∧ Wf.heap[wr.heap.size]? = some (.cells #[.string f.nm, .int .i64 f.ty.ba, .int .i64 f.ty.st, .string f.ty.rc, .int .i64 (f.at_ : Int)] 77) ∧ wr.heap.size < Wf.heap.size := ⟨_, rfl, Lib.hid ((Below.refl _ _).alloc (Nat.le_refl _) _), heap_new wr _, by simp⟩
     rw [hWfd]
     clear hWfd q0 q1 q2 q3 q4
     have hWf := hRf.out.1.below HBf.out
     have hfb : wr.heap.size ≠ b := by have := hRf.out.1.lt; omega
     have HBf0 := HBf
     generalize hfbd : wr.heap.size = fb at HBf hfc hfl hfb ⊢
     have E1 : ∀ V, Below Wf.heap.size Wf V → Calls Tryz.prog 29 #[.string f.nm] V fun e w' => e = .returned (.string (quoZ T f.nm)) ∧ Below V.heap.size V w' := fun V hV => quo_any f.nm fv1 V (hWf.tb.keep (hV.mono hWf.bw))
     have E2 : ∀ V, Below Wf.heap.size Wf V → Calls Tryz.prog 31 #[.agg #[.int .i64 f.ty.ba, .int .i64 f.ty.st, .string f.ty.rc]] V fun e w' => e = .returned (.string (typZ T f.ty.ba f.ty.st f.ty.rc)) ∧ Below V.heap.size V w' := fun V hV => typeText_w f.ty.ba f.ty.st f.ty.rc fv3 fv4 fv2 V (hWf.tb.keep (hV.mono hWf.bw)) (Nat.le_trans hWf.bw hV.size)
     have hP := lineFd_eq T f
     rw [← hP] at htkf
     clear hP
     generalize quoZ T f.nm = K1 at *
     generalize typZ T f.ty.ba f.ty.st f.ty.rc = K2 at *
     have hlB2 : X.length + L.length + ((p.ss.take j).flatMap (srT T)).length + M.length + ((s.fds.take k).flatMap (fdT T)).length + (lineT [⟨#[102, 105, 101, 108, 100]⟩, K1, K2]).length ≤ 1000000000000 := by
      rw [htkf, List.length_append] at hlef
      have := HLE.out
      omega
     have CL9 : ∀ (V V' : World), Below Wf.heap.size Wf V' → V'.heap[V.heap.size]? = some (.cells #[.string ⟨#[102, 105, 101, 108, 100]⟩, .string K1, .string K2] 9) → Calls Tryz.prog 25 #[.pointer (some ⟨b, 0, none⟩), .slice (some ⟨V.heap.size, 0, none⟩) 3 3] V' fun e w' => e = .returned (.tuple #[]) ∧ Wr T B b (X ++ L ++ (p.ss.take j).flatMap (srT T) ++ M ++ (s.fds.take k).flatMap (fdT T) ++ lineT [⟨#[102, 105, 101, 108, 100]⟩, K1, K2]) w' ∧ Below B V' w' ∧ Tq b V' w' := fun V V' hV hc => by
      have hWV := hWf.below hV
      refine (show Calls _ _ _ _ _ from tline_any B b V.heap.size 0 3 [⟨#[102, 105, 101, 108, 100]⟩, K1, K2] (X ++ L ++ (p.ss.take j).flatMap (srT T) ++ M ++ (s.fds.take k).flatMap (fdT T)) V' hWV.bl (fun j x hj => ?_) (Array.getElem?_eq_some_iff.1 hc).1 (by simp) (by simp) (by first | omega | (simp only [List.length_append] at *; omega)) hWV.bw).mono ?_
      ·rw [Nat.zero_add, cell_of_row _ _ _ _ _ _ hc]
       have := List.getElem?_map (f := Value.string) (l := [(⟨#[102, 105, 101, 108, 100]⟩ : ByteArray), K1, K2]) (i := j)
       rw [hj] at this
       simpa using this
      ·rintro e w' ⟨rfl, h1, h2, h3⟩
       exact ⟨rfl, ⟨h1, hWV.tb.keep h2, Nat.le_trans hWV.bw h2.size⟩, h2, h3⟩
     have E1 := Lib.hid E1
     have E2 := Lib.hid E2
     have CL9 := Lib.hid CL9
     have hWf := Lib.hid hWf
     clear hlB2 hlef
     refine wp_region_held_drew (S := fun W : World => Below B Wf W ∧ W.heap[fb]? = some (.cells #[.string f.nm, .int .i64 f.ty.ba, .int .i64 f.ty.st, .string f.ty.rc, .int .i64 (f.at_ : Int)] 77)) (by kernel_rfl) ⟨(Below.refl _ _).drew, hfc⟩ (fun hHeld => ?_)
     have HF0 : Below Wf.heap.size Wf Wf.drew := (Below.refl _ _).drew
     refine wpAnyH_take (i := 0) (oi := ⟨some 46, .move (.tmp 0), 90, "writer.go:24", #[], none⟩) (v := .pointer (some ⟨b, 0, none⟩)) rfl (by kernel_rfl) (by kernel_rfl) (by kernel_rfl) (fun _ _ _ h => h) (Or.inl ⟨by rfl, ?hy1⟩) (by assumption) ?_
     case hy1 => ((intro W hSW; obtain ⟨s0, s1⟩ := hSW; go_simp); (try with_reducible rfl); (try exact ⟨rfl, rfl, rfl⟩))
     simp only [Act.put, sZa, sZb, sZc]
     refine wpAnyH_take (i := 1) (oi := ⟨some 47, .fieldAddr 77 (.tmp 7) 0, 0, "writer.go:24", #[], none⟩) (v := .pointer (some ⟨fb, 0, none⟩)) rfl (by kernel_rfl) (by kernel_rfl) (by kernel_rfl) (fun _ _ _ h => h) (Or.inl ⟨by rfl, ?hy2⟩) (by assumption) ?_
     case hy2 => ((intro W hSW; obtain ⟨s0, s1⟩ := hSW; go_simp); (try with_reducible rfl); (try exact ⟨rfl, rfl, rfl⟩))
     simp only [Act.put, sZa, sZb, sZc]
     refine wpAnyH_take (i := 2) (oi := ⟨some 48, .load 9 (.tmp 47), 9, "writer.go:24", #[⟨1, .data⟩], none⟩) (v := .string f.nm) rfl (by kernel_rfl) (by kernel_rfl) (by kernel_rfl) (fun _ _ _ h => h) (Or.inl ⟨by rfl, ?hy3⟩) (by assumption) ?_
     case hy3 => ((intro W hSW; obtain ⟨s0, s1⟩ := hSW; have e0 : W.cell? ⟨fb, 0, none⟩ = _ := cell_of_row _ _ _ _ _ _ s1; go_simp); (try with_reducible rfl); (try exact ⟨rfl, rfl, rfl⟩))
     simp only [Act.put, sZa, sZb, sZc]
     refine wpAnyH_take (i := 4) (oi := ⟨some 50, .fieldAddr 77 (.tmp 7) 1, 0, "writer.go:24", #[], none⟩) (v := .pointer (some ⟨fb, 1, none⟩)) rfl (by kernel_rfl) (by kernel_rfl) (by kernel_rfl) (fun _ _ _ h => h) (Or.inl ⟨by rfl, ?hy4⟩) (by assumption) ?_
     case hy4 => ((intro W hSW; obtain ⟨s0, s1⟩ := hSW; go_simp); (try with_reducible rfl); (try exact ⟨rfl, rfl, rfl⟩))
     simp only [Act.put, sZa, sZb, sZc]
     refine wpAnyH_take (i := 5) (oi := ⟨some 51, .load 37 (.tmp 50), 37, "writer.go:24", #[⟨4, .data⟩], none⟩) (v := .agg #[.int .i64 f.ty.ba, .int .i64 f.ty.st, .string f.ty.rc]) rfl (by kernel_rfl) (by kernel_rfl) (by kernel_rfl) (fun _ _ _ h => h) (Or.inl ⟨by rfl, ?hy5⟩) (by assumption) ?_
     case hy5 => ((intro W hSW; obtain ⟨s0, s1⟩ := hSW; have e1 : W.cell? ⟨fb, 1, none⟩ = _ := cell_of_row _ _ _ _ _ _ s1; have e2 : W.cell? ⟨fb, 2, none⟩ = _ := cell_of_row _ _ _ _ _ _ s1; have e3 : W.cell? ⟨fb, 3, none⟩ = _ := cell_of_row _ _ _ _ _ _ s1; go_simp); (try with_reducible rfl); (try exact ⟨rfl, rfl, rfl⟩))
     simp only [Act.put, sZa, sZb, sZc]
     refine wpAnyH_ready (rs := [3]) (by kernel_rfl) (by simp) ?_
     refine (AllReadyH.cons (i := 3) (o := ⟨some 49, .call { callee := .value (.func 29), args := #[.tmp 48], argTypes := #[9] }, 9, "writer.go:24", #[⟨2, .data⟩], none⟩) rfl (fun K hK => ?_) AllReadyH.nil)
     rw [if_pos (by rfl)]
     go_simp
     refine (E1.out _ HF0).mono ?_
     rintro e Y1 ⟨rfl, hb⟩
     have HF1 := HF0.trans (hb.mono HF0.size)
     clear hb
     go_simp
     refine hK.out _ _ (⟨HF1.mono hWf.out.bw, (HF1.block fb hfl).trans hfc⟩) (fun hHeld => ?_)
     clear hK K
     try simp only [Act.put, sZa, sZb, sZc]
     refine wpAnyH_ready (rs := [6]) (by kernel_rfl) (by simp) ?_
     refine (AllReadyH.cons (i := 6) (o := ⟨some 52, .call { callee := .value (.func 31), args := #[.tmp 51], argTypes := #[37] }, 9, "writer.go:24", #[⟨5, .data⟩, ⟨3, .chain⟩], none⟩) rfl (fun K hK => ?_) AllReadyH.nil)
     rw [if_pos (by rfl)]
     go_simp
     refine (E2.out _ HF1).mono ?_
     rintro e Y2 ⟨rfl, hb⟩
     have HF2 := HF1.trans (hb.mono HF1.size)
     clear HF1 hb
     go_simp
     refine hK.out _ _ (⟨HF2.mono hWf.out.bw, (HF2.block fb hfl).trans hfc⟩) (fun hHeld => ?_)
     clear hK K
     try simp only [Act.put, sZa, sZb, sZc]
     refine wpAnyH_ready (rs := [7]) (by kernel_rfl) (by simp) ?_
     refine (AllReadyH.cons (i := 7) (o := ⟨some 53, .buildSlice 111 3 #[(0, .const (Go.Value.string { data := #[102, 105, 101, 108, 100] })), (1, .tmp 49), (2, .tmp 52)], 111, "writer.go:24", #[⟨3, .data⟩, ⟨6, .data⟩], none⟩) rfl (fun K hK => ?_) AllReadyH.nil)
     rw [if_pos (by rfl)]
     go_simp
     have HC := Lib.hid (heap_new Y2 (.cells #[.string ⟨#[102, 105, 101, 108, 100]⟩, .string K1, .string K2] 9))
     have HF3 : Below Wf.heap.size Wf (Y2.alloc (.cells #[.string ⟨#[102, 105, 101, 108, 100]⟩, .string K1, .string K2] 9)) := HF2.alloc HF2.size _
     refine hK.out _ _ (⟨HF3.mono hWf.out.bw, (HF3.block fb hfl).trans hfc⟩) (fun hHeld => ?_)
     clear hK K
     try simp only [Act.put, sZa, sZb, sZc]
     refine wpAnyH_ready (rs := [8]) (by kernel_rfl) (by simp) ?_
     refine (AllReadyH.cons (i := 8) (o := ⟨some 54, .call { callee := .value (.func 25), args := #[.tmp 46, .tmp 53], argTypes := #[90, 111] }, 0, "writer.go:24", #[⟨0, .data⟩, ⟨7, .data⟩, ⟨6, .chain⟩], none⟩) rfl (fun K hK => ?_) AllReadyH.nil)
     rw [if_pos (by rfl)]
     go_simp
     refine (CL9.out _ _ HF3 HC.out).mono ?_
     rintro e W7 ⟨rfl, hW7, hb7, tq7⟩
     go_simp
     refine hK.out _ _ (⟨hHeld.1.trans hb7, tq7.block fb _ hHeld.2 hfb (fun c z e => by injection e with _ e _; revert e; decide)⟩) (fun hHeld => ?_)
     clear hK K
     try simp only [Act.put, sZa, sZb, sZc]
     refine wpAnyH_done (by kernel_rfl) ?_ _
     have HH7 := Lib.hid hHeld
     have TQ7 := Lib.hid ((Tq.of_below HF3).trans tq7)
     clear hHeld tq7
     have hn2 : IntKind.i64.wrap ((k : Int) + 1) = (k : Int) + 1 := IntWalk.i64_in _ (by omega)
     go_wp2
     go_roundw
     case rel => exact ⟨k + 1, hltk, by simp, Lib.hid ⟨by rw [htkf, ← List.append_assoc]; exact hW7, (hRf.out.2.1.trans (HBf0.out.mono hRf.out.1.bw)).trans HH7.out.1, (hRf.out.2.2.trans (Tq.of_below HBf0.out)).trans TQ7.out⟩⟩
     case measure => simp [RowKit.intOf]; omega
    ·obtain rfl : k = s.fds.length := by omega
     have hWr := hRf.out.1
     rw [List.take_length] at hWr
     have hn1 : IntKind.i64.wrap ((j : Int) + 1) = (j : Int) + 1 := IntWalk.i64_in _ (by omega)
     go_wp2
     go_roundw
     case rel => exact ⟨j + 1, hlt, by simp, Lib.hid ⟨by rw [HTK.out, ← List.append_assoc, ← List.append_assoc]; exact hWr, (hR.out.2.1.trans (HBv0.out.mono hR.out.1.bw)).trans (HH8.out.1.trans hRf.out.2.1), (hR.out.2.2.trans (Tq.of_below HBv0.out)).trans (TQ8.out.trans hRf.out.2.2)⟩⟩
     case measure => simp [RowKit.intOf]; omega
  ·obtain rfl : j = p.ss.length := by omega
   have hW2 := hR.out.1
   rw [List.take_length] at hW2
   have hp2 := hR.out.2.2.block pb _ HH.out.2 hnp (fun c z e => by injection e with _ e _; revert e; decide)
   have hk2 := hx2.keep (bl_keep (HH.out.1.trans hR.out.2.1)) (Nat.le_trans HH.out.1.size hR.out.2.1.size)
   have hkf3 := hx3.keep (bl_keep (HH.out.1.trans hR.out.2.1)) (Nat.le_trans HH.out.1.size hR.out.2.1.size)
   have HR1 := hR
   clear hR
   obtain ⟨W2, hW2d⟩ : ∃ W2, W2 = wr := ⟨_, rfl⟩
   subst hW2d
   have ev : W2.cell? ⟨pb, 1, none⟩ = some (.slice A2 p.vs.length q2) := cell_of_row _ _ _ _ _ _ hp2
   go_wp2
   go_loopw [60] (fun i wr => ∃ j : Nat, j ≤ p.vs.length ∧ i = .int .i64 j ∧ Hid (Wr T B b (X ++ L ++ p.ss.flatMap (srT T) ++ (p.vs.take j).flatMap (vaT T)) wr ∧ Below B W2 wr ∧ Tq b W2 wr)) (fun i _ => p.vs.length - (RowKit.intOf i).toNat)
   case atStart => exact ⟨0, Nat.zero_le _, rfl, Lib.hid ⟨by simpa using hW2, Below.refl _ _, Tq.refl _ _⟩⟩
   case round =>
    obtain ⟨j, hj, rfl, hR⟩ := hrel
    by_cases hlt : j < p.vs.length
    ·have hkr := hk2.keep (bl_keep hR.out.2.1) hR.out.2.1.size
     have hjx : p.vs[j]? = some p.vs[j] := List.getElem?_eq_getElem hlt
     have htk := tk_flat (f := vaT T) hjx
     have hle := tk_le (vaT T) p.vs (j + 1)
     obtain ⟨gk, ok, cap', cs, e, -, -, hgB, hgl, hcs, hcell⟩ := hkr.get j hjx
     injection e with e1 e3 e2
     subst e1
     subst e2
     obtain ⟨fv1, ⟨fv2, fv3, fv4⟩, fv5⟩ := hf.2.1 _ (List.getElem_mem hlt)
     generalize p.vs[j] = pv at *
     subst hcs
     have ez : vaE.z = 6 := rfl
     rw [ez] at hcell
     have q0 : wr.cell? ⟨gk, ok + j * 6, none⟩ = some (.string pv.nm) := hcell 0 _ rfl
     have q1 : wr.cell? ⟨gk, ok + j * 6 + 1, none⟩ = some (.int .i64 pv.ty.ba) := by rw [Nat.add_assoc]; exact hcell 1 _ rfl
     have q2' : wr.cell? ⟨gk, ok + j * 6 + 2, none⟩ = some (.int .i64 pv.ty.st) := by rw [Nat.add_assoc]; exact hcell 2 _ rfl
     have q3' : wr.cell? ⟨gk, ok + j * 6 + 3, none⟩ = some (.string pv.ty.rc) := by rw [Nat.add_assoc]; exact hcell 3 _ rfl
     have q4 : wr.cell? ⟨gk, ok + j * 6 + 4, none⟩ = some (.int .i64 pv.ln) := by rw [Nat.add_assoc]; exact hcell 4 _ rfl
     have q5 : wr.cell? ⟨gk, ok + j * 6 + 5, none⟩ = some (.int .i64 (pv.at_ : Int)) := by rw [Nat.add_assoc]; exact hcell 5 _ rfl
     have hj1 : (j : Int) < (p.vs.length : Int) := by omega
     have hj0 : (0 : Int) ≤ (j : Int) := by omega
     have hbv : Below wr.heap.size wr (wr.alloc (.cells #[.string pv.nm, .int .i64 pv.ty.ba, .int .i64 pv.ty.st, .string pv.ty.rc, .int .i64 pv.ln, .int .i64 (pv.at_ : Int)] 42)) := (Below.refl _ _).alloc (Nat.le_refl _) _
     have hWv := hR.out.1.below hbv
     have hcv := varText_w pv.nm pv.ty.ba pv.ty.st pv.ty.rc pv.ln pv.at_ fv1 fv3 fv4 fv2 fv5 (wr.alloc (.cells #[.string pv.nm, .int .i64 pv.ty.ba, .int .i64 pv.ty.st, .string pv.ty.rc, .int .i64 pv.ln, .int .i64 (pv.at_ : Int)] 42)) hWv.tb hWv.bw
     have hP := lineVa_eq T pv
     rw [← hP] at htk
     generalize varZ T pv.nm pv.ty.ba pv.ty.st pv.ty.rc pv.ln = M1 at *
     clear hkr hjx hcell hP
     have hlB : X.length + L.length + (p.ss.flatMap (srT T)).length + ((p.vs.take j).flatMap (vaT T)).length + (lineT [⟨#[118, 97, 114]⟩, M1]).length ≤ 1000000000000 := by
      rw [htk, List.length_append] at hle
      have := HLN.out
      omega
     have hWv := Lib.hid hWv
     have hbv := Lib.hid hbv
     clear hle
     have hcl : ∀ V1, Below (wr.alloc (.cells #[.string pv.nm, .int .i64 pv.ty.ba, .int .i64 pv.ty.st, .string pv.ty.rc, .int .i64 pv.ln, .int .i64 (pv.at_ : Int)] 42)).heap.size (wr.alloc (.cells #[.string pv.nm, .int .i64 pv.ty.ba, .int .i64 pv.ty.st, .string pv.ty.rc, .int .i64 pv.ln, .int .i64 (pv.at_ : Int)] 42)) V1 → Calls Tryz.prog 25 #[.pointer (some ⟨b, 0, none⟩), .slice (some ⟨V1.heap.size, 0, none⟩) 2 2] (V1.alloc (.cells #[.string ⟨#[118, 97, 114]⟩, .string M1] 9)) fun e w' => e = .returned (.tuple #[]) ∧ Wr T B b (X ++ L ++ p.ss.flatMap (srT T) ++ (p.vs.take j).flatMap (vaT T) ++ lineT [⟨#[118, 97, 114]⟩, M1]) w' ∧ Below B wr w' ∧ Tq b wr w' := fun V1 hb1 => by
      have hb2 : Below V1.heap.size V1 (V1.alloc (.cells #[.string ⟨#[118, 97, 114]⟩, .string M1] 9)) := (Below.refl _ _).alloc (Nat.le_refl _) _
      have hW1 := hWv.out.below hb1
      have hWb := hW1.below hb2
      refine (show Calls _ _ _ _ _ from tline_any B b V1.heap.size 0 2 [⟨#[118, 97, 114]⟩, M1] (X ++ L ++ p.ss.flatMap (srT T) ++ (p.vs.take j).flatMap (vaT T)) (V1.alloc (.cells #[.string ⟨#[118, 97, 114]⟩, .string M1] 9)) hWb.bl (fun m x hm => ?_) (by simp) (by simp) (by simp) (by simp only [List.length_append]; omega) hWb.bw).mono ?_
      ·rw [Nat.zero_add, cell_of_row _ _ _ _ _ _ (heap_new V1 _)]
       have := List.getElem?_map (f := Value.string) (l := [(⟨#[118, 97, 114]⟩ : ByteArray), M1]) (i := m)
       rw [hm] at this
       simpa using this
      ·rintro e w' ⟨rfl, h1, h2, h3⟩
       exact ⟨rfl, ⟨h1, hWb.tb.keep h2, Nat.le_trans hWb.bw h2.size⟩, ((hbv.out.mono hR.out.1.bw).trans (hb1.mono hWv.out.bw)).trans ((hb2.mono hW1.bw).trans h2), ((Tq.of_below (b := b) hbv.out).trans (Tq.of_below hb1)).trans ((Tq.of_below hb2).trans h3)⟩
     have HCL := Lib.hid hcl
     clear hcl
     have hn1 : IntKind.i64.wrap ((j : Int) + 1) = (j : Int) + 1 := IntWalk.i64_in _ (by omega)
     go_wp2_with (first | (go_at_call 32; refine hcv.mono ?_; rintro e V1 ⟨rfl, hb1⟩; replace hb1 := Lib.hid hb1) | (go_at_call 25; refine (HCL.out _ hb1.out).mono ?_; rintro e V3 ⟨rfl, h1, h2, h3⟩))
     go_roundw
     case rel => exact ⟨j + 1, hlt, by simp, Lib.hid ⟨by rw [htk, ← List.append_assoc]; exact h1, hR.out.2.1.trans h2, hR.out.2.2.trans h3⟩⟩
     case measure => simp [RowKit.intOf]; omega
    ·obtain rfl : j = p.vs.length := by omega
     have hW3 := hR.out.1
     rw [List.take_length] at hW3
     have hp3 := hR.out.2.2.block pb _ hp2 hnp (fun c z e => by injection e with _ e _; revert e; decide)
     have hk3 := hkf3.keep (bl_keep hR.out.2.1) hR.out.2.1.size
     obtain ⟨W3, hW3d⟩ : ∃ W3, W3 = wr := ⟨_, rfl⟩
     subst hW3d
     have ew : W3.cell? ⟨pb, 2, none⟩ = some (.slice A3 p.fs.length q3) := cell_of_row _ _ _ _ _ _ hp3
     go_wp2
     go_loopw [73] (fun i wr => ∃ j : Nat, j ≤ p.fs.length ∧ i = .int .i64 j ∧ Hid (Wr T B b (X ++ L ++ p.ss.flatMap (srT T) ++ p.vs.flatMap (vaT T) ++ (p.fs.take j).flatMap (fnT T)) wr ∧ Below B W3 wr ∧ Tq b W3 wr)) (fun i _ => p.fs.length - (RowKit.intOf i).toNat)
     case atStart => exact ⟨0, Nat.zero_le _, rfl, Lib.hid ⟨by simpa using hW3, Below.refl _ _, Tq.refl _ _⟩⟩
     case round =>
      obtain ⟨j, hj, rfl, hRq⟩ := hrel
      by_cases hlt : j < p.fs.length
      ·have hkr := hk3.keep (bl_keep hRq.out.2.1) hRq.out.2.1.size
       have hjx : p.fs[j]? = some p.fs[j] := List.getElem?_eq_getElem hlt
       have htk := tk_flat (f := fnT T) hjx
       have hle := tk_le (fnT T) p.fs (j + 1)
       obtain ⟨gk, ok, cap', cs, e, -, -, hgB, hgl, hcs, hcell⟩ := hkr.get j hjx
       injection e with e1 e3 e2
       subst e1
       subst e2
       have hpt := hkr.pt j hjx
       have ez : fnA.z = 16 := rfl
       rw [ez] at hpt
       have hpr := hRq.out.2.2.block pb _ hp3 hnp (fun c z e => by injection e with _ e _; revert e; decide)
       have er : wr.cell? ⟨pb, 2, none⟩ = some (.slice (some ⟨gk, ok, none⟩) p.fs.length q3) := cell_of_row _ _ _ _ _ _ hpr
       have hlB : X.length + L.length + (p.ss.flatMap (srT T)).length + (p.vs.flatMap (vaT T)).length + ((p.fs.take j).flatMap (fnT T)).length + (fnT T p.fs[j]).length ≤ 1000000000000 := by
        rw [htk, List.length_append] at hle
        have := HLN.out
        omega
       have hcl := function_any T B b p.fs[j] _ (X ++ L ++ p.ss.flatMap (srT T) ++ p.vs.flatMap (vaT T) ++ (p.fs.take j).flatMap (fnT T)) wr hRq.out.1 hpt (hf.2.2 _ (List.getElem_mem hlt)) (by simp only [List.length_append]; omega)
       have hj1 : (j : Int) < (p.fs.length : Int) := by omega
       have hj0 : (0 : Int) ≤ (j : Int) := by omega
       have HCL := Lib.hid hcl
       clear hcl hpt hkr hjx hcell hcs hle hlB hpr
       have hn1 : IntKind.i64.wrap ((j : Int) + 1) = (j : Int) + 1 := IntWalk.i64_in _ (by omega)
       go_wp2_with (go_at_call 33; refine HCL.out.mono ?_; rintro e V3 ⟨rfl, h1, h2, h3⟩)
       go_roundw
       case rel => exact ⟨j + 1, hlt, by simp, Lib.hid ⟨by rw [htk, ← List.append_assoc]; exact h1, hRq.out.2.1.trans h2, hRq.out.2.2.trans h3⟩⟩
       case measure => simp [RowKit.intOf]; omega
      ·obtain rfl : j = p.fs.length := by omega
       have hWr := hRq.out.1
       rw [List.take_length] at hWr
       go_wp2
       go_end0
       exact ⟨rfl, by simpa [List.append_assoc] using hWr, (HBZ.out.mono h0.bw).trans (HH.out.1.trans (HR1.out.2.1.trans (hR.out.2.1.trans hRq.out.2.1))), (Tq.of_below HBZ.out).trans (TQ9.out.trans (HR1.out.2.2.trans (hR.out.2.2.trans hRq.out.2.2)))⟩
set_option maxHeartbeats 4000000 in
theorem tree_any (T : PrintTabs) (p : PPr) (vs vv vf : Value) (w : World) (hT : Tb T w.heap.size w) (hs : LAt srE w (Bl w.heap.size) p.ss vs) (hv : LAt vaE w (Bl w.heap.size) p.vs vv) (hfn : LAt fnA w (Bl w.heap.size) p.fs vf) (hf : fP p) (hlen : (treeT T p).length ≤ 1000000000000) :
  Calls Tryz.prog 8 #[.agg #[vs, vv, vf]] w fun e w' => e = .returned (.string ⟨(treeT T p).toArray⟩) ∧ Below w.heap.size w w' := by
 obtain ⟨A1, q1, rfl⟩ := hs.slice
 obtain ⟨A2, q2, rfl⟩ := hv.slice
 obtain ⟨A3, q3, rfl⟩ := hfn.slice
 have hne : treeT T p ≠ [] := by unfold treeT; simp
 have hz1 : (w.alloc (.cells #[.slice A1 p.ss.length q1, .slice A2 p.vs.length q2, .slice A3 p.fs.length q3] 27)).heap.size = w.heap.size + 1 := by simp
 obtain ⟨W, hW, hb, hbw⟩ : ∃ W, (w.alloc (.cells #[.slice A1 p.ss.length q1, .slice A2 p.vs.length q2, .slice A3 p.fs.length q3] 27)).alloc (.cells #[.pointer none, .slice none 0 0] 69) = W ∧ Below w.heap.size w W ∧ W.heap[w.heap.size + 1]? = some (.cells #[.pointer none, .slice none 0 0] 69) := ⟨_, rfl, ((Below.refl _ _).alloc (Nat.le_refl _) _).alloc (by simp) _, by rw [← hz1]; exact heap_new _ _⟩
 have hWr : Wr T w.heap.size (w.heap.size + 1) [] W := ⟨.inl ⟨by omega, .slice none 0 0, hbw, World.ownsRow_nil _ _ _ _, by simp [Value.ownBlock]⟩, hT.keep hb, hb.size⟩
 have hp := program_any T w.heap.size (w.heap.size + 1) p _ _ _ [] W hWr (hs.keep (bl_keep hb) hb.size) (hv.keep (bl_keep hb) hb.size) (hfn.keep (bl_keep hb) hb.size) hf (by simpa using hlen)
 have HW := Lib.hid hW
 have HB := Lib.hid hb
 have HP := Lib.hid hp
 clear hW hb hp hbw hz1
 go_enter Tryz.func8, Tryz.ntmps8
 go_wp2_with (go_at_call 16; rw [HW.out]; refine HP.out.mono ?_; rintro e W2 ⟨rfl, h1, h2, h3⟩)
 refine (string_b w.heap.size (w.heap.size + 1) (treeT T p) W2 (by simpa using h1.bl) hne).mono ?_
 rintro e W3 ⟨rfl, hb3⟩
 go_wp2
 go_ret
 exact ⟨rfl, (HB.out.trans h2).trans hb3⟩
end Go.Proofs.YtfjobnljdkiihaaGreatDoor
