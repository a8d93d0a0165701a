/- Types and variables told in a text. Conditions: each theorem's. -/
import Derived.Test.YtfjobnljdkiihaaGreatDoorQtTwC
import Derived.Test.YtfjobnljdkiihaaGreatDoorQtShelfQ
import Derived.Lib.ItoaMem
import Derived.Lib.AppendIntMem
import Derived.Shelf.Strconv.Itoa1
import Derived.Shelf.Strconv.Itoa2
import Derived.WalkSmall
import Derived.Deep.Quiet
import Derived.BigQuiet
namespace Go.Proofs.YtfjobnljdkiihaaGreatDoor
open Go.RowKit
set_option linter.unusedVariables false
set_option linter.unusedSimpArgs false
set_option maxRecDepth 100000
def lineT (xs : List ByteArray) : List UInt8 := Lib.join (xs.map (·.data.toList)) [32] ++ [10]
theorem ownsRow_keepB {B : Nat} {e : TypeId} {k : Nat} {v : Value} {n : Nat} {xs : List Value} {w w' : World} (h : w.ownsRow B e k v n xs) (hb : Below w.heap.size w w') : w'.ownsRow B e k v n xs :=
 h.kept (row := none) ⟨hb.os, hb.tape, hb.output, hb.size, fun k hk _ => hb.block k hk⟩ (by cases v.ownBlock <;> simp)
theorem builder_keep {T e : TypeId} {B b : Nat} {p : Value} {bs : List Value} {w w' : World} (h : Lib.BuilderAt T e B b p bs w) (hb : Below w.heap.size w w') : Lib.BuilderAt T e B b p bs w' := by
 obtain ⟨hB, v, hbk, hown, hne⟩ := id h
 exact ⟨hB, v, by rw [hb.block b h.lt]; exact hbk, ownsRow_keepB hown hb, hne⟩
theorem isBuilder_keep {T e : TypeId} {B b : Nat} {bs : List Value} {w w' : World} (h : Lib.IsBuilder T e B b bs w) (hb : Below w.heap.size w w') : Lib.IsBuilder T e B b bs w' := h.imp (fun h => builder_keep h hb) (fun h => builder_keep h hb)
set_option maxHeartbeats 4000000 in
theorem tline_any (B b bk o c : Nat) (xs : List ByteArray) (X : List UInt8) (w : World) (h : Lib.IsBuilder 69 5 B b (Lib.byteCells X) w) (hcells : ∀ (j : Nat) x, xs[j]? = some x → w.cell? ⟨bk, o + j, none⟩ = some (.string x)) (hbk : bk < w.heap.size) (hN : xs.length ≤ 100) (hcap : xs.length ≤ c)
  (hlen : X.length + (lineT xs).length ≤ 140737488355328) (hBw : B ≤ w.heap.size) :
  Calls Tryz.prog 25 #[.pointer (some ⟨b, 0, none⟩), .slice (some ⟨bk, o, none⟩) xs.length c] w fun e w' => e = .returned (.tuple #[]) ∧ Lib.IsBuilder 69 5 B b (Lib.byteCells (X ++ lineT xs)) w' ∧ Below B w w' ∧ Tq b w w' := by
 have mixed : Tryz.prog.follows .mixedOrders = true := by kernel_rfl
 unfold lineT at hlen
 simp only [List.length_append, List.length_singleton] at hlen
 go_enter Tryz.func25, Tryz.ntmps25
 have hj : (Lib.join (xs.map (·.data.toList)) (⟨#[32]⟩ : ByteArray).data.toList).length ≤ 140737488355328 := by show (Lib.join _ [32]).length ≤ _; omega
 have hws : (Lib.byteCells X).length + (⟨(Lib.join (xs.map (·.data.toList)) (⟨#[32]⟩ : ByteArray).data.toList).toArray⟩ : ByteArray).size ≤ 140737488355328 := by
  rw [Lib.byteCells_length]; show X.length + (Lib.join _ [32]).toArray.size ≤ _; rw [List.size_toArray]; omega
 have hd : Lib.IsBuilder 69 5 B b (Lib.byteCells X) w.drew := h
 have hdc : ∀ (j : Nat) x, xs[j]? = some x → w.drew.cell? ⟨bk, o + j, none⟩ = some (.string x) := hcells
 go_wp2
 go_region_with (first
  | (go_at_call 50; refine (Tryz.strings_Join bk o c xs _ _ hdc hbk (Nat.le_trans hN (by decide)) hcap hj).mono ?_; rintro e w1 ⟨rfl, hb1⟩)
  | (go_at_call 49; refine (writeString_b B b (Lib.byteCells X) _ _ (isBuilder_keep hd hb1) hws (Nat.le_trans hBw hb1.size)).mono ?_; rintro e w2 ⟨rfl, hB2, hb2, tk2⟩))
 all_goals
  have hwb : (Lib.byteCells X ++ Lib.strCells (⟨(Lib.join (xs.map (·.data.toList)) (⟨#[32]⟩ : ByteArray).data.toList).toArray⟩ : ByteArray)).length + 1 ≤ 140737488355328 := by
   rw [List.length_append, Lib.byteCells_length, Lib.strCells_length]; show X.length + (Lib.join _ [32]).toArray.size + 1 ≤ _; rw [List.size_toArray]; omega
  have hs2 : B ≤ w2.heap.size := Nat.le_trans (Nat.le_trans hBw hb1.size) hb2.size
  go_wp2_with (go_at_call 51; refine (writeByte_b B b _ 10 _ (.inr hB2) hwb hs2).mono ?_; rintro e w3 ⟨rfl, hB3, hb3, tk3⟩)
  go_end0
  refine ⟨rfl, .inr ?_, ?_, ?_⟩
  ·have e : Lib.byteCells (X ++ lineT xs) = Lib.byteCells X ++ Lib.strCells (⟨(Lib.join (xs.map (·.data.toList)) (⟨#[32]⟩ : ByteArray).data.toList).toArray⟩ : ByteArray) ++ [.int .u8 10] := by
    unfold lineT
    rw [Lib.byteCells_append, Lib.byteCells_append, List.append_assoc]
    rfl
   rw [e]; exact hB3
  ·exact (((Below.drew (Below.refl B w)).trans (hb1.mono hBw)).trans hb2).trans hb3
  ·exact ((Tq.of_below ((Below.drew (Below.refl _ w)).trans hb1)).trans tk2).trans tk3
open Go.RowKit Go.Sort Go.Lib
abbrev Pow10 (w : World) : Prop := Lib.TabIs Tryz.prog w "internal/strconv.uint64pow10" .u64 Lib.pow10Tab
def numT (n : Int) : ByteArray := ⟨(Lib.itoa n).toArray⟩
set_option maxHeartbeats 1000000 in
theorem count_Struct (a : Option Addr) (n c : Nat) (hn : n ≤ 9223372036854775807) (w : World) (hT : Pow10 w) :
  Calls Tryz.prog 26 #[.slice a n c] w fun e w' => e = .returned (.string (numT n)) ∧ ∃ k os, w' = grow (w.drewN k) os := by
 go_enter Tryz.func26, Tryz.ntmps26
 go_wp2_with (go_at_call 52; refine (Tryz.strconv_Itoa n (by omega) (by omega) _ hT).mono ?_; rintro e w1 ⟨rfl, hb1⟩)
 go_ret
 exact ⟨rfl, hb1⟩
set_option maxHeartbeats 1000000 in
theorem count_Var (a : Option Addr) (n c : Nat) (hn : n ≤ 9223372036854775807) (w : World) (hT : Pow10 w) :
  Calls Tryz.prog 27 #[.slice a n c] w fun e w' => e = .returned (.string (numT n)) ∧ ∃ k os, w' = grow (w.drewN k) os := by
 go_enter Tryz.func27, Tryz.ntmps27
 go_wp2_with (go_at_call 52; refine (Tryz.strconv_Itoa n (by omega) (by omega) _ hT).mono ?_; rintro e w1 ⟨rfl, hb1⟩)
 go_ret
 exact ⟨rfl, hb1⟩
set_option maxHeartbeats 1000000 in
theorem count_Func (a : Option Addr) (n c : Nat) (hn : n ≤ 9223372036854775807) (w : World) (hT : Pow10 w) :
  Calls Tryz.prog 28 #[.slice a n c] w fun e w' => e = .returned (.string (numT n)) ∧ ∃ k os, w' = grow (w.drewN k) os := by
 go_enter Tryz.func28, Tryz.ntmps28
 go_wp2_with (go_at_call 52; refine (Tryz.strconv_Itoa n (by omega) (by omega) _ hT).mono ?_; rintro e w1 ⟨rfl, hb1⟩)
 go_ret
 exact ⟨rfl, hb1⟩
set_option maxHeartbeats 1000000 in
theorem count_Field (a : Option Addr) (n c : Nat) (hn : n ≤ 9223372036854775807) (w : World) (hT : Pow10 w) :
  Calls Tryz.prog 30 #[.slice a n c] w fun e w' => e = .returned (.string (numT n)) ∧ ∃ k os, w' = grow (w.drewN k) os := by
 go_enter Tryz.func30, Tryz.ntmps30
 go_wp2_with (go_at_call 52; refine (Tryz.strconv_Itoa n (by omega) (by omega) _ hT).mono ?_; rintro e w1 ⟨rfl, hb1⟩)
 go_ret
 exact ⟨rfl, hb1⟩
set_option maxHeartbeats 1000000 in
theorem count_Expr (a : Option Addr) (n c : Nat) (hn : n ≤ 9223372036854775807) (w : World) (hT : Pow10 w) :
  Calls Tryz.prog 56 #[.slice a n c] w fun e w' => e = .returned (.string (numT n)) ∧ ∃ k os, w' = grow (w.drewN k) os := by
 go_enter Tryz.func56, Tryz.ntmps56
 go_wp2_with (go_at_call 52; refine (Tryz.strconv_Itoa n (by omega) (by omega) _ hT).mono ?_; rintro e w1 ⟨rfl, hb1⟩)
 go_ret
 exact ⟨rfl, hb1⟩
set_option maxHeartbeats 1000000 in
theorem count_Stmt (a : Option Addr) (n c : Nat) (hn : n ≤ 9223372036854775807) (w : World) (hT : Pow10 w) :
  Calls Tryz.prog 57 #[.slice a n c] w fun e w' => e = .returned (.string (numT n)) ∧ ∃ k os, w' = grow (w.drewN k) os := by
 go_enter Tryz.func57, Tryz.ntmps57
 go_wp2_with (go_at_call 52; refine (Tryz.strconv_Itoa n (by omega) (by omega) _ hT).mono ?_; rintro e w1 ⟨rfl, hb1⟩)
 go_ret
 exact ⟨rfl, hb1⟩
set_option maxHeartbeats 6400000 in
theorem fmtU_in (u : Nat) (hu64 : u < 18446744073709551616) (w : World) (htab : Pow10 w) :
  Calls Tryz.prog 99 #[.int .u64 u, .int .i64 10] w fun e w' => e = .returned (.string (numT u)) ∧ ∃ k os, w' = grow (w.drewN k) os := by
 by_cases hs : u < 100
 ·have hwr : IntKind.i64.wrap (u : Int) = u := IntWalk.i64_in _ (by omega)
  go_enter Tryz.func99, Tryz.ntmps99
  go_wp2_with (go_at_call 112; refine (Tryz.internal_strconv_small u hs _).mono ?_; rintro e w' ⟨rfl, rfl⟩)
  go_ret
  refine ⟨?_, 0, #[], by simp [World.drewN_zero]⟩
  unfold numT
  rw [Lib.itoa_nonneg]
  rfl
 ·have hu1 : 1 ≤ u := by omega
  have hnd20 : Lib.nDigits u ≤ 20 := by have := Lib.numDigits_eq u hu1 hu64; split at this <;> omega
  have hb3 : Lib.nDigits u ≤ 24 := by omega
  have hal : Tryz.prog.arrayLen 168 = 24 := by kernel_rfl
  have hsl : ∀ W, (Instr.sliceAt 168 (.pointer (some ⟨w.heap.size, 0, none⟩)) none (some (.int .i64 (Lib.nDigits u : Int))) none).run Tryz.prog W = .ok (.slice (some ⟨w.heap.size, 0, none⟩) (Lib.nDigits u) 24) W := fun W => by
   rw [run_sliceAt_array_h W 168 ⟨w.heap.size, 0, none⟩ (by kernel_rfl) .i64 (Lib.nDigits u : Int) (by omega) (by rw [hal]; omega)]
   go_simp
  have hH0 := Lib.holds_zero0 w 168 (Lib.nDigits u) (by omega)
  have hfmt := Tryz.internal_strconv_formatBase10 w.heap.size 0 24 u (Array.replicate (Lib.nDigits u) 0) (w.alloc (.cells Lib.zeros24 168)) hH0 (by rw [Array.size_replicate]; exact Lib.lt_pow_nDigits u) hu64 (by rw [Array.size_replicate]; omega)
  rw [Array.size_replicate] at hfmt
  have HH0 := Lib.hid hH0
  have iu : (100 : Int) ≤ (u : Int) := by omega
  clear hH0 hal
  go_enter Tryz.func99, Tryz.ntmps99
  go_wp2_with (first
   | (go_at_call 113; refine (Tryz.internal_strconv_numDigits u hu1 hu64 _ (Lib.tabIs_alloc htab _)).mono ?_; rintro e w' ⟨rfl, rfl⟩))
  go_at_call 114
  refine hfmt.mono ?_
  rintro e w' ⟨rfl, k, v', dk, rfl, hF⟩
  have hcv : (convert 51 9 (.slice (some ⟨w.heap.size, 0, none⟩) (Lib.nDigits u) 24)).run Tryz.prog ((putRow (fun (b : UInt8) => Value.int .u8 (b.toNat : Int)) (w.alloc (.cells Lib.zeros24 168)) w.heap.size 0 dk).drewN k) = .ok (.string ⟨(Lib.decDigits u).toArray⟩) ((putRow (fun (b : UInt8) => Value.int .u8 (b.toNat : Int)) (w.alloc (.cells Lib.zeros24 168)) w.heap.size 0 dk).drewN k) := by
   have h := run_convert_bytes_back (P := Tryz.prog) ((putRow (fun (b : UInt8) => Value.int .u8 (b.toNat : Int)) (w.alloc (.cells Lib.zeros24 168)) w.heap.size 0 dk).drewN k) 51 9 5 ⟨w.heap.size, 0, none⟩ 24 (Lib.decDigits u) (by kernel_rfl) (by kernel_rfl) (by kernel_rfl) (fun j hj => by
    rw [Lib.row_is_numeral hF j hj, Lib.add_plain, World.cell?_drewN]
    exact cell?_putRow (fun (b : UInt8) => Value.int .u8 (b.toNat : Int)) _ w.heap.size 0 _ dk HH0.out (by rw [hF.size, Array.size_replicate]) j (by rw [hF.size]; rw [Lib.decDigits_length] at hj; exact hj))
   rw [Lib.decDigits_length] at h
   exact h
  go_wp2
  go_ret
  obtain ⟨os, eo⟩ := Lib.fin_at w (.cells Lib.zeros24 168) dk k 0
  refine ⟨?_, k, os, eo⟩
  unfold numT
  rw [Lib.itoa_nonneg]
  rfl
set_option maxHeartbeats 1000000 in
theorem fmtU_any (u : Nat) (hu64 : u < 18446744073709551616) (w : World) (htab : Pow10 w) :
  Calls Tryz.prog 81 #[.int .u64 u, .int .i64 10] w fun e w' => e = .returned (.string (numT u)) ∧ ∃ k os, w' = grow (w.drewN k) os := by
 go_enter Tryz.func81, Tryz.ntmps81
 go_wp2_with (go_at_call 99; refine (fmtU_in u hu64 _ htab).mono ?_; rintro e w' ⟨rfl, k, os, rfl⟩)
 go_ret
 exact ⟨rfl, k, os, rfl⟩
def Tb (T : PrintTabs) (B : Nat) (w : World) : Prop := ∀ w', Below B w w' → Pow10 w' ∧ PrintTabsAt 4 5 6 7 T w' ∧ Utf8Tabs 2 3 w'
theorem Tb.keep {T : PrintTabs} {B : Nat} {w w' : World} (h : Tb T B w) (hb : Below B w w') : Tb T B w' := fun w2 h2 => h w2 (hb.trans h2)
theorem Tb.get {T : PrintTabs} {B : Nat} {w : World} (h : Tb T B w) : Pow10 w ∧ PrintTabsAt 4 5 6 7 T w ∧ Utf8Tabs 2 3 w := h w (Below.refl _ _)
def Gx (w0 : World) : Type := { W : World // Below w0.heap.size w0 W }
instance Gx.some (w0 : World) : Nonempty (Gx w0) := ⟨⟨w0, Below.refl _ _⟩⟩
theorem wp_region_grx {P : Program} {w0 : World} {id : Nat} {Q : Exit → Act → World → Prop} {a : Act} {w : World} {l : List Oper} (hm : P.follows .mixedOrders = true) (hB : Region.lexB .any l.toArray = true) (hC : Below w0.heap.size w0 w)
  (h : wpQuiet P l.toArray (fun w' => ∃ g : Gx w0, w' = g.1) (fun a' => ∀ w', (∃ g : Gx w0, w' = g.1) → Q .normal a' w') l a) : (Code.region id l.toArray true).wp P Q a w :=
 wp_region_quiet (C := fun w' => ∃ g : Gx w0, w' = g.1) hm hB ⟨⟨_, hC.drew⟩, rfl⟩ (by simpa using h)
theorem grx_of {P : Program} {f : FuncId} {args : Array Value} {w0 : World} {v : Value} {g : Gx w0} (h : Calls P f args g.1 fun e w' => e = .returned v ∧ Below g.1.heap.size g.1 w') : Calls P f args g.1 fun e w'' => e = .returned v ∧ ∃ g' : Gx w0, w'' = g'.1 :=
 h.mono fun e w' h => ⟨h.1, ⟨w', g.2.trans (h.2.mono g.2.size)⟩, rfl⟩
theorem below_gr {w w' : World} (h : ∃ k os, w' = grow (w.drewN k) os) : Below w.heap.size w w' := by
 obtain ⟨k, os, rfl⟩ := h
 exact Lib.below_grow w.heap.size w (Nat.le_refl _) k os
theorem itoa_any (n : Int) (h0 : -9223372036854775808 ≤ n) (h1 : n ≤ 9223372036854775807) (w : World) (hT : Pow10 w) : Calls Tryz.prog 52 #[.int .i64 n] w fun e w' => e = .returned (.string (numT n)) ∧ Below w.heap.size w w' :=
 (Tryz.strconv_Itoa n h0 h1 w hT).mono fun e w' h => ⟨h.1, below_gr h.2⟩
theorem fmt_any (u : Int) (h0 : 0 ≤ u) (h1 : u ≤ 18446744073709551615) (w : World) (hT : Pow10 w) : Calls Tryz.prog 81 #[.int .u64 u, .int .i64 10] w fun e w' => e = .returned (.string (numT u)) ∧ Below w.heap.size w w' := by
 obtain ⟨k, rfl⟩ : ∃ k : Nat, u = k := ⟨u.toNat, by omega⟩
 exact (fmtU_any k (by omega) w hT).mono fun e w' h => ⟨h.1, below_gr h.2⟩
def quoZ (T : PrintTabs) (s : ByteArray) : ByteArray := strOfNums (quoteZ T s)
theorem quo_any {T : PrintTabs} {B : Nat} (s : ByteArray) (hs : s.size ≤ 1048576) (w : World) (hT : Tb T B w) : Calls Tryz.prog 29 #[.string s] w fun e w' => e = .returned (.string (quoZ T s)) ∧ Below w.heap.size w w' :=
 Tryz.strconv_Quote T s w (by omega) hT.get.2.1 hT.get.2.2
theorem quoZ_len (T : PrintTabs) (s : ByteArray) (hs : s.size ≤ 1048576) : ((quoZ T s).size : Int) ≤ 10485800 := by
 unfold quoZ
 rw [strOfNums_size]
 have := quoteZ_length_le T s
 omega
theorem ndq_le : ∀ (k u : Nat), u < 10 ^ (k + 1) → nDigits u ≤ k + 1
 | 0, u, h => by rw [nDigits_small (by simpa using h)]; omega
 | k + 1, u, h => by
  by_cases h1 : u < 10
  ·rw [nDigits_small h1]; omega
  ·rw [nDigits_big h1]
   have := ndq_le k (u / 10) (by rw [Nat.pow_succ] at h; omega)
   omega
theorem numT_len {n : Int} (h0 : -9223372036854775808 ≤ n) (h1 : n ≤ 18446744073709551615) : ((numT n).size : Int) ≤ 21 := by
 show ((Lib.itoa n).toArray.size : Int) ≤ 21
 rw [List.size_toArray]
 have e : (10 : Nat) ^ (19 + 1) = 100000000000000000000 := by decide
 unfold Lib.itoa
 split
 ·rw [List.length_cons, decDigits_length]
  have := ndq_le 19 n.natAbs (by rw [e]; omega)
  omega
 ·rw [decDigits_length]
  have := ndq_le 19 n.toNat (by rw [e]; omega)
  omega
theorem heap_new (w : World) (o : Obj) : (w.alloc o).heap[w.heap.size]? = some o := by
 show (w.heap.push o)[w.heap.size]? = _
 simp
abbrev sp : ByteArray := ⟨#[32]⟩
def typZ (T : PrintTabs) (ba st : Int) (rc : ByteArray) : ByteArray := numT ba ++ sp ++ numT st ++ sp ++ quoZ T rc
abbrev I64 (n : Int) : Prop := -9223372036854775808 ≤ n ∧ n ≤ 9223372036854775807
set_option maxHeartbeats 4000000 in
theorem typeText_w {T : PrintTabs} {B : Nat} (ba st : Int) (rc : ByteArray) (h1 : I64 ba) (h2 : I64 st) (h3 : rc.size ≤ 1048576) (w : World) (hT : Tb T B w) (hB : B ≤ w.heap.size) :
  Calls Tryz.prog 31 #[.agg #[.int .i64 ba, .int .i64 st, .string rc]] w fun e w' => e = .returned (.string (typZ T ba st rc)) ∧ Below w.heap.size w w' := by
 have hb0 : Below w.heap.size w (w.alloc (.cells #[.int .i64 ba, .int .i64 st, .string rc] 37)) := (Below.refl _ _).alloc (Nat.le_refl _) _
 have HH := heap_new w (.cells #[.int .i64 ba, .int .i64 st, .string rc] 37)
 have hT1 := hT.keep (hb0.mono hB)
 have hz : B ≤ (w.alloc (.cells #[.int .i64 ba, .int .i64 st, .string rc] 37)).heap.size := by simp; omega
 have hlt : w.heap.size < (w.alloc (.cells #[.int .i64 ba, .int .i64 st, .string rc] 37)).heap.size := by simp
 generalize hw1 : w.alloc (.cells #[.int .i64 ba, .int .i64 st, .string rc] 37) = w1 at *
 have CI : ∀ n, I64 n → ∀ g : Gx w1, Calls Tryz.prog 52 #[.int .i64 n] g.1 fun e w' => e = .returned (.string (numT n)) ∧ ∃ g' : Gx w1, w' = g'.1 := fun n hn g => grx_of (itoa_any n hn.1 hn.2 g.1 (hT1.keep (g.2.mono hz)).get.1)
 have CQ : ∀ g : Gx w1, Calls Tryz.prog 29 #[.string rc] g.1 fun e w' => e = .returned (.string (quoZ T rc)) ∧ ∃ g' : Gx w1, w' = g'.1 := fun g => grx_of (quo_any rc h3 g.1 (hT1.keep (g.2.mono hz)))
 have C1 := CI ba h1
 have C2 := CI st h2
 have s1 := numT_len h1.1 (by have := h1.2; omega)
 have s2 := numT_len h2.1 (by have := h2.2; omega)
 have s3 := quoZ_len T rc h3
 have c0 : ∀ g : Gx w1, g.1.cell? ⟨w.heap.size, 0, none⟩ = some (.int .i64 ba) := fun g => (g.2.cell (p := ⟨w.heap.size, 0, none⟩) hlt).trans (by simp [World.cell?, HH])
 have c1 : ∀ g : Gx w1, g.1.cell? ⟨w.heap.size, 1, none⟩ = some (.int .i64 st) := fun g => (g.2.cell (p := ⟨w.heap.size, 1, none⟩) hlt).trans (by simp [World.cell?, HH])
 have c2 : ∀ g : Gx w1, g.1.cell? ⟨w.heap.size, 2, none⟩ = some (.string rc) := fun g => (g.2.cell (p := ⟨w.heap.size, 2, none⟩) hlt).trans (by simp [World.cell?, HH])
 generalize hn1 : numT ba = N1 at *
 generalize hn2 : numT st = N2 at *
 generalize hn3 : quoZ T rc = N3 at *
 go_enter Tryz.func31, Tryz.ntmps31
 clear HH hT1 hT
 have HW := Lib.hid hw1
 clear hw1
 go_wp2
 rw [HW.out]
 refine wp_region_grx (w0 := w1) (by kernel_rfl) (by kernel_rfl) (Below.refl _ _) ?_
 repeat (go_big_quiet_step (first | with_reducible exact C1 _ | with_reducible exact C2 _ | with_reducible exact CQ _))
 refine wpQuiet_nil ?_
 rintro W ⟨g, rfl⟩
 go_wp2
 go_ret
 refine ⟨?_, hb0.trans (g.2.mono (Nat.le_of_lt hlt))⟩
 unfold typZ
 rw [hn1, hn2, hn3]
 rfl
def varZ (T : PrintTabs) (nm : ByteArray) (ba st : Int) (rc : ByteArray) (ln : Int) : ByteArray := quoZ T nm ++ sp ++ typZ T ba st rc ++ sp ++ numT ln
theorem typZ_len (T : PrintTabs) (ba st : Int) (rc : ByteArray) (h1 : I64 ba) (h2 : I64 st) (h3 : rc.size ≤ 1048576) : ((typZ T ba st rc).size : Int) ≤ 10486000 := by
 unfold typZ
 have s1 := numT_len h1.1 (by have := h1.2; omega)
 have s2 := numT_len h2.1 (by have := h2.2; omega)
 have s3 := quoZ_len T rc h3
 have s4 : (sp.size : Int) = 1 := rfl
 simp only [ByteArray.size_append]
 omega
set_option maxHeartbeats 4000000 in
theorem varText_w {T : PrintTabs} {B : Nat} (nm : ByteArray) (ba st : Int) (rc : ByteArray) (ln z : Int) (h0 : nm.size ≤ 1048576) (h1 : I64 ba) (h2 : I64 st) (h3 : rc.size ≤ 1048576) (h4 : I64 ln) (w : World) (hT : Tb T B w) (hB : B ≤ w.heap.size) :
  Calls Tryz.prog 32 #[.agg #[.string nm, .int .i64 ba, .int .i64 st, .string rc, .int .i64 ln, .int .i64 z]] w fun e w' => e = .returned (.string (varZ T nm ba st rc ln)) ∧ Below w.heap.size w w' := by
 have hb0 : Below w.heap.size w (w.alloc (.cells #[.string nm, .int .i64 ba, .int .i64 st, .string rc, .int .i64 ln, .int .i64 z] 42)) := (Below.refl _ _).alloc (Nat.le_refl _) _
 have HH := heap_new w (.cells #[.string nm, .int .i64 ba, .int .i64 st, .string rc, .int .i64 ln, .int .i64 z] 42)
 have hT1 := hT.keep (hb0.mono hB)
 have hz : B ≤ (w.alloc (.cells #[.string nm, .int .i64 ba, .int .i64 st, .string rc, .int .i64 ln, .int .i64 z] 42)).heap.size := by simp; omega
 have hlt : w.heap.size < (w.alloc (.cells #[.string nm, .int .i64 ba, .int .i64 st, .string rc, .int .i64 ln, .int .i64 z] 42)).heap.size := by simp
 generalize hw1 : w.alloc (.cells #[.string nm, .int .i64 ba, .int .i64 st, .string rc, .int .i64 ln, .int .i64 z] 42) = w1 at *
 have C1 : ∀ g : Gx w1, Calls Tryz.prog 52 #[.int .i64 ln] g.1 fun e w' => e = .returned (.string (numT ln)) ∧ ∃ g' : Gx w1, w' = g'.1 := fun g => grx_of (itoa_any ln h4.1 h4.2 g.1 (hT1.keep (g.2.mono hz)).get.1)
 have C2 : ∀ g : Gx w1, Calls Tryz.prog 31 #[.agg #[.int .i64 ba, .int .i64 st, .string rc]] g.1 fun e w' => e = .returned (.string (typZ T ba st rc)) ∧ ∃ g' : Gx w1, w' = g'.1 := fun g => grx_of (typeText_w ba st rc h1 h2 h3 g.1 (hT1.keep (g.2.mono hz)) (Nat.le_trans hz g.2.size))
 have CQ : ∀ g : Gx w1, Calls Tryz.prog 29 #[.string nm] g.1 fun e w' => e = .returned (.string (quoZ T nm)) ∧ ∃ g' : Gx w1, w' = g'.1 := fun g => grx_of (quo_any nm h0 g.1 (hT1.keep (g.2.mono hz)))
 have s1 := numT_len h4.1 (by have := h4.2; omega)
 have s2 := typZ_len T ba st rc h1 h2 h3
 have s3 := quoZ_len T nm h0
 have cc : ∀ (g : Gx w1) (i : Nat) (u : Value), [Value.string nm, .int .i64 ba, .int .i64 st, .string rc, .int .i64 ln, .int .i64 z][i]? = some u → g.1.cell? ⟨w.heap.size, i, none⟩ = some u := fun g i u hu => (g.2.cell (p := ⟨w.heap.size, i, none⟩) hlt).trans (by simp only [World.cell?, HH]; simpa using hu)
 have c0 := fun g => cc g 0 _ rfl
 have c1 := fun g => cc g 1 _ rfl
 have c2 := fun g => cc g 2 _ rfl
 have c3 := fun g => cc g 3 _ rfl
 have c4 := fun g => cc g 4 _ rfl
 clear cc
 generalize hn1 : numT ln = N1 at *
 generalize hn2 : typZ T ba st rc = N2 at *
 generalize hn3 : quoZ T nm = N3 at *
 clear HH hT1 hT
 have HW := Lib.hid hw1
 clear hw1
 go_enter Tryz.func32, Tryz.ntmps32
 go_wp2
 rw [HW.out]
 refine wp_region_grx (w0 := w1) (by kernel_rfl) (by kernel_rfl) (Below.refl _ _) ?_
 repeat (go_big_quiet_step (first | with_reducible exact C1 _ | with_reducible exact C2 _ | with_reducible exact CQ _))
 refine wpQuiet_nil ?_
 rintro W ⟨g, rfl⟩
 go_wp2
 go_ret
 refine ⟨?_, hb0.trans (g.2.mono (Nat.le_of_lt hlt))⟩
 unfold varZ
 rw [hn1, hn2, hn3]
 rfl
end Go.Proofs.YtfjobnljdkiihaaGreatDoor
