/- How great a tree is that was read of so many tokens; pure. Conditions: each theorem's. -/
import Derived.Test.YtfjobnljdkiihaaGreatDoorQtParSh
import Derived.Test.YtfjobnljdkiihaaGreatDoorQtQuoInj
import Derived.Test.YtfjobnljdkiihaaGreatDoorQtParW
namespace Go.Proofs.YtfjobnljdkiihaaGreatDoor
open Go.RowKit Go.Maps
set_option linter.unusedVariables false
set_option linter.unusedSimpArgs false
set_option maxRecDepth 100000
open Lx Pa Go.Lib
namespace Qi
theorem hexDigit_byte (k : Nat) (h : k < 16) : 0 ≤ Go.Lib.hexDigit k ∧ Go.Lib.hexDigit k < 256 := by
 unfold Go.Lib.hexDigit; split <;> omega
theorem esc_byte (T : PrintTabs) (r : Int) (h0 : 0 ≤ r) : ∀ x ∈ escRune T r, 0 ≤ x ∧ x < 256 := by
 have hx : ∀ n : Nat, 0 ≤ Go.Lib.hexDigit (n % 16) ∧ Go.Lib.hexDigit (n % 16) < 256 := fun n => hexDigit_byte _ (by omega)
 unfold escRune
 by_cases c0 : r = 34 ∨ r = 92
 ·rw [if_pos c0]
  intro x hm
  simp only [List.mem_cons, List.not_mem_nil, or_false] at hm
  rcases hm with e | e <;> omega
 rw [if_neg c0]
 by_cases c1 : isPrintR T r = true
 ·rw [if_pos c1]; exact encodeRuneZ_byte r
 rw [if_neg c1]
 by_cases d0 : r = 7
 ·rw [if_pos d0]
  intro x hm
  simp only [List.mem_cons, List.not_mem_nil, or_false] at hm
  rcases hm with e | e <;> omega
 rw [if_neg d0]
 by_cases d1 : r = 8
 ·rw [if_pos d1]
  intro x hm
  simp only [List.mem_cons, List.not_mem_nil, or_false] at hm
  rcases hm with e | e <;> omega
 rw [if_neg d1]
 by_cases d2 : r = 12
 ·rw [if_pos d2]
  intro x hm
  simp only [List.mem_cons, List.not_mem_nil, or_false] at hm
  rcases hm with e | e <;> omega
 rw [if_neg d2]
 by_cases d3 : r = 10
 ·rw [if_pos d3]
  intro x hm
  simp only [List.mem_cons, List.not_mem_nil, or_false] at hm
  rcases hm with e | e <;> omega
 rw [if_neg d3]
 by_cases d4 : r = 13
 ·rw [if_pos d4]
  intro x hm
  simp only [List.mem_cons, List.not_mem_nil, or_false] at hm
  rcases hm with e | e <;> omega
 rw [if_neg d4]
 by_cases d5 : r = 9
 ·rw [if_pos d5]
  intro x hm
  simp only [List.mem_cons, List.not_mem_nil, or_false] at hm
  rcases hm with e | e <;> omega
 rw [if_neg d5]
 by_cases d6 : r = 11
 ·rw [if_pos d6]
  intro x hm
  simp only [List.mem_cons, List.not_mem_nil, or_false] at hm
  rcases hm with e | e <;> omega
 rw [if_neg d6]
 by_cases c9 : r < 32 ∨ r = 127
 ·rw [if_pos c9]
  intro x hm
  simp only [List.mem_cons, List.not_mem_nil, or_false] at hm
  rcases hm with e | e | e | e
  ·omega
  ·omega
  ·rw [e]; exact hexDigit_byte _ (by omega)
  ·rw [e]; exact hx _
 rw [if_neg c9]
 by_cases c10 : Go.Lib.validRune r = false
 ·rw [if_pos c10]
  intro x hm
  simp only [hexDigits, List.mem_cons, List.not_mem_nil, or_false] at hm
  rcases hm with e | e | e | e | e | e
  ·omega
  ·omega
  all_goals (rw [e]; exact hx _)
 rw [if_neg c10]
 by_cases c11 : r < 65536
 ·rw [if_pos c11]
  intro x hm
  simp only [hexDigits, List.mem_cons, List.not_mem_nil, or_false] at hm
  rcases hm with e | e | e | e | e | e
  ·omega
  ·omega
  all_goals (rw [e]; exact hx _)
 ·rw [if_neg c11]
  intro x hm
  simp only [hexDigits, List.mem_cons, List.not_mem_nil, or_false] at hm
  rcases hm with e | e | e | e | e | e | e | e | e | e
  ·omega
  ·omega
  all_goals (rw [e]; exact hx _)
theorem step_byte (T : PrintTabs) (s : ByteArray) : ∀ x ∈ quoteStep T s, 0 ≤ x ∧ x < 256 := by
 unfold quoteStep
 have hb : (s.get! 0).toNat < 256 := UInt8.toNat_lt _
 split
 ·intro x hm
  simp only [List.mem_cons, List.not_mem_nil, or_false] at hm
  rcases hm with rfl | rfl | rfl | rfl <;> first | omega | exact hexDigit_byte _ (by omega)
 ·exact esc_byte T _ (by omega)
theorem from_byte (T : PrintTabs) : ∀ (f : Nat) (s : ByteArray), ∀ x ∈ quoteFrom T f s, 0 ≤ x ∧ x < 256 := by
 intro f
 induction f with
 | zero => intro s x hx; simp [quoteFrom] at hx
 | succ f ih =>
  intro s x hx
  unfold quoteFrom at hx
  split at hx
  ·rcases List.mem_append.1 hx with hx | hx
   ·exact step_byte T s x hx
   ·exact ih _ x hx
  ·simp at hx
theorem quote_byte (T : PrintTabs) (s : ByteArray) : ∀ x ∈ quoteZ T s, 0 ≤ x ∧ x < 256 := by
 intro x hx
 unfold quoteZ at hx
 rcases List.mem_cons.1 hx with rfl | hx
 ·omega
 ·rcases List.mem_append.1 hx with hx | hx
  ·exact from_byte T _ _ x hx
  ·simp at hx; omega
def qt (T : PrintTabs) (s : ByteArray) : List UInt8 := (quoteZ T s).map fun x => x.toNat.toUInt8
theorem qt_z (T : PrintTabs) (s : ByteArray) : bytesZ (qt T s) = quoteZ T s := by
 have h := quote_byte T s
 unfold bytesZ qt
 rw [List.map_map]
 generalize quoteZ T s = l at *
 induction l with
 | nil => rfl
 | cons x l ih =>
  have hx := h x (by simp)
  rw [List.map_cons, ih fun y hy => h y (by simp [hy])]
  congr 1
  show ((x.toNat.toUInt8).toNat : Int) = x
  have hlt : x.toNat < 256 := by omega
  rw [show (x.toNat.toUInt8).toNat = x.toNat from UInt8.toNat_ofNat_of_lt' hlt]
  omega
theorem bytesZ_inj {X Y : List UInt8} (h : bytesZ X = bytesZ Y) : X = Y := by
 unfold bytesZ at h
 induction X generalizing Y with
 | nil => cases Y with | nil => rfl | cons y Y => simp at h
 | cons x X ih =>
  cases Y with
  | nil => simp at h
  | cons y Y =>
   simp only [List.map_cons, List.cons.injEq] at h
   rw [ih h.2]
   congr 1
   exact UInt8.toNat_inj.1 (by have h1 : (x.toNat : Int) = (y.toNat : Int) := h.1; omega)
theorem qt_inj (T : PrintTabs) {s1 s2 : ByteArray} {X Y : List UInt8} (h : qt T s1 ++ X = qt T s2 ++ Y) : s1 = s2 ∧ X = Y := by
 have h2 := congrArg bytesZ h
 unfold bytesZ at h2
 rw [List.map_append, List.map_append] at h2
 have e1 := qt_z T s1
 have e2 := qt_z T s2
 unfold bytesZ at e1 e2
 rw [e1, e2] at h2
 obtain ⟨h3, h4⟩ := quoteZ_inj T s1 s2 _ _ h2
 refine ⟨?_, bytesZ_inj h4⟩
 obtain ⟨⟨a⟩⟩ := s1
 obtain ⟨⟨b⟩⟩ := s2
 dsimp only at h3
 rw [h3]
def valD (l : List UInt8) : Nat := l.foldl (fun a b => a * 10 + (b.toNat - 48)) 0
theorem dec_eq (n : Nat) : decDigits n = if n < 10 then [UInt8.ofNat (48 + n)] else decDigits (n / 10) ++ [UInt8.ofNat (48 + n % 10)] := by
 rw [decDigits]
 split <;> rfl
theorem dec_val (n : Nat) : valD (decDigits n) = n ∧ (∀ b ∈ decDigits n, 48 ≤ b.toNat ∧ b.toNat ≤ 57) ∧ decDigits n ≠ [] := by
 induction n using Nat.strongRecOn with
 | ind n ih =>
  rw [dec_eq]
  have hb : ∀ k, k < 10 → (UInt8.ofNat (48 + k)).toNat = 48 + k := fun k hk => UInt8.toNat_ofNat_of_lt' (by show 48 + k < 256; omega)
  by_cases h : n < 10
  ·rw [if_pos h]
   refine ⟨?_, fun b hb' => ?_, by simp⟩
   ·unfold valD; simp only [List.foldl_cons, List.foldl_nil, hb n h]; omega
   ·rw [List.mem_singleton.1 hb', hb n h]; omega
  ·rw [if_neg h]
   obtain ⟨i1, i2, i3⟩ := ih (n / 10) (by omega)
   refine ⟨?_, fun b hb' => ?_, by simp⟩
   ·unfold valD at i1 ⊢
    rw [List.foldl_append, i1]
    simp only [List.foldl_cons, List.foldl_nil, hb (n % 10) (by omega)]
    omega
   ·rcases List.mem_append.1 hb' with hb' | hb'
    ·exact i2 b hb'
    ·rw [List.mem_singleton.1 hb', hb (n % 10) (by omega)]; omega
theorem itoa_chars (n : Int) : ∀ b ∈ itoa n, b.toNat ≠ 32 ∧ b.toNat ≠ 10 := by
 intro b hb
 unfold itoa at hb
 split at hb
 ·rcases List.mem_cons.1 hb with rfl | hb
  ·decide
  ·have := (dec_val _).2.1 b hb; omega
 ·have := (dec_val _).2.1 b hb; omega
theorem itoa_eq {n m : Int} (h : itoa n = itoa m) : n = m := by
 unfold itoa at h
 have key : ∀ a b : Nat, 45 :: decDigits a ≠ decDigits b := fun a b e => by
  have := (dec_val b).2.1 45 (by rw [← e]; simp)
  simp at this
 split at h <;> split at h
 ·have := congrArg valD (List.cons.inj h).2
  rw [(dec_val _).1, (dec_val _).1] at this
  omega
 ·exact absurd h (key _ _)
 ·exact absurd h.symm (key _ _)
 ·have := congrArg valD h
  rw [(dec_val _).1, (dec_val _).1] at this
  omega
theorem word_inj {P : UInt8 → Prop} : ∀ (a b : List UInt8) (c d : UInt8) (X Y : List UInt8), (∀ x ∈ a, P x) → (∀ x ∈ b, P x) → ¬ P c → ¬ P d → a ++ c :: X = b ++ d :: Y → a = b ∧ X = Y := by
 intro a
 induction a with
 | nil =>
  intro b c d X Y ha hb hc hd h
  cases b with
  | nil => simp only [List.nil_append, List.cons.injEq] at h; exact ⟨rfl, h.2⟩
  | cons y b =>
   simp only [List.nil_append, List.cons_append, List.cons.injEq] at h
   exact absurd (hb y (by simp)) (h.1 ▸ hc)
 | cons x a ih =>
  intro b c d X Y ha hb hc hd h
  cases b with
  | nil =>
   simp only [List.nil_append, List.cons_append, List.cons.injEq] at h
   exact absurd (ha x (by simp)) (h.1 ▸ hd)
  | cons y b =>
   simp only [List.cons_append, List.cons.injEq] at h
   obtain ⟨i1, i2⟩ := ih b c d X Y (fun z hz => ha z (by simp [hz])) (fun z hz => hb z (by simp [hz])) hc hd h.2
   exact ⟨by rw [h.1, i1], i2⟩
theorem itoa_inj {n m : Int} {c d : UInt8} {X Y : List UInt8} (hc : c = 32 ∨ c = 10) (hd : d = 32 ∨ d = 10) (h : itoa n ++ c :: X = itoa m ++ d :: Y) : n = m ∧ X = Y := by
 obtain ⟨h1, h2⟩ := word_inj (P := fun b => b.toNat ≠ 32 ∧ b.toNat ≠ 10) _ _ c d X Y (itoa_chars n) (itoa_chars m) (by rcases hc with rfl | rfl <;> decide) (by rcases hd with rfl | rfl <;> decide) h
 exact ⟨itoa_eq h1, h2⟩
end Qi
open Lx Pa Go.Lib Qi
namespace Pa
section
variable (T : PrintTabs)
def typT (t : PTy) : List UInt8 := itoa t.ba ++ 32 :: (itoa t.st ++ 32 :: qt T t.rc)
def varT (v : PVa) : List UInt8 := qt T v.nm ++ 32 :: (typT T v.ty ++ 32 :: itoa v.ln)
def exLine (kd : Int) (op nm : ByteArray) (num : Int) (ty : PTy) (n : Nat) : List UInt8 := [101, 120, 112, 114] ++ 32 :: (itoa kd ++ 32 :: (qt T op ++ 32 :: (qt T nm ++ 32 :: (itoa num ++ 32 :: (typT T ty ++ 32 :: (itoa n ++ [10]))))))
mutual
def exT : PEx → List UInt8
 | .mk kd op nm num kids ty _ => exLine T kd op nm num ty kids.length ++ exsT kids
def exsT : List PEx → List UInt8
 | [] => []
 | x :: l => exT x ++ exsT l
end
def stLine (kd : Int) (v : PVa) (n m : Nat) : List UInt8 := [115, 116, 109, 116] ++ 32 :: (itoa kd ++ 32 :: (varT T v ++ 32 :: (itoa n ++ 32 :: (itoa m ++ [10]))))
mutual
def stT : PSt → List UInt8
 | .mk kd exprs kids v _ => stLine T kd v exprs.length kids.length ++ (exsT T exprs ++ stsT kids)
def stsT : List PSt → List UInt8
 | [] => []
 | x :: l => stT x ++ stsT l
end
def fdT (f : PFd) : List UInt8 := [102, 105, 101, 108, 100] ++ 32 :: (qt T f.nm ++ 32 :: (typT T f.ty ++ [10]))
def srT (s : PSr) : List UInt8 := [115, 116, 114, 117, 99, 116] ++ 32 :: (qt T s.nm ++ 32 :: (itoa s.fds.length ++ 10 :: s.fds.flatMap (fdT T)))
def paT (v : PVa) : List UInt8 := [112, 97, 114, 97, 109] ++ 32 :: (varT T v ++ [10])
def vaT (v : PVa) : List UInt8 := [118, 97, 114] ++ 32 :: (varT T v ++ [10])
def fnT (f : PFn) : List UInt8 := [102, 117, 110, 99] ++ 32 :: (qt T f.nm ++ 32 :: (typT T f.ty ++ 32 :: (itoa f.params.length ++ 10 :: (f.params.flatMap (paT T) ++ stT T f.body))))
def treeT (p : PPr) : List UInt8 := [112, 114, 111, 103, 114, 97, 109] ++ 32 :: (itoa p.ss.length ++ 32 :: (itoa p.vs.length ++ 32 :: (itoa p.fs.length ++ 10 :: (p.ss.flatMap (srT T) ++ (p.vs.flatMap (vaT T) ++ p.fs.flatMap (fnT T))))))
end
variable {T : PrintTabs}
theorem typ_inj {t u : PTy} {c d : UInt8} {X Y : List UInt8} (h : typT T t ++ c :: X = typT T u ++ d :: Y) : t = u ∧ c :: X = d :: Y := by
 unfold typT at h
 simp only [List.append_assoc, List.cons_append] at h
 obtain ⟨h1, h⟩ := itoa_inj (.inl rfl) (.inl rfl) h
 obtain ⟨h2, h⟩ := itoa_inj (.inl rfl) (.inl rfl) h
 obtain ⟨h3, h9⟩ := qt_inj T h
 clear h
 obtain ⟨a, b, e⟩ := t
 obtain ⟨a', b', e'⟩ := u
 simp only at h1 h2 h3
 exact ⟨by rw [h1, h2, h3], h9⟩
theorem var_inj {v u : PVa} {c d : UInt8} {X Y : List UInt8} (hc : c = 32 ∨ c = 10) (hd : d = 32 ∨ d = 10) (h : varT T v ++ c :: X = varT T u ++ d :: Y) : EqVa false v u ∧ X = Y := by
 unfold varT at h
 simp only [List.append_assoc, List.cons_append] at h
 obtain ⟨h1, h⟩ := qt_inj T h
 simp only [List.cons.injEq, true_and] at h
 obtain ⟨h2, h⟩ := typ_inj h
 simp only [List.cons.injEq, true_and] at h
 obtain ⟨h3, h⟩ := itoa_inj hc hd h
 exact ⟨⟨h1, h2, h3, fun e => by cases e⟩, h⟩
theorem EqEs.cons {x y : PEx} {l m : List PEx} (h : EqE false x y) (g : EqEs false l m) : EqEs false (x :: l) (y :: m) := ⟨by simp [g.1], fun i hi => by
 cases i with
 | zero => exact h
 | succ i => exact g.2 i (by simpa using hi)⟩
theorem EqSs.cons {x y : PSt} {l m : List PSt} (h : EqS false x y) (g : EqSs false l m) : EqSs false (x :: l) (y :: m) := ⟨by simp [g.1], fun i hi => by
 cases i with
 | zero => exact h
 | succ i => exact g.2 i (by simpa using hi)⟩
theorem cnt_inj {n m : Nat} {c d : UInt8} {X Y : List UInt8} (hc : c = 32 ∨ c = 10) (hd : d = 32 ∨ d = 10) (h : itoa (n : Int) ++ c :: X = itoa (m : Int) ++ d :: Y) : n = m ∧ X = Y := by
 obtain ⟨h1, h2⟩ := itoa_inj hc hd h
 exact ⟨by omega, h2⟩
mutual
theorem exT_inj : ∀ (x y : PEx) (X Y : List UInt8), exT T x ++ X = exT T y ++ Y → EqE false x y ∧ X = Y
 | .mk kd op nm num kids ty a, .mk kd' op' nm' num' kids' ty' a', X, Y, h => by
  simp only [exT, exLine, List.append_assoc, List.cons_append, List.nil_append, List.cons.injEq, true_and] at h
  obtain ⟨h1, h⟩ := itoa_inj (.inl rfl) (.inl rfl) h
  obtain ⟨h2, h⟩ := qt_inj T h
  simp only [List.cons.injEq, true_and] at h
  obtain ⟨h3, h⟩ := qt_inj T h
  simp only [List.cons.injEq, true_and] at h
  obtain ⟨h4, h⟩ := itoa_inj (.inl rfl) (.inl rfl) h
  obtain ⟨h5, h⟩ := typ_inj h
  simp only [List.cons.injEq, true_and] at h
  obtain ⟨h6, h⟩ := cnt_inj (.inr rfl) (.inr rfl) h
  obtain ⟨h7, h⟩ := exsT_inj kids kids' X Y h6 h
  exact ⟨eqE_iff.2 ⟨h1, h2, h3, h4, h5, (fun e => by cases e), h7⟩, h⟩
theorem exsT_inj : ∀ (l m : List PEx) (X Y : List UInt8), l.length = m.length → exsT T l ++ X = exsT T m ++ Y → EqEs false l m ∧ X = Y
 | [], m, X, Y, hl, h => by
  cases m with
  | nil => exact ⟨⟨rfl, fun i hi => by simp at hi⟩, by simpa [exsT] using h⟩
  | cons y m => simp at hl
 | x :: l, m, X, Y, hl, h => by
  cases m with
  | nil => simp at hl
  | cons y m =>
   simp only [exsT, List.append_assoc] at h
   obtain ⟨h1, h⟩ := exT_inj x y _ _ h
   obtain ⟨h2, h⟩ := exsT_inj l m X Y (by simpa using hl) h
   exact ⟨EqEs.cons h1 h2, h⟩
end
mutual
theorem stT_inj : ∀ (x y : PSt) (X Y : List UInt8), stT T x ++ X = stT T y ++ Y → EqS false x y ∧ X = Y
 | .mk kd exprs kids v a, .mk kd' exprs' kids' v' a', X, Y, h => by
  simp only [stT, stLine, List.append_assoc, List.cons_append, List.nil_append, List.cons.injEq, true_and] at h
  obtain ⟨h1, h⟩ := itoa_inj (.inl rfl) (.inl rfl) h
  obtain ⟨h2, h⟩ := var_inj (.inl rfl) (.inl rfl) h
  obtain ⟨h3, h⟩ := cnt_inj (.inl rfl) (.inl rfl) h
  obtain ⟨h4, h⟩ := cnt_inj (.inr rfl) (.inr rfl) h
  obtain ⟨h5, h⟩ := exsT_inj exprs exprs' _ _ h3 h
  obtain ⟨h6, h⟩ := stsT_inj kids kids' X Y h4 h
  exact ⟨eqS_iff.2 ⟨h1, (fun e => by cases e), h2, h5, h6⟩, h⟩
theorem stsT_inj : ∀ (l m : List PSt) (X Y : List UInt8), l.length = m.length → stsT T l ++ X = stsT T m ++ Y → EqSs false l m ∧ X = Y
 | [], m, X, Y, hl, h => by
  cases m with
  | nil => exact ⟨⟨rfl, fun i hi => by simp at hi⟩, by simpa [stsT] using h⟩
  | cons y m => simp at hl
 | x :: l, m, X, Y, hl, h => by
  cases m with
  | nil => simp at hl
  | cons y m =>
   simp only [stsT, List.append_assoc] at h
   obtain ⟨h1, h⟩ := stT_inj x y _ _ h
   obtain ⟨h2, h⟩ := stsT_inj l m X Y (by simpa using hl) h
   exact ⟨EqSs.cons h1 h2, h⟩
end
theorem flat_inj {α : Type} {f : α → List UInt8} {R : α → α → Prop} {d : α} (hf : ∀ (x y : α) (X Y : List UInt8), f x ++ X = f y ++ Y → R x y ∧ X = Y) : ∀ (l m : List α) (X Y : List UInt8), l.length = m.length → l.flatMap f ++ X = m.flatMap f ++ Y → EqL R d l m ∧ X = Y := by
 intro l
 induction l with
 | nil =>
  intro m X Y hl h
  cases m with
  | nil => exact ⟨⟨rfl, fun i hi => by simp at hi⟩, by simpa using h⟩
  | cons y m => simp at hl
 | cons x l ih =>
  intro m X Y hl h
  cases m with
  | nil => simp at hl
  | cons y m =>
   simp only [List.flatMap_cons, List.append_assoc] at h
   obtain ⟨h1, h⟩ := hf x y _ _ h
   obtain ⟨h2, h⟩ := ih m X Y (by simpa using hl) h
   refine ⟨⟨by simp [h2.1], fun i hi => ?_⟩, h⟩
   cases i with
   | zero => exact h1
   | succ i => exact h2.2 i (by simpa using hi)
theorem fd_inj (x y : PFd) (X Y : List UInt8) (h : fdT T x ++ X = fdT T y ++ Y) : EqFd false x y ∧ X = Y := by
 simp only [fdT, List.append_assoc, List.cons_append, List.nil_append, List.cons.injEq, true_and] at h
 obtain ⟨h1, h⟩ := qt_inj T h
 simp only [List.cons.injEq, true_and] at h
 obtain ⟨h2, h⟩ := typ_inj h
 simp only [List.cons.injEq, true_and] at h
 exact ⟨⟨h1, h2, fun e => by cases e⟩, h⟩
theorem sr_inj (x y : PSr) (X Y : List UInt8) (h : srT T x ++ X = srT T y ++ Y) : EqSr false x y ∧ X = Y := by
 simp only [srT, List.append_assoc, List.cons_append, List.nil_append, List.cons.injEq, true_and] at h
 obtain ⟨h1, h⟩ := qt_inj T h
 simp only [List.cons.injEq, true_and] at h
 obtain ⟨h2, h⟩ := cnt_inj (.inr rfl) (.inr rfl) h
 obtain ⟨h3, h⟩ := flat_inj fd_inj _ _ X Y h2 h
 exact ⟨⟨h1, (fun e => by cases e), h3⟩, h⟩
theorem pa_inj (x y : PVa) (X Y : List UInt8) (h : paT T x ++ X = paT T y ++ Y) : EqVa false x y ∧ X = Y := by
 simp only [paT, List.append_assoc, List.cons_append, List.nil_append, List.cons.injEq, true_and] at h
 exact var_inj (.inr rfl) (.inr rfl) h
theorem va_inj (x y : PVa) (X Y : List UInt8) (h : vaT T x ++ X = vaT T y ++ Y) : EqVa false x y ∧ X = Y := by
 simp only [vaT, List.append_assoc, List.cons_append, List.nil_append, List.cons.injEq, true_and] at h
 exact var_inj (.inr rfl) (.inr rfl) h
theorem fn_inj (x y : PFn) (X Y : List UInt8) (h : fnT T x ++ X = fnT T y ++ Y) : EqFn false x y ∧ X = Y := by
 simp only [fnT, List.append_assoc, List.cons_append, List.nil_append, List.cons.injEq, true_and] at h
 obtain ⟨h1, h⟩ := qt_inj T h
 simp only [List.cons.injEq, true_and] at h
 obtain ⟨h2, h⟩ := typ_inj h
 simp only [List.cons.injEq, true_and] at h
 obtain ⟨h3, h⟩ := cnt_inj (.inr rfl) (.inr rfl) h
 obtain ⟨h4, h⟩ := flat_inj (d := va0) pa_inj _ _ _ _ h3 h
 obtain ⟨h5, h⟩ := stT_inj _ _ _ _ h
 exact ⟨⟨h1, h2, (fun e => by cases e), h4, h5⟩, h⟩
theorem tree_inj {p q : PPr} (h : treeT T p = treeT T q) : EqP false p q := by
 simp only [treeT, List.append_assoc, List.cons_append, List.nil_append, List.cons.injEq, true_and] at h
 obtain ⟨h1, h⟩ := cnt_inj (.inl rfl) (.inl rfl) h
 obtain ⟨h2, h⟩ := cnt_inj (.inl rfl) (.inl rfl) h
 obtain ⟨h3, h⟩ := cnt_inj (.inr rfl) (.inr rfl) h
 obtain ⟨h4, h⟩ := flat_inj (d := sr0) sr_inj _ _ _ _ h1 h
 obtain ⟨h5, h⟩ := flat_inj (d := va0) va_inj _ _ _ _ h2 h
 rw [← List.append_nil (p.fs.flatMap _), ← List.append_nil (q.fs.flatMap _)] at h
 obtain ⟨h6, h⟩ := flat_inj (d := fn0) fn_inj _ _ _ _ h3 h
 exact ⟨h4, h5, h6⟩
theorem exs_flat (l : List PEx) : exsT T l = l.flatMap (exT T) := by
 induction l with
 | nil => simp [exsT]
 | cons x l ih => simp [exsT, ih]
theorem sts_flat (l : List PSt) : stsT T l = l.flatMap (stT T) := by
 induction l with
 | nil => simp [stsT]
 | cons x l ih => simp [stsT, ih]
theorem flat_eq {α : Type} {f : α → List UInt8} {d : α} : ∀ (l m : List α), l.length = m.length → (∀ i, i < l.length → f (l.getD i d) = f (m.getD i d)) → l.flatMap f = m.flatMap f := by
 intro l
 induction l with
 | nil => intro m hl _; cases m with | nil => rfl | cons y m => simp at hl
 | cons x l ih =>
  intro m hl h
  cases m with
  | nil => simp at hl
  | cons y m =>
   rw [List.flatMap_cons, List.flatMap_cons, ih m (by simpa using hl) (fun i hi => h (i + 1) (by simpa using hi))]
   have := h 0 (by simp)
   simp only [List.getD_cons_zero] at this
   rw [this]
theorem exT_eq {x y : PEx} (h : EqE false x y) : exT T x = exT T y := by
 induction h with
 | mk ha hl hk ih => simp only [exT, exs_flat]; rw [hl, flat_eq _ _ hl ih]
theorem exs_eq {l m : List PEx} (h : EqEs false l m) : exsT T l = exsT T m := by
 rw [exs_flat, exs_flat]
 exact flat_eq _ _ h.1 fun i hi => exT_eq (h.2 i hi)
theorem va_eq {x y : PVa} (h : EqVa false x y) : varT T x = varT T y := by unfold varT; rw [h.nm, h.ty, h.ln]
theorem stT_eq {x y : PSt} (h : EqS false x y) : stT T x = stT T y := by
 induction h with
 | mk ha hv he hl hk ih =>
  simp only [stT, sts_flat, stLine]
  rw [exs_eq he, va_eq hv, he.1, hl, flat_eq _ _ hl ih]
theorem sr_eq {x y : PSr} (h : EqSr false x y) : srT T x = srT T y := by
 unfold srT
 rw [h.nm, h.fds.1, flat_eq _ _ h.fds.1 fun i hi => by have := h.fds.2 i hi; unfold fdT; rw [this.nm, this.ty]]
theorem fn_eq {x y : PFn} (h : EqFn false x y) : fnT T x = fnT T y := by
 unfold fnT
 rw [h.nm, h.ty, h.params.1, stT_eq h.body, flat_eq _ _ h.params.1 fun i hi => by have := h.params.2 i hi; unfold paT; rw [va_eq this]]
theorem tree_eq {p q : PPr} (h : EqP false p q) : treeT T p = treeT T q := by
 unfold treeT
 rw [h.ss.1, h.vs.1, h.fs.1, flat_eq _ _ h.ss.1 fun i hi => sr_eq (h.ss.2 i hi), flat_eq _ _ h.vs.1 fun i hi => (by have := h.vs.2 i hi; unfold vaT; rw [va_eq this]), flat_eq _ _ h.fs.1 fun i hi => fn_eq (h.fs.2 i hi)]
end Pa
open Lx
namespace Pa
def fitI (n : Int) : Prop := -9223372036854775808 ≤ n ∧ n ≤ 9223372036854775807
def fitU (n : Int) : Prop := 0 ≤ n ∧ n ≤ 18446744073709551615
instance (n : Int) : Decidable (fitI n) := by unfold fitI; infer_instance
instance (n : Int) : Decidable (fitU n) := by unfold fitU; infer_instance
def shT (t : PTy) : Prop := t.rc.size ≤ 8192 ∧ fitI t.ba ∧ fitI t.st
theorem mnD_rg {base : Int} (hb : 0 < base) : ∀ (l : List UInt8) (n m : Int), 0 ≤ n → n ≤ 9223372036854775807 → mnD base n l = some m → 0 ≤ m ∧ m ≤ 9223372036854775807
 | [], n, m, h0, h1, h => by simp only [mnD, Option.some.injEq] at h; omega
 | c :: l, n, m, h0, h1, h => by
  simp only [mnD] at h
  split at h
  ·cases h
  ·rename_i hd
   simp only [badD, Bool.or_eq_true, decide_eq_true_eq, not_or, Int.not_le, Int.not_lt] at hd
   have hdv : 0 ≤ dv (bt c) := by unfold dv; split <;> (try split) <;> omega
   have h2 := (Int.le_ediv_iff_mul_le hb).1 hd.2
   have h3 := Int.mul_nonneg h0 (Int.le_of_lt hb)
   exact mnD_rg hb l _ m (by omega) (by omega) h
theorem mean_rg (l : List UInt8) : fitU ((meanV l).getD 0) := by
 have hin : ∀ (base : Int) (l : List UInt8), 0 < base → fitU ((meanIn base l).getD 0) := fun base l hb => by
  unfold meanIn
  split
  ·decide
  ·cases h : mnD base 0 l with
   | none => decide
   | some m =>
    have := mnD_rg hb l 0 m (by omega) (by omega) h
    exact ⟨this.1, by show m ≤ _; omega⟩
 unfold meanV
 split
 ·have := bt_range (l.getD 1 0)
  exact ⟨this.1, by show bt _ ≤ _; omega⟩
 split
 ·decide
 split
 ·exact hin _ _ (by decide)
 ·exact hin _ _ (by decide)
mutual
def nE : PEx → Nat
 | .mk _ _ _ _ kids _ _ => nEs kids + 1
def nEs : List PEx → Nat
 | [] => 0
 | x :: l => nE x + nEs l
end
mutual
def shE : PEx → Prop
 | .mk kd op nm num kids ty _ => (op.size ≤ 8192 ∧ nm.size ≤ 8192 ∧ shT ty ∧ fitI kd ∧ fitU num) ∧ shEs kids
def shEs : List PEx → Prop
 | [] => True
 | x :: l => shE x ∧ shEs l
end
theorem shEs_app : ∀ {l m : List PEx}, shEs l → shEs m → shEs (l ++ m)
 | [], m, _, h => h
 | x :: l, m, h, g => ⟨h.1, shEs_app h.2 g⟩
theorem nEs_app : ∀ (l m : List PEx), nEs (l ++ m) = nEs l + nEs m
 | [], m => by simp [nEs]
 | x :: l, m => by simp only [List.cons_append, nEs, nEs_app l m]; omega
theorem sz0 : (⟨#[]⟩ : ByteArray).size ≤ 8192 := by show (0 : Nat) ≤ 8192; omega
theorem szB : eB.size ≤ 8192 := sz0
theorem szS : (⟨#[42]⟩ : ByteArray).size ≤ 8192 := by show (1 : Nat) ≤ 8192; omega
theorem szT : shT ty0 := ⟨sz0, by decide, by decide⟩
theorem sh0 : shE ex0 := ⟨⟨sz0, sz0, szT, by decide, by decide⟩, trivial⟩
theorem sh1 {kd : Int} {op nm : ByteArray} {num : Int} {kids : List PEx} {ty : PTy} {a : Nat} (h1 : op.size ≤ 8192) (h2 : nm.size ≤ 8192) (h3 : shT ty) (h : shEs kids) (hk : fitI kd := by decide) (hn : fitU num := by decide) : shE (.mk kd op nm num kids ty a) := ⟨⟨h1, h2, h3, hk, hn⟩, h⟩
theorem hd1_sh {r : List PEx × S} (h : shEs r.1) : shE (hd1 r) := by
 unfold hd1
 cases hr : r.1 with
 | nil => exact sh0
 | cons x l => rw [hr] at h; exact h.1
theorem oneT_sz {s : S} (h : Ok s) (k : Int) : (s.oneT k).size ≤ 8192 := by
 unfold S.oneT; split
 ·exact h.hd.1
 ·exact sz0
theorem stars_rg : ∀ n k (s : S) (m : Int) (s' : S), starsV n k s = (some m, s') → k ≤ m ∧ m ≤ k + n := by
 intro n
 induction n with
 | zero => intro k s m s' h; unfold starsV at h; split at h <;> simp at h; omega
 | succ n ih =>
  intro k s m s' h
  unfold starsV at h
  split at h
  ·have := ih _ _ _ _ h; omega
  ·simp at h; omega
theorem typeV_sz {s : S} (h : Ok s) : shT (typeV s).1 := by
 unfold typeV
 split
 ·exact szT
 ·rename_i b hb
  split
  ·exact szT
  ·rename_i k s' hk
   have h1 := stars_rg _ _ _ _ _ hk
   have h2 := base_rg hb
   refine ⟨?_, ⟨by show _ ≤ b; omega, by show b ≤ _; omega⟩, ⟨by show _ ≤ k; omega, by show k ≤ _; omega⟩⟩
   show ByteArray.size (if b = 4 then s.tl.oneT 1 else ⟨#[]⟩) ≤ 8192
   split
   ·exact oneT_sz (tl_lt h (.inl (base_ne hb))).le.ok 1
   ·exact sz0
def inW : Qe → Nat
 | .binL _ _ x => nE x | .posL _ x => nE x | .betL _ l => nEs l | .use _ _ _ => 1 | _ => 0
def inSh : Qe → Prop
 | .binL _ _ x => shE x | .posL _ x => shE x | .betL _ l => shEs l | .use nm _ _ => nm.size ≤ 8192 | _ => True
def outW : Qe → List PEx × S → Nat
 | .betE _, r => nEs r.1 | .betL _ _, r => nEs r.1 | _, r => nE (hd1 r)
theorem hd1_one (x : PEx) (s : S) : hd1 ([x], s) = x := rfl
def Cn (q : Qe) (s : S) (r : List PEx × S) : Prop := (inSh q → shEs r.1) ∧ (r.2.er = 0 → outW q r + r.2.tk.length ≤ inW q + s.tk.length)
theorem runE_n : ∀ f q s, En q s f → Cn q s (runE f q s) := by
 intro f
 induction f with
 | zero => intro q s ⟨h, h1, _⟩; cases q <;> (simp only [rank] at h1; omega)
 | succ f ih =>
  intro q s ⟨h, h1, hl⟩
  have hp := h.pos
  cases q with
  | expr d =>
   simp only [rank] at h1
   have e1 : En (.bin d 1) s f := ⟨h, by simp only [rank]; omega, Int.le_refl _⟩
   obtain ⟨s1, n1⟩ := ih _ _ e1
   have ha := (runE_le f _ _ e1).2 rfl
   simp only [runE]
   split
   ·rename_i h2
    have ht := tl_lt ha.le.ok (is_ne h2 (by decide))
    have hz := (tl_ok ha.le.ok (is_ne h2 (by decide))).2
    have e2 : En (.expr (d + 1)) (runE f (.bin d 1) s).2.tl f := ⟨ht.le.ok, by simp only [rank]; have := ha.le.len; omega, trivial⟩
    obtain ⟨s2, n2⟩ := ih _ _ e2
    have hb := (runE_le f _ _ e2).1
    refine ⟨fun _ => ⟨sh1 szB szB szT ⟨hd1_sh (s1 trivial), hd1_sh (s2 trivial), trivial⟩, trivial⟩, fun he => ?_⟩
    have g2 := n2 he
    have g1 := n1 (ht.le.er (hb.er he))
    simp only [outW, inW, hd1_one, nE, nEs] at g1 g2 ⊢
    omega
   ·refine ⟨fun _ => ⟨hd1_sh (s1 trivial), trivial⟩, fun he => ?_⟩
    have g1 := n1 he
    simp only [outW, inW, hd1_one] at g1 ⊢
    omega
  | bin d l =>
   simp only [rank] at h1
   have e1 : En (.un (d + 1)) s f := ⟨h, by simp only [rank]; omega, trivial⟩
   obtain ⟨s1, n1⟩ := ih _ _ e1
   have ha := (runE_le f _ _ e1).2 rfl
   simp only [runE]
   have e2 : En (.binL d l (hd1 (runE f (.un (d + 1)) s))) (runE f (.un (d + 1)) s).2 f := ⟨ha.le.ok, by simp only [rank]; have := ha.le.len; omega, hl⟩
   obtain ⟨s2, n2⟩ := ih _ _ e2
   have hb := (runE_le f _ _ e2).1
   refine ⟨fun _ => s2 (hd1_sh (s1 trivial)), fun he => ?_⟩
   have g2 := n2 he
   have g1 := n1 (hb.er he)
   simp only [outW, inW] at g1 g2 ⊢
   omega
  | binL d l x =>
   simp only [rank] at h1
   simp only [lOk] at hl
   simp only [runE]
   split
   ·refine ⟨fun hs => ⟨hs, trivial⟩, fun he => ?_⟩
    simp only [outW, inW, hd1_one]
    omega
   ·rename_i h2
    have hne := Or.inl (b := s.hd.kd ≠ 0) (str_ne h2 hl)
    have ht := tl_lt h hne
    have hz := (tl_ok h hne).2
    have hsr := str_rg s.hd.tx
    have e1 : En (.bin d (strV s.hd.tx + 1)) s.tl f := ⟨ht.le.ok, by simp only [rank]; omega, by simp only [lOk]; omega⟩
    obtain ⟨s1, n1⟩ := ih _ _ e1
    have ha := (runE_le f _ _ e1).1
    have e2 : En (.binL d l (.mk 4 s.hd.tx eB 0 [x, hd1 (runE f (.bin d (strV s.hd.tx + 1)) s.tl)] ty0 x.at_)) (runE f (.bin d (strV s.hd.tx + 1)) s.tl).2 f := ⟨ha.ok, by simp only [rank]; have := ha.len; omega, hl⟩
    obtain ⟨s2, n2⟩ := ih _ _ e2
    have hb := (runE_le f _ _ e2).1
    refine ⟨fun hs => s2 (by show shE _; exact sh1 h.hd.1 szB szT ⟨hs, hd1_sh (s1 trivial), trivial⟩), fun he => ?_⟩
    have g2 := n2 he
    have g1 := n1 (hb.er he)
    simp only [outW, inW, nE, nEs] at g1 g2 ⊢
    omega
  | un d =>
   simp only [rank] at h1
   have hd := deep_le h d
   simp only [runE]
   have hs0 : s.tk.length = s.tk.length := rfl
   generalize hsd : deepS d s = s' at *
   have h := hd.ok
   have hlen := hd.len
   split
   ·rename_i h2
    have hne := Or.inl (b := s'.hd.kd ≠ 0) (un_ne h2)
    have ht := tl_lt h hne
    have hz := (tl_ok h hne).2
    have e1 : En (.un (d + 1)) s'.tl f := ⟨ht.le.ok, by simp only [rank]; omega, trivial⟩
    obtain ⟨s1, n1⟩ := ih _ _ e1
    refine ⟨fun _ => ⟨sh1 h.hd.1 szB szT ⟨hd1_sh (s1 trivial), trivial⟩, trivial⟩, fun he => ?_⟩
    have g1 := n1 he
    simp only [outW, inW, hd1_one, nE, nEs] at g1 ⊢
    omega
   ·split
    ·rename_i _ h2
     have ht := tl_lt h (.inl (by rw [h2]; decide))
     have hz := (tl_ok h (.inl (by rw [h2]; decide))).2
     have h3 := (want_lt ht.le.ok (x := ⟨#[40]⟩) (by decide)).le
     have h4 := (type_lt h3.ok).le
     have h5 := (want_lt h4.ok (x := ⟨#[41]⟩) (by decide)).le
     refine ⟨fun _ => ⟨sh1 szB szB (typeV_sz h3.ok) trivial, trivial⟩, fun he => ?_⟩
     have k3 := h3.len
     have k4 := h4.len
     have k5 := h5.len
     simp only [outW, inW, hd1_one, nE, nEs] at *
     omega
    ·split
     ·rename_i _ _ h2
      have hne := Or.inl (a := s'.hd.tx ≠ ⟨#[]⟩) (b := s'.hd.kd ≠ 0) (by rw [h2.1]; decide)
      have ht := tl_lt h hne
      have hz := (tl_ok h hne).2
      have e1 : En (.cast s'.hd.at_ d) s'.tl f := ⟨ht.le.ok, by simp only [rank]; omega, trivial⟩
      obtain ⟨s1, n1⟩ := ih _ _ e1
      refine ⟨fun _ => s1 trivial, fun he => ?_⟩
      have g1 := n1 he
      simp only [outW, inW] at g1 ⊢
      omega
     ·have e1 : En (.post d) s' f := ⟨h, by simp only [rank]; omega, trivial⟩
      obtain ⟨s1, n1⟩ := ih _ _ e1
      refine ⟨fun _ => s1 trivial, fun he => ?_⟩
      have g1 := n1 he
      simp only [outW, inW] at g1 ⊢
      omega
  | cast a d =>
   simp only [rank] at h1
   simp only [runE]
   have h0 := type_lt h
   have h2 := (type_lt h).trans (want_lt (type_lt h).le.ok (x := ⟨#[41]⟩) (by decide)).le
   have hlen := h2.le.len
   have hty := typeV_sz h
   generalize (typeV s).2.want ⟨#[41]⟩ = s2 at *
   split
   ·rename_i h3
    have ht := tl_lt h2.le.ok (is_ne h3 (by decide))
    have hz := (tl_ok h2.le.ok (is_ne h3 (by decide))).2
    have hw := want_lt ht.le.ok (x := ⟨#[40]⟩) (by decide)
    have e1 : En (.inside d) (s2.tl.want ⟨#[40]⟩) f := ⟨hw.le.ok, by simp only [rank]; have := hw.le.len; omega, trivial⟩
    obtain ⟨s1, n1⟩ := ih _ _ e1
    refine ⟨fun _ => ⟨sh1 szB szB hty ⟨hd1_sh (s1 trivial), trivial⟩, trivial⟩, fun he => ?_⟩
    have g1 := n1 he
    have := hw.le.len
    simp only [outW, inW, hd1_one, nE, nEs] at g1 ⊢
    omega
   ·have e1 : En (.un (d + 1)) s2 f := ⟨h2.le.ok, by simp only [rank]; omega, trivial⟩
    obtain ⟨s1, n1⟩ := ih _ _ e1
    have ha := (runE_le f _ _ e1).1
    refine ⟨fun _ => ⟨sh1 szB szB hty ⟨hd1_sh (s1 trivial), trivial⟩, trivial⟩, fun he => ?_⟩
    have g1 := n1 he
    have := h2.lt (ha.er he)
    simp only [outW, inW, hd1_one, nE, nEs] at g1 ⊢
    omega
  | inside d =>
   simp only [rank] at h1
   simp only [runE]
   have e1 : En (.expr (d + 1)) s f := ⟨h, by simp only [rank]; omega, trivial⟩
   obtain ⟨s1, n1⟩ := ih _ _ e1
   have ha := (runE_le f _ _ e1).2 rfl
   have hw := (want_lt ha.le.ok (x := ⟨#[41]⟩) (by decide)).le
   refine ⟨fun _ => ⟨hd1_sh (s1 trivial), trivial⟩, fun he => ?_⟩
   have g1 := n1 (hw.er he)
   have := hw.len
   simp only [outW, inW, hd1_one] at g1 ⊢
   omega
  | post d =>
   simp only [rank] at h1
   simp only [runE]
   have e1 : En (.atom d) s f := ⟨h, by simp only [rank]; omega, trivial⟩
   obtain ⟨s1, n1⟩ := ih _ _ e1
   have ha := (runE_le f _ _ e1).2 rfl
   have e2 : En (.posL d (hd1 (runE f (.atom d) s))) (runE f (.atom d) s).2 f := ⟨ha.le.ok, by simp only [rank]; have := ha.le.len; omega, trivial⟩
   obtain ⟨s2, n2⟩ := ih _ _ e2
   have hb := (runE_le f _ _ e2).1
   refine ⟨fun _ => s2 (hd1_sh (s1 trivial)), fun he => ?_⟩
   have g2 := n2 he
   have g1 := n1 (hb.er he)
   simp only [outW, inW] at g1 g2 ⊢
   omega
  | posL d x =>
   simp only [rank] at h1
   simp only [runE]
   split
   ·rename_i h2
    have ht := tl_lt h (is_ne h2 (by decide))
    have hz := (tl_ok h (is_ne h2 (by decide))).2
    have e1 : En (.expr (d + 1)) s.tl f := ⟨ht.le.ok, by simp only [rank]; omega, trivial⟩
    obtain ⟨s1, n1⟩ := ih _ _ e1
    have ha := (runE_le f _ _ e1).1
    have hw := (want_lt ha.ok (x := ⟨#[93]⟩) (by decide)).le
    have e2 : En (.posL d (.mk 7 eB eB 0 [x, hd1 (runE f (.expr (d + 1)) s.tl)] ty0 x.at_)) ((runE f (.expr (d + 1)) s.tl).2.want ⟨#[93]⟩) f := ⟨hw.ok, by simp only [rank]; have := ha.len; have := hw.len; omega, trivial⟩
    obtain ⟨s2, n2⟩ := ih _ _ e2
    have hb := (runE_le f _ _ e2).1
    refine ⟨fun hs => s2 (by show shE _; exact sh1 szB szB szT ⟨hs, hd1_sh (s1 trivial), trivial⟩), fun he => ?_⟩
    have g2 := n2 he
    have g1 := n1 (hw.er (hb.er he))
    have := hw.len
    simp only [outW, inW, nE, nEs] at g1 g2 ⊢
    omega
   ·split
    ·rename_i _ h2
     have ht := tl_lt h (is_ne h2 (by decide))
     have hz := (tl_ok h (is_ne h2 (by decide))).2
     have ho := (one_lt ht.le.ok (k := 1) (by decide)).le
     have e2 : En (.posL d (.mk 8 eB (s.tl.oneT 1) 0 [x] ty0 x.at_)) (s.tl.one 1) f := ⟨ho.ok, by simp only [rank]; have := ho.len; omega, trivial⟩
     obtain ⟨s2, n2⟩ := ih _ _ e2
     refine ⟨fun hs => s2 (by show shE _; exact sh1 szB (oneT_sz ht.le.ok 1) szT ⟨hs, trivial⟩), fun he => ?_⟩
     have g2 := n2 he
     have := ho.len
     simp only [outW, inW, nE, nEs] at g2 ⊢
     omega
    ·split
     ·rename_i _ _ h2
      have ht := tl_lt h (is_ne h2 (by decide))
      have hz := (tl_ok h (is_ne h2 (by decide))).2
      have ho := one_lt ht.le.ok (k := 1) (by decide)
      have e2 : En (.posL d (.mk 8 eB (s.tl.oneT 1) 0 [.mk 3 ⟨#[42]⟩ eB 0 [x] ty0 x.at_] ty0 x.at_)) (s.tl.one 1) f := ⟨ho.le.ok, by simp only [rank]; have := ho.le.len; omega, trivial⟩
      obtain ⟨s2, n2⟩ := ih _ _ e2
      have hb := (runE_le f _ _ e2).1
      refine ⟨fun hs => s2 (by show shE _; exact sh1 szB (oneT_sz ht.le.ok 1) szT ⟨sh1 szS szB szT ⟨hs, trivial⟩, trivial⟩), fun he => ?_⟩
      have g2 := n2 he
      have := ho.lt (hb.er he)
      simp only [outW, inW, nE, nEs] at g2 ⊢
      omega
     ·refine ⟨fun hs => ⟨hs, trivial⟩, fun he => ?_⟩
      simp only [outW, inW, hd1_one]
      omega
  | atom d =>
   simp only [rank] at h1
   simp only [runE]
   split
   ·rename_i h2
    have hz := (tl_ok h (.inr (by rw [h2]; decide))).2
    refine ⟨fun _ => ⟨by show shE _; exact sh1 szB szB szT trivial (by decide) (mean_rg _), trivial⟩, fun he => ?_⟩
    simp only [outW, inW, hd1_one, nE, nEs]
    omega
   ·split
    ·rename_i _ h2
     have hne := Or.inr (a := s.hd.tx ≠ ⟨#[]⟩) (b := s.hd.kd ≠ 0) (by rw [h2]; decide)
     have ht := tl_lt h hne
     have hz := (tl_ok h hne).2
     have e1 : En (.use s.hd.tx s.hd.at_ d) s.tl f := ⟨ht.le.ok, by simp only [rank]; omega, trivial⟩
     obtain ⟨s1, n1⟩ := ih _ _ e1
     refine ⟨fun _ => s1 h.hd.1, fun he => ?_⟩
     have g1 := n1 he
     simp only [outW, inW] at g1 ⊢
     omega
    ·split
     ·rename_i _ _ h2
      have ht := tl_lt h (is_ne h2 (by decide))
      have hz := (tl_ok h (is_ne h2 (by decide))).2
      have e1 : En (.inside d) s.tl f := ⟨ht.le.ok, by simp only [rank]; omega, trivial⟩
      obtain ⟨s1, n1⟩ := ih _ _ e1
      refine ⟨fun _ => s1 trivial, fun he => ?_⟩
      have g1 := n1 he
      simp only [outW, inW] at g1 ⊢
      omega
     ·exact ⟨fun _ => ⟨sh0, trivial⟩, fun he => absurd he (fail_er (by decide))⟩
  | use nm a d =>
   simp only [rank] at h1
   simp only [runE]
   split
   ·rename_i h2
    have ht := tl_lt h (is_ne h2 (by decide))
    have hz := (tl_ok h (is_ne h2 (by decide))).2
    have e1 : En (.betE (d + 1)) s.tl f := ⟨ht.le.ok, by simp only [rank]; omega, trivial⟩
    obtain ⟨s1, n1⟩ := ih _ _ e1
    refine ⟨fun hs => ⟨sh1 szB hs szT (s1 trivial), trivial⟩, fun he => ?_⟩
    have g1 := n1 he
    simp only [outW, inW, hd1_one, nE] at g1 ⊢
    omega
   ·refine ⟨fun hs => ⟨sh1 szB hs szT trivial, trivial⟩, fun he => ?_⟩
    simp only [outW, inW, hd1_one, nE, nEs]
    omega
  | betE d =>
   simp only [rank] at h1
   simp only [runE]
   split
   ·rename_i h2
    have hz := (tl_ok h (is_ne h2 (by decide))).2
    refine ⟨fun _ => trivial, fun he => ?_⟩
    simp only [outW, inW, nEs]
    omega
   ·have e1 : En (.expr d) s f := ⟨h, by simp only [rank]; omega, trivial⟩
    obtain ⟨s1, n1⟩ := ih _ _ e1
    have ha := (runE_le f _ _ e1).2 rfl
    have e2 : En (.betL d [hd1 (runE f (.expr d) s)]) (runE f (.expr d) s).2 f := ⟨ha.le.ok, by simp only [rank]; have := ha.le.len; omega, trivial⟩
    obtain ⟨s2, n2⟩ := ih _ _ e2
    have hb := (runE_le f _ _ e2).1
    refine ⟨fun _ => s2 ⟨hd1_sh (s1 trivial), trivial⟩, fun he => ?_⟩
    have g2 := n2 he
    have g1 := n1 (hb.er he)
    simp only [outW, inW, nEs] at g1 g2 ⊢
    omega
  | betL d l =>
   simp only [rank] at h1
   simp only [runE]
   split
   ·rename_i h2
    have ht := tl_lt h (is_ne h2 (by decide))
    have hz := (tl_ok h (is_ne h2 (by decide))).2
    split
    ·exact ⟨fun _ => trivial, fun he => absurd he (fail_er (by decide))⟩
    ·have e1 : En (.expr d) s.tl f := ⟨ht.le.ok, by simp only [rank]; omega, trivial⟩
     obtain ⟨s1, n1⟩ := ih _ _ e1
     have ha := (runE_le f _ _ e1).1
     have e2 : En (.betL d (l ++ [hd1 (runE f (.expr d) s.tl)])) (runE f (.expr d) s.tl).2 f := ⟨ha.ok, by simp only [rank]; have := ha.len; omega, trivial⟩
     obtain ⟨s2, n2⟩ := ih _ _ e2
     have hb := (runE_le f _ _ e2).1
     refine ⟨fun hs => s2 (shEs_app hs ⟨hd1_sh (s1 trivial), trivial⟩), fun he => ?_⟩
     have g2 := n2 he
     have g1 := n1 (hb.er he)
     simp only [outW, inW, nEs, nEs_app] at g1 g2 ⊢
     omega
   ·have hw := (want_lt h (x := ⟨#[41]⟩) (by decide)).le
    refine ⟨fun hs => hs, fun he => ?_⟩
    have := hw.len
    simp only [outW, inW]
    omega
end Pa
end Go.Proofs.YtfjobnljdkiihaaGreatDoor
