/- strconv.Quote tells texts apart, whatever follows. No condition. -/
import Derived.Lib.QuoteLoop
import Derived.Lib.MapLaws
import Derived.Lib.ItoaNum
namespace Go.Proofs.YtfjobnljdkiihaaGreatDoor
open Go.Lib
set_option linter.unusedVariables false
set_option linter.unusedSimpArgs false
namespace Qi
inductive Tok
 | bad (b : Int)
 | rune (r : Int)
def unhex (c : Int) : Int := if c < 58 then c - 48 else c - 87
def D : List Int → Option (Tok × List Int)
 | [] => none
 | c :: l =>
  if c = 34 then none
  else if c = 92 then
   match l with
   | [] => none
   | e :: l =>
    if e = 34 ∨ e = 92 then some (.rune e, l)
    else if e = 97 then some (.rune 7, l)
    else if e = 98 then some (.rune 8, l)
    else if e = 102 then some (.rune 12, l)
    else if e = 110 then some (.rune 10, l)
    else if e = 114 then some (.rune 13, l)
    else if e = 116 then some (.rune 9, l)
    else if e = 118 then some (.rune 11, l)
    else if e = 120 then
     match l with
     | a :: b :: l => if unhex a * 16 + unhex b < 128 then some (.rune (unhex a * 16 + unhex b), l) else some (.bad (unhex a * 16 + unhex b), l)
     | _ => none
    else if e = 117 then
     match l with
     | a :: b :: c :: d :: l => some (.rune (((unhex a * 16 + unhex b) * 16 + unhex c) * 16 + unhex d), l)
     | _ => none
    else
     match l with
     | a :: b :: c :: d :: a' :: b' :: c' :: d' :: l => some (.rune (((((((unhex a * 16 + unhex b) * 16 + unhex c) * 16 + unhex d) * 16 + unhex a') * 16 + unhex b') * 16 + unhex c') * 16 + unhex d'), l)
     | _ => none
  else if c < 128 then some (.rune c, l)
  else if c < 224 then
   match l with
   | a :: l => some (.rune ((c - 192) * 64 + (a - 128)), l)
   | _ => none
  else if c < 240 then
   match l with
   | a :: b :: l => some (.rune (((c - 224) * 64 + (a - 128)) * 64 + (b - 128)), l)
   | _ => none
  else
   match l with
   | a :: b :: d :: l => some (.rune ((((c - 240) * 64 + (a - 128)) * 64 + (b - 128)) * 64 + (d - 128)), l)
   | _ => none
theorem unhex_hex (k : Nat) (h : k < 16) : unhex (hexDigit k) = (k : Int) := by
 unfold unhex hexDigit
 by_cases h1 : k < 10
 ·rw [if_pos h1, if_pos (by omega)]; omega
 ·rw [if_neg h1, if_neg (by omega)]; omega
def Vr (r : Int) : Prop := 0 ≤ r ∧ r ≤ 1114111 ∧ (r < 55296 ∨ 57343 < r)
theorem D_enc {r : Int} (h : Vr r) (h1 : r ≠ 34) (h2 : r ≠ 92) (X : List Int) : D (encodeRuneZ r ++ X) = some (.rune r, X) := by
 obtain ⟨a, b, c⟩ := h
 by_cases k1 : r ≤ 127
 ·rw [encodeRuneZ_one a k1]
  simp only [List.cons_append, List.nil_append, D]
  rw [if_neg h1, if_neg h2, if_pos (by omega)]
 by_cases k2 : r ≤ 2047
 ·rw [encodeRuneZ_two (by omega) k2]
  simp only [List.cons_append, List.nil_append, D]
  rw [if_neg (by omega), if_neg (by omega), if_neg (by omega), if_pos (by omega)]
  congr 3
  omega
 by_cases k3 : r ≤ 65535
 ·rw [encodeRuneZ_three (by omega)]
  simp only [List.cons_append, List.nil_append, D]
  rw [if_neg (by omega), if_neg (by omega), if_neg (by omega), if_neg (by omega), if_pos (by omega)]
  congr 3
  omega
 ·rw [encodeRuneZ_four (by omega) b]
  simp only [List.cons_append, List.nil_append, D]
  rw [if_neg (by omega), if_neg (by omega), if_neg (by omega), if_neg (by omega), if_neg (by omega)]
  congr 3
  omega
theorem D_bad (b : Nat) (h : 128 ≤ b) (h2 : b < 256) (X : List Int) : D ([92, 120, hexDigit (b / 16), hexDigit (b % 16)] ++ X) = some (.bad b, X) := by
 have e1 := unhex_hex (b / 16) (by omega)
 have e2 := unhex_hex (b % 16) (by omega)
 simp only [List.cons_append, List.nil_append, D, e1, e2]
 simp
 rw [if_neg (by omega)]
 congr 3
 omega
theorem D_esc (T : PrintTabs) {r : Int} (h : Vr r) (X : List Int) : D (escRune T r ++ X) = some (.rune r, X) := by
 unfold escRune
 by_cases c0 : r = 34 ∨ r = 92
 ·rw [if_pos c0]
  rcases c0 with rfl | rfl <;> rfl
 rw [if_neg c0]
 by_cases c1 : isPrintR T r = true
 ·rw [if_pos c1]; exact D_enc h (fun e => c0 (.inl e)) (fun e => c0 (.inr e)) X
 rw [if_neg c1]
 by_cases c2 : r = 7
 ·rw [if_pos c2, c2]; rfl
 rw [if_neg c2]
 by_cases c3 : r = 8
 ·rw [if_pos c3, c3]; rfl
 rw [if_neg c3]
 by_cases c4 : r = 12
 ·rw [if_pos c4, c4]; rfl
 rw [if_neg c4]
 by_cases c5 : r = 10
 ·rw [if_pos c5, c5]; rfl
 rw [if_neg c5]
 by_cases c6 : r = 13
 ·rw [if_pos c6, c6]; rfl
 rw [if_neg c6]
 by_cases c7 : r = 9
 ·rw [if_pos c7, c7]; rfl
 rw [if_neg c7]
 by_cases c8 : r = 11
 ·rw [if_pos c8, c8]; rfl
 rw [if_neg c8]
 obtain ⟨a, b, c⟩ := h
 obtain ⟨n, rfl⟩ : ∃ n : Nat, r = (n : Int) := ⟨r.toNat, by omega⟩
 have hn : ((n : Int)).toNat = n := Int.toNat_natCast n
 by_cases c9 : (n : Int) < 32 ∨ (n : Int) = 127
 ·rw [if_pos c9]
  have e1 := unhex_hex (n / 16) (by omega)
  have e2 := unhex_hex (n % 16) (by omega)
  simp only [List.cons_append, List.nil_append, D, hn, e1, e2]
  simp
  rw [if_pos (by omega)]
  congr 3
  omega
 rw [if_neg c9]
 have hv : ¬ validRune (n : Int) = false := by
  unfold validRune
  simp
  omega
 rw [if_neg hv]
 by_cases c11 : (n : Int) < 65536
 ·rw [if_pos c11]
  simp only [hexDigits, List.cons_append, List.nil_append, D, hn]
  have e : ∀ k, unhex (hexDigit (k % 16)) = ((k % 16 : Nat) : Int) := fun k => unhex_hex _ (by omega)
  simp
  simp only [e]
  omega
 ·rw [if_neg c11]
  simp only [hexDigits, List.cons_append, List.nil_append, D, hn]
  have e : ∀ k, unhex (hexDigit (k % 16)) = ((k % 16 : Nat) : Int) := fun k => unhex_hex _ (by omega)
  simp
  simp only [e]
  omega
theorem dec_range (n b0 b1 b2 b3 : Nat) (h0 : b0 < 256) : Vr ((decodeN n b0 b1 b2 b3).1 : Int) := by
 unfold decodeN Vr
 repeat' split
 all_goals (first | (dsimp only; omega))
theorem dec_bad (n b0 b1 b2 b3 : Nat) (h : (decodeN n b0 b1 b2 b3).2 = 1 ∧ (decodeN n b0 b1 b2 b3).1 = 65533) (h0 : b0 < 256) : 128 ≤ b0 := by
 unfold decodeN at h
 split at h
 ·dsimp only at h; omega
 ·omega
def bytesZ (l : List UInt8) : List Int := l.map fun b => (b.toNat : Int)
def tok (s : ByteArray) : Tok := if (Utf8.decode s 0).2 = 1 ∧ (Utf8.decode s 0).1 = 65533 then .bad (s.get! 0).toNat else .rune ((Utf8.decode s 0).1 : Int)
theorem D_step (T : PrintTabs) (s : ByteArray) (X : List Int) : D (quoteStep T s ++ X) = some (tok s, X) := by
 unfold quoteStep tok
 have hd := decode_at s 0
 have hb : (s.get! 0).toNat < 256 := UInt8.toNat_lt _
 by_cases h : (Utf8.decode s 0).2 = 1 ∧ (Utf8.decode s 0).1 = 65533
 ·rw [if_pos h, if_pos h]
  refine D_bad _ ?_ hb X
  rw [hd] at h
  exact dec_bad _ _ _ _ _ h hb
 ·rw [if_neg h, if_neg h]
  refine D_esc T ?_ X
  rw [hd]
  exact dec_range _ _ _ _ _ hb
theorem szl (s : ByteArray) : s.data.toList.length = s.size := by rw [Array.length_toList]; rfl
theorem nil_of {s : ByteArray} (h : ¬ 0 < s.size) : s.data.toList = [] := List.eq_nil_of_length_eq_zero (by rw [szl]; omega)
theorem dl (s : ByteArray) : decodeL s.data.toList = Utf8.decode s 0 := by
 unfold decodeL
 obtain ⟨⟨l⟩⟩ := s
 rfl
def took (t : Tok) : List UInt8 := match t with | .bad b => [b.toNat.toUInt8] | .rune r => encodeRune r
theorem took_tok (s : ByteArray) (h : 0 < s.size) : took (tok s) = s.data.toList.take (Utf8.decode s 0).2 ∧ (Utf8.decode s 0).2 = (took (tok s)).length := by
 have hw := width_le s h
 have hne : s.data.toList ≠ [] := by
  intro e
  have := szl s
  rw [e] at this
  simp only [List.length_nil] at this
  omega
 have hlen := szl s
 have key : took (tok s) = s.data.toList.take (Utf8.decode s 0).2 := by
  unfold tok
  by_cases hb : (Utf8.decode s 0).2 = 1 ∧ (Utf8.decode s 0).1 = 65533
  ·rw [if_pos hb, hb.1]
   unfold took
   obtain ⟨⟨l⟩⟩ := s
   cases l with
   | nil => simp at hne
   | cons b l =>
    simp only [List.take_succ_cons, List.take_zero]
    congr 1
    show ((b.toNat : Int).toNat).toUInt8 = b
    simp
  ·rw [if_neg hb]
   have := encode_decode s.data.toList hne (by rw [dl]; exact fun e => hb ⟨e.2, e.1⟩)
   rw [dl] at this
   exact this
 exact ⟨key, by rw [key, List.length_take, hlen]; omega⟩
theorem ext_drop (s : ByteArray) (n : Nat) : (s.extract n s.size).data.toList = s.data.toList.drop n := by
 simp [ByteArray.data_extract]
 exact List.take_of_length_le (by rw [List.length_drop, szl]; exact Nat.le_refl _)
theorem quote_inj (T : PrintTabs) : ∀ (f1 f2 : Nat) (s1 s2 : ByteArray) (X Y : List Int), s1.size ≤ f1 → s2.size ≤ f2 → quoteFrom T f1 s1 ++ 34 :: X = quoteFrom T f2 s2 ++ 34 :: Y → s1.data.toList = s2.data.toList ∧ X = Y := by
 intro f1
 induction f1 with
 | zero =>
  intro f2 s1 s2 X Y h1 h2 h
  have e1 : s1.data.toList = [] := nil_of (by omega)
  rw [quoteFrom_end T 0 s1 (by omega)] at h
  by_cases h3 : 0 < s2.size
  ·exfalso
   rw [quoteFrom_step T f2 s2 h3 h2, List.append_assoc] at h
   have := congrArg D h
   rw [D_step] at this
   simp [D] at this
  ·rw [quoteFrom_end T f2 s2 h3] at h
   have e2 : s2.data.toList = [] := nil_of (by omega)
   simp only [List.nil_append, List.cons.injEq, true_and] at h
   exact ⟨by rw [e1, e2], h⟩
 | succ f1 ih =>
  intro f2 s1 s2 X Y h1 h2 h
  by_cases h3 : 0 < s1.size
  ·rw [quoteFrom_step T (f1 + 1) s1 h3 h1, List.append_assoc] at h
   by_cases h4 : 0 < s2.size
   ·rw [quoteFrom_step T f2 s2 h4 h2, List.append_assoc] at h
    have hD := congrArg D h
    rw [D_step, D_step] at hD
    simp only [Option.some.injEq, Prod.mk.injEq] at hD
    obtain ⟨ht, hr⟩ := hD
    obtain ⟨k1, k2⟩ := took_tok s1 h3
    obtain ⟨k3, k4⟩ := took_tok s2 h4
    have p1 := width_pos s1 0
    have p2 := width_pos s2 0
    obtain ⟨i1, i2⟩ := ih (f2 - 1) _ _ X Y (by rw [size_rest]; omega) (by rw [size_rest]; omega) hr
    rw [ext_drop, ext_drop] at i1
    refine ⟨?_, i2⟩
    rw [← List.take_append_drop (Utf8.decode s1 0).2 s1.data.toList, ← List.take_append_drop (Utf8.decode s2 0).2 s2.data.toList, ← k1, ← k3, i1, ht]
   ·exfalso
    rw [quoteFrom_end T f2 s2 h4] at h
    have := congrArg D h
    rw [D_step] at this
    simp [D] at this
  ·rw [quoteFrom_end T (f1 + 1) s1 h3] at h
   have e1 : s1.data.toList = [] := nil_of (by omega)
   by_cases h4 : 0 < s2.size
   ·exfalso
    rw [quoteFrom_step T f2 s2 h4 h2, List.append_assoc] at h
    have := congrArg D h
    rw [D_step] at this
    simp [D] at this
   ·rw [quoteFrom_end T f2 s2 h4] at h
    have e2 : s2.data.toList = [] := nil_of (by omega)
    simp only [List.nil_append, List.cons.injEq, true_and] at h
    exact ⟨by rw [e1, e2], h⟩
theorem quoteZ_inj (T : PrintTabs) (s1 s2 : ByteArray) (X Y : List Int) (h : quoteZ T s1 ++ X = quoteZ T s2 ++ Y) : s1.data.toList = s2.data.toList ∧ X = Y := by
 unfold quoteZ at h
 simp only [List.cons_append, List.cons.injEq, true_and, List.append_assoc, List.nil_append] at h
 exact quote_inj T _ _ _ _ _ _ (Nat.le_refl _) (Nat.le_refl _) h
end Qi
end Go.Proofs.YtfjobnljdkiihaaGreatDoor
