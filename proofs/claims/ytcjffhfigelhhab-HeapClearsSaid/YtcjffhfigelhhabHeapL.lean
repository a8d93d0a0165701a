/- Package heap: Free. Conditions: each theorem's. -/
import Derived.Test.YtcjffhfigelhhabHeapK
import Derived.Laws.StructEq
namespace Go.Proofs.Ytcjffhfigelhhab
open Go.RowKit Go.Maps
set_option linter.unusedVariables false
set_option linter.unusedSimpArgs false
set_option maxRecDepth 100000
open Hp
theorem cmp_ptr (p q : Ptr) (W : World) : (binOp .neq 28 p.v q.v).run Try.prog W = .ok (.bool (!decide (p = q))) W := by
  obtain ⟨a, b, c, d⟩ := p
  obtain ⟨a', b', c', d'⟩ := q
  have e : (!decide (Ptr.mk a b c d = Ptr.mk a' b' c' d')) = !(a == a' && (b == b' && (c == c' && d == d'))) := by
    simp only [Ptr.mk.injEq, Bool.decide_and]
    rfl
  rw [e]
  simp only [Ptr.v]
  go_simp
  by_cases h1 : a = a' <;> by_cases h2 : b = b' <;> by_cases h3 : c = c' <;> by_cases h4 : d = d' <;> simp [*]
theorem ifs3 {α : Type} {x y z u : Int} {A B : α} (h : ¬ (x = 0 ∧ y = 0 ∧ z = u)) : (if x = 0 then (if y = 0 then (if z = u then A else B) else B) else B) = B := by
  by_cases h1 : x = 0 <;> by_cases h2 : y = 0 <;> by_cases h3 : z = u <;> simp [*] at *
namespace Hp
def Ab.fr (A : Ab) (p : Ptr) : Int := if p.bl = 0 then 22 else match A.room p.bl with
  | none => 20
  | some (s, f) => if f = true ∧ p = ⟨p.bl, 0, 0, s⟩ then 0 else 23
def Ab.freeE (A : Ab) (p : Ptr) : Ab := if A.fr p = 0 then A.drop p.bl else A
end Hp
theorem target_ok {w : World} {g : G} {h : Nat} (p : Ptr) (hp : p.ok) (H : HeapAt w g) (hh : g.h = h) {r : Room} (hz : p.bl ≠ 0) (hr : g.room p.bl = some r) :
    Calls Try.prog 19 #[.pointer (some ⟨h, 0, none⟩), p.v] w fun e w' => e = .returned (.tuple #[.pointer (some ⟨r.rb, 0, none⟩), .int .i64 0]) ∧ Below w.heap.size w w' := by
  have ht := target_any p hp H hh
  unfold tgE tgV at ht
  rw [if_neg hz, if_neg hz, hr] at ht
  exact ht
end Go.Proofs.Ytcjffhfigelhhab
