/- Pointers of package heap: where they may point, moved, parted. Conditions: each theorem's. -/
import Derived.Test.YtjianllngobhhaaHeapA
namespace Go.Proofs.Ytjianllngobhhaa
open Go.RowKit Go.Maps
set_option linter.unusedVariables false
set_option linter.unusedSimpArgs false
set_option maxRecDepth 100000
open Hp
namespace Hp
def fits (p : Ptr) (n : Int) : Bool := decide (p.lo ≤ p.off ∧ p.off + n ≤ p.hi)
def w64 (x : Int) : Int := wrap64 x
def mv (p : Ptr) (n : Int) : Ptr := if p.bl = 0 then p else { p with off := w64 (p.off + n) }
def pt (p : Ptr) (a s : Int) : Ptr := if p.bl = 0 then p else ⟨p.bl, w64 (p.off + a), if w64 (p.off + a) > p.lo then w64 (p.off + a) else p.lo, if w64 (w64 (p.off + a) + s) < p.hi then w64 (w64 (p.off + a) + s) else p.hi⟩
theorem w64_in (x : Int) : in64 (w64 x) := by unfold w64 wrap64 in64; omega
theorem w64_id {x : Int} (h : in64 x) : w64 x = x := by unfold w64 in64 at *; exact IntWalk.wrap64_in _ h
theorem mv_ok {p : Ptr} (h : p.ok) (n : Int) : (mv p n).ok := by
  unfold mv
  split
  · exact h
  · exact ⟨h.1, w64_in _, h.2.2.1, h.2.2.2⟩
theorem pt_ok {p : Ptr} (h : p.ok) (a s : Int) : (pt p a s).ok := by
  unfold pt
  split
  · exact h
  · refine ⟨h.1, w64_in _, ?_, ?_⟩ <;> dsimp only <;> split
    · exact w64_in _
    · exact h.2.2.1
    · exact w64_in _
    · exact h.2.2.2
end Hp
theorem agg4 {b q l h l' h' : Int} (e : l = l') (f : h = h') : Value.agg #[.int .i64 b, .int .i64 q, .int .i64 l, .int .i64 h] = Value.agg #[.int .i64 b, .int .i64 q, .int .i64 l', .int .i64 h'] := by rw [e, f]
set_option maxHeartbeats 1000000 in
theorem whole_any (b s : Int) (w : World) :
    Calls Try.prog 26 #[.int .i64 b, .int .i64 s] w fun e w' => e = .returned (Ptr.mk b 0 0 s).v ∧ Below w.heap.size w w' := by
  go_enter Try.func26, Try.ntmps26
  go_wp2
  exact bodyPost_ret (by simp [results, Try.results26, go_sem]; rfl) rfl ⟨rfl, (Below.refl _ _).alloc (Nat.le_refl _) _⟩
set_option maxHeartbeats 1000000 in
theorem within_any (p : Ptr) (n : Int) (w : World) (hp : p.ok) (hn : n = 1 ∨ n = 4 ∨ n = 8) :
    Calls Try.prog 38 #[p.v, .int .i64 n] w fun e w' => e = .returned (.bool (fits p n)) ∧ Below w.heap.size w w' := by
  obtain ⟨b, o, l, h⟩ := p
  obtain ⟨h1, h2, h3, h4⟩ := hp
  unfold in64 at h1 h2 h3 h4
  simp only [Ptr.v] at *
  go_enter Try.func38, Try.ntmps38
  go_wp2
  all_goals
    go_ret
    refine ⟨congrArg (fun x => Ending.returned (Value.bool x)) ?_, (Below.refl _ _).alloc (Nat.le_refl _) _⟩
    unfold fits
    simp only [IntKind.wrap_u64]
    first
    | (rw [decide_eq_decide]; omega)
    | (symm; rw [decide_eq_false_iff_not]; omega)
set_option maxHeartbeats 1000000 in
theorem move_any (p : Ptr) (n : Int) (w : World) (hp : p.ok) :
    Calls Try.prog 7 #[p.v, .int .i64 n] w fun e w' => e = .returned (mv p n).v ∧ Below w.heap.size w w' := by
  obtain ⟨b, o, l, h⟩ := p
  simp only [Ptr.v] at *
  by_cases hb : b = 0
  · subst hb
    go_enter Try.func7, Try.ntmps7
    go_wp2
    refine bodyPost_ret (by simp [results, Try.results7, go_sem]; rfl) rfl ⟨?_, ((Below.refl _ _).alloc (Nat.le_refl _) _).alloc (by simp) _⟩
    rfl
  · have hb' : (b == 0) = false := by simpa using hb
    have H := Lib.hid hb
    clear hb
    go_enter Try.func7, Try.ntmps7
    go_wp2
    refine bodyPost_ret (by simp [results, Try.results7, go_sem]; rfl) rfl ⟨?_, ?_⟩
    · unfold mv; rw [if_neg H.out]; rfl
    · exact ((Below.refl _ _).alloc (Nat.le_refl _) _).alloc (by simp) _
set_option maxHeartbeats 1000000 in
theorem part_any (p : Ptr) (x s : Int) (w : World) (hp : p.ok) :
    Calls Try.prog 9 #[p.v, .int .i64 x, .int .i64 s] w fun e w' => e = .returned (pt p x s).v ∧ Below w.heap.size w w' := by
  obtain ⟨b, o, l, h⟩ := p
  simp only [Ptr.v] at *
  by_cases hb : b = 0
  · subst hb
    go_enter Try.func9, Try.ntmps9
    go_wp2
    refine bodyPost_ret (by simp [results, Try.results9, go_sem]; rfl) rfl ⟨?_, ((Below.refl _ _).alloc (Nat.le_refl _) _).alloc (by simp) _⟩
    rfl
  · have hb' : (b == 0) = false := by simpa using hb
    have H := Lib.hid hb
    clear hb
    go_enter Try.func9, Try.ntmps9
    go_wp2
    all_goals
      refine bodyPost_ret (by simp [results, Try.results9, go_sem]; rfl) rfl ⟨?_, ((Below.refl _ _).alloc (Nat.le_refl _) _).alloc (by simp) _⟩
      unfold pt w64
      rw [if_neg H.out]
      generalize wrap64 (o + x) = q at *
      generalize wrap64 (q + s) = r at *
      exact congrArg Ending.returned (agg4 (by dsimp only; split <;> omega) (by dsimp only; split <;> omega))
end Go.Proofs.Ytjianllngobhhaa
