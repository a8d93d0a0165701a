/- Package heap: a block made empty, or gone. Conditions: each theorem's. -/
import Derived.Test.YtjianllngobhhaaHeapI
namespace Go.Proofs.Ytjianllngobhhaa
open Go.RowKit Go.Maps
set_option linter.unusedVariables false
set_option linter.unusedSimpArgs false
set_option maxRecDepth 100000
open Hp
namespace Hp
def cutV : Value → Value
  | .slice (some a) n c => .slice (some a) 0 c
  | _ => .slice none 0 0
end Hp
theorem del_own (g : G) (b : Int) (l : List Int) : (g.del b l).own = g.own := rfl
/-- What a round of empty leaves. -/
def EmTo (w : World) (g : G) (b : Int) (l : List Int) (w' : World) : Prop := HeapAt w' (g.del b l) ∧ Stays g.own w g.own w'
theorem em_step {w w1 w2 : World} {g : G} {b o : Int} {l : List Int} {fs : Lit → Option Value} (h : EmTo w g b l w1) (hb : in64 b) (ho : in64 o)
    (hse : ∀ b' o', in64 b' → in64 o' → fs (keyP b' o') = ((g.del b l).st b' o').map Val.v) (hm : MpIs w2 80 g.sb g.cnt (setF fs (keyP b o) none)) (hg : w1.grownBy w2 (some g.sb)) : EmTo w g b (l ++ [o]) w2 :=
  ⟨h.1.del1 hb ho (fun j hj hn => hg.block j (h.1.lt j hj) (fun e => hn (by injection e))) fs hse hm, h.2.trans (Stays.grown hg (fun k e => by cases e; exact .inr (.inr (.inl rfl))))⟩
theorem us_cell {w : World} {g : G} {b : Int} {r : Room} (H : HeapAt w g) (hr : g.room b = some r) {q cap n : Nat} (hu : r.us = .slice (some ⟨q, 0, none⟩) n cap) {k : Nat} (hk : k < r.used.length) : w.cell? ⟨q, k, none⟩ = some (.int .i64 (r.used.getD k 0)) := by
  have h := (H.room b r hr).2.1
  have := h.cells (g := q) (by rw [hu]; rfl) k (.int .i64 (r.used.getD k 0)) (by simp [i64L, hk])
  have e : (⟨q, 0, none⟩ : Addr).add k = ⟨q, k, none⟩ := by unfold Addr.add; split <;> simp_all
  rw [e] at this
  exact this
set_option maxHeartbeats 2000000 in
theorem empty_loop {w : World} {g : G} {b : Int} {r : Room} {h q n cap : Nat} (hh : g.h = h) (H : HeapAt w g) (hb : in64 b) (hr : g.room b = some r) (hu : r.us = .slice (some ⟨q, 0, none⟩) n cap) (hn : r.used.length = n) (hnc : n ≤ cap) (hcap : cap ≤ maxLen) (hcn : g.cnt < 1073741824) :
    Calls Try.prog 37 #[.pointer (some ⟨h, 0, none⟩), .int .i64 b, .pointer (some ⟨r.rb, 0, none⟩)] w fun e w' => e = .returned (.tuple #[]) ∧ ∃ w1, EmTo w g b r.used w1 ∧ w' = w1.setCell ⟨r.rb, 2, none⟩ (.slice (some ⟨q, 0, none⟩) 0 cap) := by
  have hE : EmTo w g b [] w := ⟨by rw [G.del_nil]; exact H, Stays.refl _ _⟩
  have rowOf : ∀ {W l}, EmTo w g b l W → W.cell? ⟨r.rb, 2, none⟩ = some (.slice (some ⟨q, 0, none⟩) n cap) ∧ W.frozen? ⟨r.rb, 2, none⟩ = false := fun {W l} hW => by
    obtain ⟨u1, _⟩ := hW.1.room b r hr
    rw [hu] at u1
    exact ⟨cell_of_row _ _ _ _ _ _ u1, frozen_of_row _ _ _ _ _ u1⟩
  have hbox : ∀ {W l}, EmTo w g b l W → W.cell? ⟨h, 2, none⟩ = some (.map (some g.sb)) := fun {W l} hW => by
    have := (box_cells hW.1).2.2
    rw [← hh]
    exact this
  have hcell : ∀ {W l}, EmTo w g b l W → ∀ k, k < n → W.cell? ⟨q, k, none⟩ = some (.int .i64 (r.used.getD k 0)) := fun {W l} hW k hk => us_cell hW.1 (b := b) (r := r) hr hu (by omega)
  have hin : ∀ k, k < n → in64 (r.used.getD k 0) := fun k hk => (H.room b r hr).2.2.2.1 _ (by rw [List.getD_eq_getElem?_getD, List.getElem?_eq_getElem (by omega)]; exact List.getElem_mem _)
  obtain ⟨c2, f2⟩ := rowOf hE
  have hlen : r.used.take n = r.used := List.take_of_length_le (by omega)
  have hstep : ∀ k, k < n → r.used.take (k + 1) = r.used.take k ++ [r.used.getD k 0] := fun k hk => by
    rw [List.take_succ_eq_append_getElem (by omega), List.getD_eq_getElem?_getD, List.getElem?_eq_getElem (by omega)]
    rfl
  have R1 := @rowOf
  have R2 := @hbox
  have R3 := @hcell
  have HE := Lib.hid hE
  have HIN := Lib.hid hin
  have HLEN := Lib.hid hlen
  have HSTEP := Lib.hid hstep
  have HB := Lib.hid hb
  have HR1 : Hid (∀ W l, EmTo w g b l W → W.cell? ⟨r.rb, 2, none⟩ = some (.slice (some ⟨q, 0, none⟩) n cap) ∧ W.frozen? ⟨r.rb, 2, none⟩ = false) := Lib.hid (fun W l => rowOf)
  have HR2 : Hid (∀ W l, EmTo w g b l W → W.cell? ⟨h, 2, none⟩ = some (.map (some g.sb))) := Lib.hid (fun W l => hbox)
  have HR3 : Hid (∀ W l, EmTo w g b l W → ∀ k, k < n → W.cell? ⟨q, k, none⟩ = some (.int .i64 (r.used.getD k 0))) := Lib.hid (fun W l => hcell)
  clear R1 R2 R3 rowOf hbox hcell hE hin hlen hstep hb H
  unfold maxLen at hcap
  go_enter Try.func37, Try.ntmps37
  go_wp2
  go_loopw [13] (fun i wr => ∃ k : Nat, k ≤ n ∧ i = .int .i64 k ∧ Hid (EmTo w g b (r.used.take k) wr)) (fun i _ => n - (intOf i).toNat)
  case atStart => exact ⟨0, Nat.zero_le _, rfl, HE⟩
  case round =>
    obtain ⟨k, hk, rfl, hem⟩ := hrel
    by_cases hlt : k < n
    · have dj0 : (0 : Int) ≤ (k : Int) := by omega
      have dj1 : (k : Int) < (n : Int) := by omega
      have e1 := HR2.out _ _ hem.out
      have e2 := HR3.out _ _ hem.out k hlt
      have hio := HIN.out k hlt
      obtain ⟨fs, hfs, hse⟩ := hem.out.1.stands
      have HSE := Lib.hid hse
      clear hse
      have hst := HSTEP.out k hlt
      have HST := Lib.hid hst
      clear hst
      generalize r.used.getD k 0 = o at *
      go_wp2_with (at_delete; refine wpList_del _ rfl _ _ 67 80 rfl 35 lawPlace Try.underlying67 g.sb g.cnt fs rfl hfs (plV b o) (keyP b o) rfl (key_pl HB.out hio) ?_; intro w1 hm1 hg1)
      go_roundw
      case rel => exact ⟨k + 1, by omega, by go_num, Lib.hid (by rw [HST.out]; exact em_step hem.out HB.out hio HSE.out hm1 hg1)⟩
      case measure => simp [intOf]; omega
    · obtain rfl : k = n := by omega
      have hem2 := hem.out
      rw [HLEN.out] at hem2
      obtain ⟨c3, f3⟩ := HR1.out _ _ hem2
      have HEM := Lib.hid hem2
      clear hem2 hem
      go_wp2
      go_end0
      exact ⟨rfl, _, HEM.out, rfl⟩
namespace Hp
def Ab.clear (A : Ab) (b : Int) : Ab := { A with st := fun b' o' => if b' = b then v0 else A.st b' o' }
def Ab.drop (A : Ab) (b : Int) : Ab := { A with st := fun b' o' => if b' = b then v0 else A.st b' o', room := fun b' => if b' = b then none else A.room b' }
def G.emp (g : G) (b : Int) (r : Room) : G := (g.del b r.used).setUs b (cutV r.us) []
def G.gone (g : G) (b : Int) : G := { g with room := fun b' => if b' = b then none else g.room b' }
theorem G.gone_own (g : G) (b : Int) {j : Nat} (h : (g.gone b).own j) : g.own j := by
  rcases h with h | h | h | ⟨b', r, e, h⟩
  · exact .inl h
  · exact .inr (.inl h)
  · exact .inr (.inr (.inl h))
  · simp only [G.gone] at e
    split at e
    · cases e
    · exact .inr (.inr (.inr ⟨b', r, e, h⟩))
end Hp
theorem st_del {w : World} {g : G} {b : Int} {r : Room} (H : HeapAt w g) (hr : g.room b = some r) (o : Int) : (g.del b r.used).st b o = none := by
  simp only [G.del]
  split
  · rfl
  · next h =>
    rcases hx : g.st b o with _ | x
    · rfl
    · obtain ⟨_, r', h1, h2⟩ := H.inv b o x hx
      rw [hr] at h1
      cases h1
      exact absurd ⟨trivial, h2⟩ h
theorem emp_ab {w : World} {g : G} {b : Int} {r : Room} (H : HeapAt w g) (hr : g.room b = some r) : (g.emp b r).ab = g.ab.clear b := by
  unfold G.emp
  rw [G.setUs_ab]
  unfold Ab.clear G.ab
  simp only [Ab.mk.injEq]
  refine ⟨by trivial, by trivial, ?_⟩
  funext b' o'
  by_cases e : b' = b
  · subst e
    rw [st_del H hr, if_pos rfl]; rfl
  · rw [if_neg e]
    simp only [G.del]
    rw [if_neg (fun q => e q.1)]
theorem own_cut {w : World} {n : Nat} {v : Value} {xs : List Value} (h : w.ownsRow 0 3 1 v n xs) : w.ownsRow 0 3 1 (cutV v) 0 [] ∧ (cutV v).ownBlock = v.ownBlock := by
  rcases h.2 with ⟨rfl, _⟩ | ⟨q, cap, cur, rfl, e2, e3, e4, e5, e6, e7⟩
  · exact ⟨⟨rfl, .inl ⟨rfl, rfl⟩⟩, rfl⟩
  · exact ⟨⟨rfl, .inr ⟨q, cap, cur, rfl, e2, e3, Nat.zero_le _, e5, e6, by simp⟩⟩, rfl⟩
theorem em_end {w w1 : World} {g : G} {b : Int} {r : Room} (H : HeapAt w g) (hr : g.room b = some r) (h : EmTo w g b r.used w1) :
    HeapAt (w1.setCell ⟨r.rb, 2, none⟩ (cutV r.us)) (g.emp b r) ∧ Stays g.own w (g.emp b r).own (w1.setCell ⟨r.rb, 2, none⟩ (cutV r.us)) := by
  obtain ⟨h1, h2⟩ := h
  have hr1 : (g.del b r.used).room b = some r := hr
  obtain ⟨u1, u2, u3⟩ := h1.room b r hr1
  obtain ⟨o1, o2⟩ := own_cut u2
  have hne : ∀ j, r.us.ownBlock = some j → j ≠ r.rb := fun j hj => by
    obtain ⟨cs, hcs⟩ := own_blk u2 hj
    exact row_ne hcs u1 (by decide)
  refine ⟨h1.setUs hr1 (cutV r.us) [] (Nat.zero_le _) (by simp) (fun o x e => ?_) (fun j hj hn _ => Below.heap_setCell _ _ _ _ hn) ?_ ?_ (fun j hj => .inl (o2 ▸ hj)), ?_⟩
  · rw [st_del H hr] at e; cases e
  · rw [heap_setCell_same _ _ _ _ _ _ u1]; rfl
  · exact own_at o1 (fun j hj => Below.heap_setCell _ _ _ _ (hne j (o2 ▸ hj)))
  · refine h2.trans ((Stays.set w1 r.rb 2 _ (.inr (.inr (.inr ⟨b, r, hr, .inl rfl⟩)))).trans ⟨rfl, rfl, rfl, Nat.le_refl _, fun _ _ _ => rfl, fun k hk => ?_⟩)
    rcases G.setUs_own _ b _ _ hk with h | h
    · exact .inl h
    · exact .inl (.inr (.inr (.inr ⟨b, r, hr, .inr (o2 ▸ h)⟩)))
set_option maxHeartbeats 2000000 in
theorem empty_any {w : World} {g : G} {b : Int} {r : Room} {h : Nat} (hh : g.h = h) (H : HeapAt w g) (hb : in64 b) (hr : g.room b = some r) (hcn : g.cnt < 1073741824) :
    Calls Try.prog 37 #[.pointer (some ⟨h, 0, none⟩), .int .i64 b, .pointer (some ⟨r.rb, 0, none⟩)] w fun e w' => e = .returned (.tuple #[]) ∧ HeapAt w' (g.emp b r) ∧ Stays g.own w (g.emp b r).own w' := by
  obtain ⟨u1, u2, u3⟩ := H.room b r hr
  rcases u2.2 with ⟨hu, hz⟩ | ⟨q, cap, cur, hu, _, _, hnc, hcap, _⟩
  · have hus : r.used = [] := List.eq_nil_of_length_eq_zero hz
    have hend := em_end H hr (w1 := w) ⟨by rw [hus, G.del_nil]; exact H, Stays.refl _ _⟩
    rw [hu] at hend u1
    have c2 : w.cell? ⟨r.rb, 2, none⟩ = some (.slice none 0 0) := cell_of_row _ _ _ _ _ _ u1
    have f2 : w.frozen? ⟨r.rb, 2, none⟩ = false := frozen_of_row _ _ _ _ _ u1
    have HEND := Lib.hid hend
    clear hend H u1 u2 u3 hr hus hu
    go_enter Try.func37, Try.ntmps37
    go_wp2
    go_loopw [13] (fun i wr => i = .int .i64 0 ∧ wr = w) (fun i _ => 0)
    case atStart => exact ⟨rfl, rfl⟩
    case round =>
      obtain ⟨rfl, hw⟩ := hrel
      have hw := hw
      subst hw
      go_wp2
      go_end0
      exact ⟨rfl, HEND.out⟩
  · refine (empty_loop hh H hb hr hu rfl hnc hcap hcn).mono ?_
    rintro e w' ⟨rfl, w1, h1, rfl⟩
    have := em_end H hr h1
    have e : cutV r.us = .slice (some ⟨q, 0, none⟩) 0 cap := by rw [hu]; rfl
    rw [e] at this
    exact ⟨rfl, this⟩
end Go.Proofs.Ytjianllngobhhaa
