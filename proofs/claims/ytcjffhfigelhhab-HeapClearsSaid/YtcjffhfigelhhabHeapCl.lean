/- HeapClears answers true. Conditions: each theorem's. -/
import Derived.Test.YtcjffhfigelhhabHeapM
import Derived.Deep.MidRow
namespace Go.Proofs.Ytcjffhfigelhhab
open Go.RowKit Go.Maps
set_option linter.unusedVariables false
set_option linter.unusedSimpArgs false
set_option maxRecDepth 100000
open Hp
namespace Hp
def clR : Int → Option (Int × Bool) := fun b => if b = 2 then some (256, false) else if b = 1 then some (256, true) else none
def clX (x : Int) : Val := ⟨x, ⟨1, 0, 0, 256⟩⟩
structure ClOk (A : Ab) (x : Int) (d : List Int) : Prop where
  made : A.made = 2
  room : A.room = clR
  st : ∀ k ∈ d, A.st 2 k = clX x
end Hp
theorem pok1 : (Ptr.mk 1 0 0 256).ok := by unfold Ptr.ok in64; refine ⟨?_, ?_, ?_, ?_⟩ <;> dsimp only <;> omega
theorem pok2 : (Ptr.mk 2 0 0 256).ok := by unfold Ptr.ok in64; refine ⟨?_, ?_, ?_, ?_⟩ <;> dsimp only <;> omega
theorem cl_mv {b k : Int} (hb : b = 1 ∨ b = 2) (h0 : 0 ≤ k) (h1 : k < 256) : mv ⟨b, 0, 0, 256⟩ k = ⟨b, k, 0, 256⟩ := by
  unfold mv
  rw [if_neg (by show ¬ b = 0; omega)]
  simp only [Int.zero_add]
  rw [w64_id (by unfold in64; omega)]
theorem cl_at {A : Ab} (hr : A.room = clR) {b k : Int} (hb : b = 1 ∨ b = 2) (h0 : 0 ≤ k) (h1 : k < 256) : A.at_ (mv ⟨b, 0, 0, 256⟩ k) 1 = 0 := by
  rw [cl_mv hb h0 h1]
  unfold Ab.at_
  have hw : wid 1 = true := rfl
  rw [hw, hr]
  have hf : fits ⟨b, k, 0, 256⟩ 1 = true := by unfold fits; simp; omega
  rw [hf]
  rcases hb with rfl | rfl <;> rfl
theorem cl_make : (ab0.make 256 true).make 256 false = ⟨2, clR, fun _ _ => v0⟩ ∧ (ab0.makeV 256 = ⟨1, 0, 0, 256⟩) ∧ ((ab0.make 256 true).makeV 256 = ⟨2, 0, 0, 256⟩) ∧ Ab.makeE 256 = 0 := ⟨rfl, rfl, rfl, rfl⟩
theorem cl_st1 {A : Ab} {x k : Int} {d : List Int} (H : ClOk A x d) (h0 : 0 ≤ k) (h1 : k < 256) : ClOk (A.store (mv ⟨1, 0, 0, 256⟩ k) 1 (clX x)) x d := by
  unfold Ab.store
  rw [cl_at H.room (.inl rfl) h0 h1, if_pos rfl, cl_mv (.inl rfl) h0 h1]
  refine ⟨H.made, H.room, fun q hq => ?_⟩
  simp only [Ab.put]
  rw [if_neg (fun e => absurd e.1 (by decide))]
  exact H.st q hq
theorem cl_st2 {A : Ab} {x k : Int} {d : List Int} (H : ClOk A x d) (h0 : 0 ≤ k) (h1 : k < 256) : ClOk (A.store (mv ⟨2, 0, 0, 256⟩ k) 1 (clX x)) x (d ++ [k]) := by
  unfold Ab.store
  rw [cl_at H.room (.inr rfl) h0 h1, if_pos rfl, cl_mv (.inr rfl) h0 h1]
  refine ⟨H.made, H.room, fun q hq => ?_⟩
  simp only [Ab.put]
  by_cases e : q = k
  · rw [if_pos ⟨by trivial, e⟩]
  · rw [if_neg (fun e2 => e e2.2)]
    rcases List.mem_append.1 hq with h | h
    · exact H.st q h
    · simp at h; exact absurd h e
/-- The heap within the law: what is the law's own is no block of it. -/
def Cl (w : World) (h : Nat) (L : List Nat) (x : Int) (d : List Int) (c : Nat) (V : World) : Prop :=
  ∃ o A, HpIs V h o c A ∧ ClOk A x d ∧ (∀ m ∈ L, ¬ o m ∧ m < V.heap.size) ∧ (∀ j, o j → w.heap.size ≤ j) ∧ Below w.heap.size w V
theorem Cl.below {w V N : World} {h c : Nat} {L : List Nat} {x : Int} {d : List Int} (H : Cl w h L x d c V) (hb : Below V.heap.size V N) : Cl w h L x d c N := by
  obtain ⟨o, A, h1, h2, h3, h4, h5⟩ := H
  exact ⟨o, A, h1.below hb, h2, fun m hm => ⟨(h3 m hm).1, Nat.lt_of_lt_of_le (h3 m hm).2 hb.size⟩, h4, h5.trans (hb.mono h5.size)⟩
theorem Cl.alloc {w V : World} {h c : Nat} {L : List Nat} {x : Int} {d : List Int} (H : Cl w h L x d c V) (X : Obj) : Cl w h (V.heap.size :: L) x d c (V.alloc X) := by
  obtain ⟨o, A, h1, h2, h3, h4, h5⟩ := H
  refine ⟨o, A, h1.alloc X, h2, fun m hm => ?_, h4, h5.alloc h5.size X⟩
  rcases List.mem_cons.1 hm with rfl | hm
  · exact ⟨fun e => by have := h1.lt _ e; omega, by simp⟩
  · exact ⟨(h3 m hm).1, by have := (h3 m hm).2; simp; omega⟩
theorem cl_cut {w V : World} {h c c' : Nat} {L L' : List Nat} {x : Int} {d : List Int} (H : Cl w h L x d c V) (hL : ∀ m ∈ L', m ∈ L) (hc : c ≤ c') : Cl w h L' x d c' V := by
  obtain ⟨o, A, h1, h2, h3, h4, h5⟩ := H
  exact ⟨o, A, h1.mono hc, h2, fun m hm => h3 m (hL m hm), h4, h5⟩
theorem clStore1 {w V : World} {h c : Nat} {L : List Nat} {x k : Int} {d : List Int} (H : Cl w h L x d c V) (hk : 0 ≤ k ∧ k < 256) (hc : c < 1000) :
    Calls Try.prog 7 #[.pointer (some ⟨h, 0, none⟩), (mv ⟨1, 0, 0, 256⟩ k).v, .int .i64 1, (clX x).v] V fun e w' => e = .returned (.int .i64 0) ∧ Cl w h L x d (c + 2) w' ∧ ∀ m ∈ L, m < V.heap.size → w'.heap[m]? = V.heap[m]? := by
  obtain ⟨o, A, h1, h2, h3, h4, h5⟩ := H
  refine (store_any h1 (by omega) _ (mv_ok pok1 k) 1 (clX x)).mono ?_
  rintro e w' ⟨o', rfl, h6, h7⟩
  exact ⟨by rw [cl_at h2.room (.inl rfl) hk.1 hk.2], ⟨o', _, h6, cl_st1 h2 hk.1 hk.2, fun m hm => ⟨fun e => (h7.own m e).elim (h3 m hm).1 (fun e2 => by have := (h3 m hm).2; omega), Nat.lt_of_lt_of_le (h3 m hm).2 h7.size⟩, h7.ge h5.size h4, h5.trans (h7.toBelow h5.size h4)⟩, fun m hm hl => h7.block m hl (h3 m hm).1⟩
theorem clStore2 {w V : World} {h c : Nat} {L : List Nat} {x k : Int} {d : List Int} (H : Cl w h L x d c V) (hk : 0 ≤ k ∧ k < 256) (hc : c < 1000) :
    Calls Try.prog 7 #[.pointer (some ⟨h, 0, none⟩), (mv ⟨2, 0, 0, 256⟩ k).v, .int .i64 1, (clX x).v] V fun e w' => e = .returned (.int .i64 0) ∧ Cl w h L x (d ++ [k]) (c + 2) w' ∧ ∀ m ∈ L, m < V.heap.size → w'.heap[m]? = V.heap[m]? := by
  obtain ⟨o, A, h1, h2, h3, h4, h5⟩ := H
  refine (store_any h1 (by omega) _ (mv_ok pok2 k) 1 (clX x)).mono ?_
  rintro e w' ⟨o', rfl, h6, h7⟩
  exact ⟨by rw [cl_at h2.room (.inr rfl) hk.1 hk.2], ⟨o', _, h6, cl_st2 h2 hk.1 hk.2, fun m hm => ⟨fun e => (h7.own m e).elim (h3 m hm).1 (fun e2 => by have := (h3 m hm).2; omega), Nat.lt_of_lt_of_le (h3 m hm).2 h7.size⟩, h7.ge h5.size h4, h5.trans (h7.toBelow h5.size h4)⟩, fun m hm hl => h7.block m hl (h3 m hm).1⟩
/-- .. and behind Clear. -/
def Cd (w : World) (h : Nat) (L : List Nat) (x : Int) (d : List Int) (c : Nat) (V : World) : Prop :=
  ∃ o A, HpIs V h o c A ∧ ClOk A x d ∧ (∀ k, A.st 1 k = v0) ∧ Below w.heap.size w V
theorem Cd.below {w V N : World} {h c : Nat} {L : List Nat} {x : Int} {d : List Int} (H : Cd w h L x d c V) (hb : Below V.heap.size V N) : Cd w h L x d c N := by
  obtain ⟨o, A, h1, h2, h3, h5⟩ := H
  exact ⟨o, A, h1.below hb, h2, h3, h5.trans (hb.mono h5.size)⟩
theorem clClear {w V : World} {h c : Nat} {L : List Nat} {x : Int} {d : List Int} (H : Cl w h L x d c V) (hc : c < 1000) :
    Calls Try.prog 9 #[.pointer (some ⟨h, 0, none⟩), .int .i64 1] V fun e w' => e = .returned (.int .i64 0) ∧ Cd w h L x d (c + 1) w' ∧ ∀ m ∈ L, m < V.heap.size → w'.heap[m]? = V.heap[m]? := by
  obtain ⟨o, A, h1, h2, h3, h4, h5⟩ := H
  have hn : A.nb 1 = 0 := by
    unfold Ab.nb
    rw [h2.made, h2.room]
    rfl
  refine (clear_any h1 (by omega) 1 (by unfold in64; omega)).mono ?_
  rintro e w' ⟨o', rfl, h6, h7⟩
  refine ⟨by rw [hn], ⟨o', _, h6, ?_, ?_, h5.trans (h7.toBelow h5.size h4)⟩, fun m hm hl => h7.block m hl (h3 m hm).1⟩
  · unfold Ab.clearE
    rw [if_pos hn]
    refine ⟨h2.made, h2.room, fun k hk => ?_⟩
    simp only [Ab.clear]
    rw [if_neg (by decide)]
    exact h2.st k hk
  · intro k
    unfold Ab.clearE
    rw [if_pos hn]
    simp only [Ab.clear]
    rfl
theorem cdLoad1 {w V : World} {h c : Nat} {L : List Nat} {x k : Int} {d : List Int} (H : Cd w h L x d c V) (hk : 0 ≤ k ∧ k < 256) :
    Calls Try.prog 10 #[.pointer (some ⟨h, 0, none⟩), (mv ⟨1, 0, 0, 256⟩ k).v, .int .i64 1] V fun e w' => e = .returned (.tuple #[.agg #[.int .u64 0, .int .i64 0, .int .i64 0, .int .i64 0, .int .i64 0], .int .i64 0]) ∧ Below V.heap.size V w' := by
  obtain ⟨o, A, h1, h2, h3, h5⟩ := H
  refine (load_any h1 _ (mv_ok pok1 k) 1).mono ?_
  rintro e w' ⟨rfl, hb⟩
  have e0 := cl_at h2.room (.inl rfl) hk.1 hk.2
  refine ⟨?_, hb⟩
  unfold Ab.load
  rw [e0, if_pos rfl, cl_mv (.inl rfl) hk.1 hk.2, h3]
  rfl
theorem cdLoad2 {w V : World} {h c : Nat} {L : List Nat} {x k : Int} {d : List Int} (H : Cd w h L x d c V) (hk : 0 ≤ k ∧ k < 256) (hd : k ∈ d) :
    Calls Try.prog 10 #[.pointer (some ⟨h, 0, none⟩), (mv ⟨2, 0, 0, 256⟩ k).v, .int .i64 1] V fun e w' => e = .returned (.tuple #[.agg #[.int .u64 x, .int .i64 1, .int .i64 0, .int .i64 0, .int .i64 256], .int .i64 0]) ∧ Below V.heap.size V w' := by
  obtain ⟨o, A, h1, h2, h3, h5⟩ := H
  refine (load_any h1 _ (mv_ok pok2 k) 1).mono ?_
  rintro e w' ⟨rfl, hb⟩
  have e0 := cl_at h2.room (.inr rfl) hk.1 hk.2
  refine ⟨?_, hb⟩
  unfold Ab.load
  rw [e0, if_pos rfl, cl_mv (.inr rfl) hk.1 hk.2, h2.st k hd]
  rfl
theorem cdLive {w V : World} {h c : Nat} {L : List Nat} {x : Int} {d : List Int} {b : Int} (H : Cd w h L x d c V) (hb : b = 1 ∨ b = 2) :
    Calls Try.prog 11 #[.pointer (some ⟨h, 0, none⟩), .int .i64 b] V fun e w' => e = .returned (.bool true) ∧ Below V.heap.size V w' := by
  obtain ⟨o, A, h1, h2, h3, h5⟩ := H
  refine (live_any h1 b (by unfold in64; omega)).mono ?_
  rintro e w' ⟨rfl, hbe⟩
  refine ⟨?_, hbe⟩
  rw [h2.room]
  rcases hb with rfl | rfl <;> rfl
abbrev rowP (b : Int) : Obj := .cells #[.int .i64 b, .int .i64 0, .int .i64 0, .int .i64 256] 28
set_option maxHeartbeats 8000000 in
theorem heapClears_walk (A : Option Addr) (n c : Nat) (ks : List Int) (x : Int) (w : World) (hn : ks.length = n) (hnc : n ≤ c) (hcm : c ≤ maxLen)
    (hin : 0 < n → ∃ g o, A = some ⟨g, o, none⟩ ∧ g < w.heap.size ∧ ∀ j, j < n → w.cell? ⟨g, o + j, none⟩ = some (.int .u8 (ks.getD j 0)))
    (hwf : ∀ k ∈ ks, 0 ≤ k ∧ k < 256) :
    Calls Try.prog 3 #[.slice A n c, .int .u64 x] w fun e w' => e = .returned (.bool true) ∧ Below w.heap.size w w' := by
  unfold maxLen at hcm
  by_cases hbig : 40 < n
  · have d1 : decide ((40 : Int) < (n : Int)) = true := decide_eq_true (by omega)
    clear hin hwf
    go_enter Try.func3, Try.ntmps3
    go_wp2_with fail
    refine (new_any _).mono ?_
    rintro e w1 ⟨h, o, rfl, hpa, hoa, hba⟩
    go_wp2_with fail
    refine (awake_any _).mono ?_
    rintro e w2 ⟨rfl, hb2⟩
    go_wp2_with fail
    refine (awake_any _).mono ?_
    rintro e w3 ⟨rfl, hb3⟩
    go_wp2
    go_ret
    exact ⟨rfl, hba.trans ((hb2.mono hba.size).trans (hb3.mono (Nat.le_trans hba.size hb2.size)))⟩
  · have d1 : decide ((40 : Int) < (n : Int)) = false := decide_eq_false (by omega)
    have HIN := Lib.hid hin
    have HWF := Lib.hid hwf
    clear hin hwf
    go_enter Try.func3, Try.ntmps3
    go_wp2_with fail
    refine (new_any _).mono ?_
    rintro e w1 ⟨h, o, rfl, hpa, hoa, hba⟩
    have HPA := Lib.hid hpa
    have HOA := Lib.hid hoa
    clear hpa hoa
    go_wp2_with fail
    refine (awake_any _).mono ?_
    rintro e w2 ⟨rfl, hb2⟩
    have HP2 := Lib.hid (HPA.out.below hb2)
    have HB2 := Lib.hid (hba.trans (hb2.mono hba.size))
    clear hb2
    go_wp2_with fail
    refine (make_any HP2.out (by omega) 256 true).mono ?_
    rintro e w3 ⟨o2, he, hp3, hs3⟩
    rw [cl_make.2.1, cl_make.2.2.2] at he
    simp only [Ptr.v] at he
    subst he
    have HP3 := Lib.hid hp3
    have HB3 := Lib.hid (HB2.out.trans (hs3.toBelow HB2.out.size HOA.out))
    have HO3 := Lib.hid (hs3.ge HB2.out.size HOA.out)
    have r6 : (w3.alloc (rowP 1)).heap[w3.heap.size]? = some (rowP 1) := heap_alloc_new w3 _
    have HN6 : Hid (¬ o2 w3.heap.size) := Lib.hid (fun e => by have := HP3.out.lt _ e; omega)
    clear hs3 hp3
    go_wp2_with fail
    refine (make_any (HP3.out.alloc _) (by omega) 256 false).mono ?_
    rintro e w4 ⟨o3, he, hp4, hs4⟩
    rw [cl_make.2.2.1, cl_make.2.2.2] at he
    simp only [Ptr.v] at he
    subst he
    rw [cl_make.1] at hp4
    obtain ⟨r6b, n6⟩ := hs4.at_ r6 HN6.out
    have HBX := Lib.hid (HB3.out.alloc HB3.out.size (rowP 1))
    have hcl : Cl w h [w4.heap.size, w3.heap.size] x [] 2 (w4.alloc (rowP 2)) := by
      have c0 : Cl w h [w3.heap.size] x [] 2 w4 := ⟨o3, _, hp4, ⟨rfl, rfl, by simp⟩, fun m hm => by simp at hm; subst hm; exact ⟨n6, lt_of_at r6b⟩, hs4.ge HBX.out.size HO3.out, HBX.out.trans (hs4.toBelow HBX.out.size HO3.out)⟩
      exact c0.alloc _
    have r6c := row_up r6b (rowP 2)
    have r8c : (w4.alloc (rowP 2)).heap[w4.heap.size]? = some (rowP 2) := heap_alloc_new w4 _
    have HCL := Lib.hid hcl
    have R6 := Lib.hid r6c
    have R8 := Lib.hid r8c
    clear hs4 hp4 hcl r6 r6b r6c r8c n6
    go_wp2_with fail
    generalize w4.alloc (.cells #[.int .i64 2, .int .i64 0, .int .i64 0, .int .i64 256] 28) = Z at *
    generalize w4.heap.size = m8 at *
    generalize w3.heap.size = m6 at *
    go_loopw [50] (fun i wr => ∃ j : Nat, j ≤ n ∧ i = .int .i64 j ∧ Hid (Cl w h [m6, m8] x (ks.take j) (2 + 4 * j) wr ∧ wr.heap[m6]? = some (rowP 1) ∧ wr.heap[m8]? = some (rowP 2))) (fun i _ => n - (intOf i).toNat)
    case atStart => exact ⟨0, Nat.zero_le _, rfl, Lib.hid ⟨cl_cut HCL.out (by intro m hm; simp at hm ⊢; rcases hm with rfl | rfl <;> simp) (by omega), R6.out, R8.out⟩⟩
    case round =>
      obtain ⟨j, hj, rfl, hcl⟩ := hrel
      by_cases hlt : j < n
      · have dj0 : (0 : Int) ≤ (j : Int) := by omega
        have dj1 : (j : Int) < (n : Int) := by omega
        obtain ⟨g, og, rfl, hg, hcell⟩ := HIN.out (by omega)
        have hkk := HWF.out (ks.getD j 0) (by rw [List.getD_eq_getElem?_getD, List.getElem?_eq_getElem (by omega)]; exact List.getElem_mem _)
        have hst : ks.take (j + 1) = ks.take j ++ [ks.getD j 0] := by
          rw [List.take_succ_eq_append_getElem (by omega), List.getD_eq_getElem?_getD, List.getElem?_eq_getElem (by omega)]
          rfl
        have HST := Lib.hid hst
        have hbw : Below w.heap.size w wr := by obtain ⟨_, _, _, _, _, _, h⟩ := hcl.out.1; exact h
        have hc := (hbw.cell (p := ⟨g, og + j, none⟩) hg).trans (hcell j hlt)
        have hgr : g < wr.heap.size := Nat.lt_of_lt_of_le hg hbw.size
        clear hst hcell hbw
        generalize ks.getD j 0 = k at *
        have HK := Lib.hid hkk
        obtain ⟨p0, p1, p2, p3⟩ := cells4 hcl.out.2.1
        obtain ⟨q0, q1, q2, q3⟩ := cells4 hcl.out.2.2
        have hl6 := lt_of_at hcl.out.2.1
        have hl8 := lt_of_at hcl.out.2.2
        go_wp2_with fail
        have HP := Lib.hid (hcl.out.1.alloc (.cells (valA (clX x)) 33))
        have Rm6 := Lib.hid (row_up hcl.out.2.1 (.cells (valA (clX x)) 33))
        have Rm8 := Lib.hid (row_up hcl.out.2.2 (.cells (valA (clX x)) 33))
        have Rm12 := Lib.hid (heap_alloc_new wr (.cells (valA (clX x)) 33))
        clear hcl p0 p1 p2 p3 q0 q1 q2 q3
        simp only [valA, clX] at HP Rm6 Rm8 Rm12
        generalize wr.alloc (.cells #[.int .u64 x, .int .i64 1, .int .i64 0, .int .i64 0, .int .i64 256] 33) = Y at *
        generalize wr.heap.size = m12 at *
        obtain ⟨p0, p1, p2, p3⟩ := cells4 Rm6.out
        obtain ⟨q0, q1, q2, q3⟩ := cells4 Rm8.out
        obtain ⟨cc0, cc1, cc2, cc3, cc4⟩ := cells5 (V := clX x) Rm12.out
        simp only [clX] at cc0 cc1 cc2 cc3 cc4
        clear hl6 hl8 hgr hc
        refine wp_region_held_drew (S := fun W : World => W.heap[m6]? = Y.heap[m6]? ∧ W.heap[m8]? = Y.heap[m8]? ∧ W.heap[m12]? = Y.heap[m12]?) (by kernel_rfl) ⟨rfl, rfl, rfl⟩ (fun hHeld => ?_)
        replace HP : Hid (Cl w h [m12, m6, m8] x (ks.take j) (2 + 4 * j) Y.drew) := Lib.hid (HP.out.below ((Below.refl _ _).drew))
        generalize hYD : Y.drew = V0 at *
        clear hYD
        refine wpAnyH_take (i := 0) (oi := ({ dst := some 57, op := Go.Op.move (Go.Operand.tmp 5), type := 24, pos := "law.go:251", after := #[], guard := none } : Oper)) (v := .pointer (some ⟨h, 0, none⟩)) rfl (by kernel_rfl) (by kernel_rfl) (by kernel_rfl) (fun _ _ _ h => h) (Or.inl ⟨by rfl, ?hy1⟩) (by assumption) ?_
        case hy1 => ((intro W hSW; go_simp); (try with_reducible rfl); (try exact ⟨rfl, rfl, rfl⟩))
        simp only [Act.put, List.setIfInBounds_toArray, List.set_cons_zero, List.set_cons_succ]
        refine wpAnyH_take (i := 1) (oi := ({ dst := some 58, op := Go.Op.load 28 (Go.Operand.tmp 6), type := 28, pos := "law.go:251", after := #[], guard := none } : Oper)) (v := .agg #[.int .i64 1, .int .i64 0, .int .i64 0, .int .i64 256]) rfl (by kernel_rfl) (by kernel_rfl) (by kernel_rfl) (fun _ _ _ h => h) (Or.inl ⟨by rfl, ?hy2⟩) (by assumption) ?_
        case hy2 => ((intro W hSW; have hl2 : m6 < W.heap.size := lt_of_at (hSW.1.trans Rm6.out); have e0 := (World.cell?_of_block (w := Y) (a := ⟨m6, 0, none⟩) hSW.1).trans p0; have e1 := (World.cell?_of_block (w := Y) (a := ⟨m6, 1, none⟩) hSW.1).trans p1; have e2 := (World.cell?_of_block (w := Y) (a := ⟨m6, 2, none⟩) hSW.1).trans p2; have e3 := (World.cell?_of_block (w := Y) (a := ⟨m6, 3, none⟩) hSW.1).trans p3; clear hSW; go_simp); (try with_reducible rfl); (try exact ⟨rfl, rfl, rfl⟩))
        simp only [Act.put, List.setIfInBounds_toArray, List.set_cons_zero, List.set_cons_succ]
        refine wpAnyH_take (i := 2) (oi := ({ dst := some 59, op := Go.Op.move (Go.Operand.tmp 11), type := 5, pos := "law.go:251", after := #[], guard := none } : Oper)) (v := .int .u8 k) rfl (by kernel_rfl) (by kernel_rfl) (by kernel_rfl) (fun _ _ _ h => h) (Or.inl ⟨by rfl, ?hy3⟩) (by assumption) ?_
        case hy3 => ((intro W hSW; go_simp); (try with_reducible rfl); (try exact ⟨rfl, rfl, rfl⟩))
        simp only [Act.put, List.setIfInBounds_toArray, List.set_cons_zero, List.set_cons_succ]
        refine wpAnyH_take (i := 3) (oi := ({ dst := some 60, op := Go.Op.convert 5 3 (Go.Operand.tmp 59), type := 3, pos := "law.go:251", after := #[{ on := 2, ground := Go.Ground.data }], guard := none } : Oper)) (v := .int .i64 k) rfl (by kernel_rfl) (by kernel_rfl) (by kernel_rfl) (fun _ _ _ h => h) (Or.inl ⟨by rfl, ?hy4⟩) (by assumption) ?_
        case hy4 => ((intro W hSW; have ew : IntKind.i64.wrap k = k := IntWalk.i64_in _ (by omega); go_simp); (try with_reducible rfl); (try exact ⟨rfl, rfl, rfl⟩))
        simp only [Act.put, List.setIfInBounds_toArray, List.set_cons_zero, List.set_cons_succ]
        refine wpAnyH_take (i := 5) (oi := ({ dst := some 62, op := Go.Op.load 33 (Go.Operand.tmp 12), type := 33, pos := "law.go:251", after := #[], guard := none } : Oper)) (v := .agg #[.int .u64 x, .int .i64 1, .int .i64 0, .int .i64 0, .int .i64 256]) rfl (by kernel_rfl) (by kernel_rfl) (by kernel_rfl) (fun _ _ _ h => h) (Or.inl ⟨by rfl, ?hy5⟩) (by assumption) ?_
        case hy5 => ((intro W hSW; have hl2 : m12 < W.heap.size := lt_of_at (hSW.2.2.trans Rm12.out); have e0 := (World.cell?_of_block (w := Y) (a := ⟨m12, 0, none⟩) hSW.2.2).trans cc0; have e1 := (World.cell?_of_block (w := Y) (a := ⟨m12, 1, none⟩) hSW.2.2).trans cc1; have e2 := (World.cell?_of_block (w := Y) (a := ⟨m12, 2, none⟩) hSW.2.2).trans cc2; have e3 := (World.cell?_of_block (w := Y) (a := ⟨m12, 3, none⟩) hSW.2.2).trans cc3; have e4 := (World.cell?_of_block (w := Y) (a := ⟨m12, 4, none⟩) hSW.2.2).trans cc4; clear hSW; go_simp); (try with_reducible rfl); (try exact ⟨rfl, rfl, rfl⟩))
        simp only [Act.put, List.setIfInBounds_toArray, List.set_cons_zero, List.set_cons_succ]
        refine wpAnyH_ready (rs := [4]) (by kernel_rfl) (by simp) ?_
        refine (AllReadyH.cons (i := 4) (o := ({ dst := some 61, op := Go.Op.call { callee := Go.Callee.value (Go.Operand.func 8), args := #[Go.Operand.tmp 58, Go.Operand.tmp 60], argTypes := #[28, 3] }, type := 28, pos := "law.go:251", after := #[{ on := 1, ground := Go.Ground.data }, { on := 3, ground := Go.Ground.data }], guard := none } : Oper)) rfl (fun K hK => ?_) AllReadyH.nil)
        rw [if_pos (by rfl)]
        go_simp
        refine (move_any ⟨1, 0, 0, 256⟩ k _ pok1).mono ?_
        rintro e V1 ⟨he, hb⟩
        subst he
        replace HP := Lib.hid (HP.out.below hb)
        go_simp
        refine hK.out _ _ (⟨(hb.block _ (lt_of_at (hHeld.1.trans Rm6.out))).trans hHeld.1, (hb.block _ (lt_of_at (hHeld.2.1.trans Rm8.out))).trans hHeld.2.1, (hb.block _ (lt_of_at (hHeld.2.2.trans Rm12.out))).trans hHeld.2.2⟩) (fun hHeld => ?_)
        clear hK K
        try simp only [Act.put, List.setIfInBounds_toArray, List.set_cons_zero, List.set_cons_succ]
        refine wpAnyH_ready (rs := [6]) (by kernel_rfl) (by simp) ?_
        refine (AllReadyH.cons (i := 6) (o := ({ dst := some 63, op := Go.Op.call { callee := Go.Callee.value (Go.Operand.func 7), args := #[Go.Operand.tmp 57, Go.Operand.tmp 61, Go.Operand.const (Go.Value.int Go.IntKind.i64 1), Go.Operand.tmp 62], argTypes := #[24, 28, 3, 33] }, type := 29, pos := "law.go:251", after := #[{ on := 0, ground := Go.Ground.data }, { on := 4, ground := Go.Ground.data }, { on := 5, ground := Go.Ground.data }, { on := 4, ground := Go.Ground.chain }], guard := none } : Oper)) rfl (fun K hK => ?_) AllReadyH.nil)
        rw [if_pos (by rfl)]
        go_simp
        refine (clStore1 HP.out HK.out (by omega)).mono ?_
        rintro e V2 ⟨he, hp, hs⟩
        subst he
        replace HP := Lib.hid hp
        clear hp
        go_simp
        refine hK.out _ _ (⟨(hs m6 (by simp) (lt_of_at (hHeld.1.trans Rm6.out))).trans hHeld.1, (hs m8 (by simp) (lt_of_at (hHeld.2.1.trans Rm8.out))).trans hHeld.2.1, (hs m12 (by simp) (lt_of_at (hHeld.2.2.trans Rm12.out))).trans hHeld.2.2⟩) (fun hHeld => ?_)
        clear hK K
        try simp only [Act.put, List.setIfInBounds_toArray, List.set_cons_zero, List.set_cons_succ]
        refine wpAnyH_take (i := 7) (oi := ({ dst := some 64, op := Go.Op.binOp Go.BinOp.neq 29 (Go.Operand.tmp 63) (Go.Operand.const (Go.Value.int Go.IntKind.i64 0)) 29, type := 4, pos := "law.go:251", after := #[{ on := 6, ground := Go.Ground.data }], guard := none } : Oper)) (v := .bool false) rfl (by kernel_rfl) (by kernel_rfl) (by kernel_rfl) (fun _ _ _ h => h) (Or.inl ⟨by rfl, ?hy6⟩) (by assumption) ?_
        case hy6 => ((intro W hSW; go_simp); (try with_reducible rfl); (try exact ⟨rfl, rfl, rfl⟩))
        simp only [Act.put, List.setIfInBounds_toArray, List.set_cons_zero, List.set_cons_succ]
        refine wpAnyH_take (i := 8) (oi := ({ dst := some 65, op := Go.Op.move (Go.Operand.tmp 64), type := 4, pos := "law.go:251", after := #[{ on := 7, ground := Go.Ground.data }, { on := 6, ground := Go.Ground.chain }], guard := none } : Oper)) (v := .bool false) rfl (by kernel_rfl) (by kernel_rfl) (by kernel_rfl) (fun _ _ _ h => h) (Or.inl ⟨by rfl, ?hy7⟩) (by assumption) ?_
        case hy7 => ((intro W hSW; go_simp); (try with_reducible rfl); (try exact ⟨rfl, rfl, rfl⟩))
        simp only [Act.put, List.setIfInBounds_toArray, List.set_cons_zero, List.set_cons_succ]
        refine wpAnyH_take (i := 9) (oi := ({ dst := some 66, op := Go.Op.move (Go.Operand.tmp 5), type := 24, pos := "law.go:251", after := #[{ on := 8, ground := Go.Ground.guard }], guard := some (8, false) } : Oper)) (v := .pointer (some ⟨h, 0, none⟩)) rfl (by kernel_rfl) (by kernel_rfl) (by kernel_rfl) (fun _ _ _ h => h) (Or.inl ⟨by rfl, ?hy8⟩) (by assumption) ?_
        case hy8 => ((intro W hSW; go_simp); (try with_reducible rfl); (try exact ⟨rfl, rfl, rfl⟩))
        simp only [Act.put, List.setIfInBounds_toArray, List.set_cons_zero, List.set_cons_succ]
        refine wpAnyH_take (i := 10) (oi := ({ dst := some 67, op := Go.Op.load 28 (Go.Operand.tmp 8), type := 28, pos := "law.go:251", after := #[{ on := 8, ground := Go.Ground.guard }], guard := some (8, false) } : Oper)) (v := .agg #[.int .i64 2, .int .i64 0, .int .i64 0, .int .i64 256]) rfl (by kernel_rfl) (by kernel_rfl) (by kernel_rfl) (fun _ _ _ h => h) (Or.inl ⟨by rfl, ?hy9⟩) (by assumption) ?_
        case hy9 => ((intro W hSW; have hl2 : m8 < W.heap.size := lt_of_at (hSW.2.1.trans Rm8.out); have e0 := (World.cell?_of_block (w := Y) (a := ⟨m8, 0, none⟩) hSW.2.1).trans q0; have e1 := (World.cell?_of_block (w := Y) (a := ⟨m8, 1, none⟩) hSW.2.1).trans q1; have e2 := (World.cell?_of_block (w := Y) (a := ⟨m8, 2, none⟩) hSW.2.1).trans q2; have e3 := (World.cell?_of_block (w := Y) (a := ⟨m8, 3, none⟩) hSW.2.1).trans q3; clear hSW; go_simp); (try with_reducible rfl); (try exact ⟨rfl, rfl, rfl⟩))
        simp only [Act.put, List.setIfInBounds_toArray, List.set_cons_zero, List.set_cons_succ]
        refine wpAnyH_take (i := 11) (oi := ({ dst := some 68, op := Go.Op.move (Go.Operand.tmp 11), type := 5, pos := "law.go:251", after := #[{ on := 8, ground := Go.Ground.guard }], guard := some (8, false) } : Oper)) (v := .int .u8 k) rfl (by kernel_rfl) (by kernel_rfl) (by kernel_rfl) (fun _ _ _ h => h) (Or.inl ⟨by rfl, ?hy10⟩) (by assumption) ?_
        case hy10 => ((intro W hSW; go_simp); (try with_reducible rfl); (try exact ⟨rfl, rfl, rfl⟩))
        simp only [Act.put, List.setIfInBounds_toArray, List.set_cons_zero, List.set_cons_succ]
        refine wpAnyH_take (i := 12) (oi := ({ dst := some 69, op := Go.Op.convert 5 3 (Go.Operand.tmp 68), type := 3, pos := "law.go:251", after := #[{ on := 11, ground := Go.Ground.data }, { on := 8, ground := Go.Ground.guard }], guard := some (8, false) } : Oper)) (v := .int .i64 k) rfl (by kernel_rfl) (by kernel_rfl) (by kernel_rfl) (fun _ _ _ h => h) (Or.inl ⟨by rfl, ?hy11⟩) (by assumption) ?_
        case hy11 => ((intro W hSW; have ew : IntKind.i64.wrap k = k := IntWalk.i64_in _ (by omega); go_simp); (try with_reducible rfl); (try exact ⟨rfl, rfl, rfl⟩))
        simp only [Act.put, List.setIfInBounds_toArray, List.set_cons_zero, List.set_cons_succ]
        refine wpAnyH_take (i := 14) (oi := ({ dst := some 71, op := Go.Op.load 33 (Go.Operand.tmp 12), type := 33, pos := "law.go:251", after := #[{ on := 8, ground := Go.Ground.guard }], guard := some (8, false) } : Oper)) (v := .agg #[.int .u64 x, .int .i64 1, .int .i64 0, .int .i64 0, .int .i64 256]) rfl (by kernel_rfl) (by kernel_rfl) (by kernel_rfl) (fun _ _ _ h => h) (Or.inl ⟨by rfl, ?hy12⟩) (by assumption) ?_
        case hy12 => ((intro W hSW; have hl2 : m12 < W.heap.size := lt_of_at (hSW.2.2.trans Rm12.out); have e0 := (World.cell?_of_block (w := Y) (a := ⟨m12, 0, none⟩) hSW.2.2).trans cc0; have e1 := (World.cell?_of_block (w := Y) (a := ⟨m12, 1, none⟩) hSW.2.2).trans cc1; have e2 := (World.cell?_of_block (w := Y) (a := ⟨m12, 2, none⟩) hSW.2.2).trans cc2; have e3 := (World.cell?_of_block (w := Y) (a := ⟨m12, 3, none⟩) hSW.2.2).trans cc3; have e4 := (World.cell?_of_block (w := Y) (a := ⟨m12, 4, none⟩) hSW.2.2).trans cc4; clear hSW; go_simp); (try with_reducible rfl); (try exact ⟨rfl, rfl, rfl⟩))
        simp only [Act.put, List.setIfInBounds_toArray, List.set_cons_zero, List.set_cons_succ]
        refine wpAnyH_ready (rs := [13]) (by kernel_rfl) (by simp) ?_
        refine (AllReadyH.cons (i := 13) (o := ({ dst := some 70, op := Go.Op.call { callee := Go.Callee.value (Go.Operand.func 8), args := #[Go.Operand.tmp 67, Go.Operand.tmp 69], argTypes := #[28, 3] }, type := 28, pos := "law.go:251", after := #[{ on := 10, ground := Go.Ground.data }, { on := 12, ground := Go.Ground.data }, { on := 8, ground := Go.Ground.chain }, { on := 8, ground := Go.Ground.guard }], guard := some (8, false) } : Oper)) rfl (fun K hK => ?_) AllReadyH.nil)
        rw [if_pos (by rfl)]
        go_simp
        refine (move_any ⟨2, 0, 0, 256⟩ k _ pok2).mono ?_
        rintro e V3 ⟨he, hb⟩
        subst he
        replace HP := Lib.hid (HP.out.below hb)
        go_simp
        refine hK.out _ _ (⟨(hb.block _ (lt_of_at (hHeld.1.trans Rm6.out))).trans hHeld.1, (hb.block _ (lt_of_at (hHeld.2.1.trans Rm8.out))).trans hHeld.2.1, (hb.block _ (lt_of_at (hHeld.2.2.trans Rm12.out))).trans hHeld.2.2⟩) (fun hHeld => ?_)
        clear hK K
        try simp only [Act.put, List.setIfInBounds_toArray, List.set_cons_zero, List.set_cons_succ]
        refine wpAnyH_ready (rs := [15]) (by kernel_rfl) (by simp) ?_
        refine (AllReadyH.cons (i := 15) (o := ({ dst := some 72, op := Go.Op.call { callee := Go.Callee.value (Go.Operand.func 7), args := #[Go.Operand.tmp 66, Go.Operand.tmp 70, Go.Operand.const (Go.Value.int Go.IntKind.i64 1), Go.Operand.tmp 71], argTypes := #[24, 28, 3, 33] }, type := 29, pos := "law.go:251", after := #[{ on := 9, ground := Go.Ground.data }, { on := 13, ground := Go.Ground.data }, { on := 14, ground := Go.Ground.data }, { on := 13, ground := Go.Ground.chain }, { on := 8, ground := Go.Ground.guard }], guard := some (8, false) } : Oper)) rfl (fun K hK => ?_) AllReadyH.nil)
        rw [if_pos (by rfl)]
        go_simp
        refine (clStore2 HP.out HK.out (by omega)).mono ?_
        rintro e V4 ⟨he, hp, hs⟩
        subst he
        replace HP := Lib.hid hp
        clear hp
        go_simp
        refine hK.out _ _ (⟨(hs m6 (by simp) (lt_of_at (hHeld.1.trans Rm6.out))).trans hHeld.1, (hs m8 (by simp) (lt_of_at (hHeld.2.1.trans Rm8.out))).trans hHeld.2.1, (hs m12 (by simp) (lt_of_at (hHeld.2.2.trans Rm12.out))).trans hHeld.2.2⟩) (fun hHeld => ?_)
        clear hK K
        try simp only [Act.put, List.setIfInBounds_toArray, List.set_cons_zero, List.set_cons_succ]
        refine wpAnyH_take (i := 16) (oi := ({ dst := some 73, op := Go.Op.binOp Go.BinOp.neq 29 (Go.Operand.tmp 72) (Go.Operand.const (Go.Value.int Go.IntKind.i64 0)) 29, type := 4, pos := "law.go:251", after := #[{ on := 15, ground := Go.Ground.data }, { on := 8, ground := Go.Ground.guard }], guard := some (8, false) } : Oper)) (v := .bool false) rfl (by kernel_rfl) (by kernel_rfl) (by kernel_rfl) (fun _ _ _ h => h) (Or.inl ⟨by rfl, ?hy13⟩) (by assumption) ?_
        case hy13 => ((intro W hSW; go_simp); (try with_reducible rfl); (try exact ⟨rfl, rfl, rfl⟩))
        simp only [Act.put, List.setIfInBounds_toArray, List.set_cons_zero, List.set_cons_succ]
        refine wpAnyH_take (i := 17) (oi := ({ dst := some 74, op := Go.Op.pick (Go.Operand.tmp 65) (Go.Operand.const (Go.Value.bool true)) (Go.Operand.tmp 73), type := 4, pos := "law.go:251", after := #[{ on := 8, ground := Go.Ground.data }, { on := 16, ground := Go.Ground.data }], guard := none } : Oper)) (v := .bool false) rfl (by kernel_rfl) (by kernel_rfl) (by kernel_rfl) (fun _ _ _ h => h) (Or.inl ⟨by rfl, ?hy14⟩) (by assumption) ?_
        case hy14 => ((intro W hSW; go_simp); (try with_reducible rfl); (try exact ⟨rfl, rfl, rfl⟩))
        simp only [Act.put, List.setIfInBounds_toArray, List.set_cons_zero, List.set_cons_succ]
        refine wpAnyH_done (by kernel_rfl) ?_ _
        have r6 := hHeld.1.trans Rm6.out
        have r8 := hHeld.2.1.trans Rm8.out
        clear hHeld
        generalize hVV : V4 = T at *
        clear hVV
        go_wp2
        go_roundw
        case rel => exact ⟨j + 1, by omega, by go_num, Lib.hid ⟨by rw [HST.out]; exact cl_cut HP.out (by intro m hm; simp at hm ⊢; rcases hm with rfl | rfl <;> simp) (by omega), r6, r8⟩⟩
        case measure => simp [intOf]; omega
      · have dj1 : decide ((j : Int) < (n : Int)) = false := decide_eq_false (by omega)
        have htk : ks.take j = ks := List.take_of_length_le (by omega)
        have hc2 := hcl.out.1
        rw [htk] at hc2
        obtain ⟨p0, p1, p2, p3⟩ := cells4 hcl.out.2.1
        have hl6 := lt_of_at hcl.out.2.1
        have hl8 := lt_of_at hcl.out.2.2
        have HC2 := Lib.hid hc2
        clear hc2 htk
        go_wp2_with fail
        refine (clClear HC2.out (by omega)).mono ?_
        rintro e T ⟨rfl, hcd, hkeep⟩
        have t6 := Lib.hid ((hkeep m6 (by simp) hl6).trans hcl.out.2.1)
        have t8 := Lib.hid ((hkeep m8 (by simp) hl8).trans hcl.out.2.2)
        have HCD := Lib.hid hcd
        clear hkeep hcd p0 p1 p2 p3 hl6 hl8 hcl dj1
        go_wp2_with fail
        go_loopw [83] (fun i wr => ∃ u : Nat, u ≤ n ∧ i = .int .i64 u ∧ Hid (Below T.heap.size T wr)) (fun i _ => n - (intOf i).toNat)
        case atStart => exact ⟨0, Nat.zero_le _, rfl, Lib.hid (Below.refl _ _)⟩
        case round =>
          obtain ⟨u, hu, rfl, hbt⟩ := hrel
          have r6 := row_in hbt.out t6.out (lt_of_at t6.out)
          have r8 := row_in hbt.out t8.out (lt_of_at t8.out)
          have hl6 := lt_of_at r6
          have hl8 := lt_of_at r8
          obtain ⟨p0, p1, p2, p3⟩ := cells4 r6
          obtain ⟨q0, q1, q2, q3⟩ := cells4 r8
          have HR6 := Lib.hid r6
          have HR8 := Lib.hid r8
          have HD := Lib.hid (HCD.out.below hbt.out)
          clear r6 r8
          by_cases hlt : u < n
          · have dj0 : (0 : Int) ≤ (u : Int) := by omega
            have dj1 : (u : Int) < (n : Int) := by omega
            obtain ⟨g, og, rfl, hg, hcell⟩ := HIN.out (by omega)
            have hmem : ks.getD u 0 ∈ ks := by rw [List.getD_eq_getElem?_getD, List.getElem?_eq_getElem (by omega)]; exact List.getElem_mem _
            have hkk := HWF.out (ks.getD u 0) hmem
            have hbw : Below w.heap.size w wr := by obtain ⟨_, _, _, _, _, h⟩ := HD.out; exact h
            have hc := (hbw.cell (p := ⟨g, og + u, none⟩) hg).trans (hcell u hlt)
            have hgr : g < wr.heap.size := Nat.lt_of_lt_of_le hg hbw.size
            have HMEM := Lib.hid hmem
            clear hcell hbw hmem
            generalize ks.getD u 0 = k at *
            have HK := Lib.hid hkk
            go_wp2_with fail
            refine (move_any ⟨1, 0, 0, 256⟩ k _ pok1).mono ?_
            rintro e S1 ⟨rfl, hs1⟩
            have HD1 := Lib.hid (HD.out.below hs1)
            have HS1 := Lib.hid hs1
            clear hs1
            go_wp2_with fail
            refine (cdLoad1 HD1.out HK.out).mono ?_
            rintro e S2 ⟨rfl, hs2⟩
            have HS2 := Lib.hid (HS1.out.trans (hs2.mono HS1.out.size))
            have HD2 := Lib.hid ((HD1.out.below hs2).below ((Below.refl _ _).alloc (Nat.le_refl _) (.cells (valA v0) 33)))
            have k8 := row_up (row_in HS2.out HR8.out hl8) (.cells (valA v0) 33)
            have HR12 := Lib.hid (heap_alloc_new S2 (.cells (valA v0) 33))
            have k6 := row_up (row_in HS2.out HR6.out hl6) (.cells (valA v0) 33)
            have HS2b := Lib.hid (HS2.out.alloc HS2.out.size (.cells (valA v0) 33))
            simp only [valA, v0, Hp.p0] at k8 HR12 HD2 k6 HS2b
            have HK6 := Lib.hid k6
            have HK8 := Lib.hid k8
            clear hs2 p0 p1 p2 p3 q0 q1 q2 q3 k6 hc
            obtain ⟨q0, q1, q2, q3⟩ := cells4 k8
            have hl82 := lt_of_at k8
            clear k8
            go_wp2_with fail
            generalize S2.alloc (.cells #[.int .u64 0, .int .i64 0, .int .i64 0, .int .i64 0, .int .i64 0] 33) = S3 at *
            generalize S2.heap.size = m15 at *
            refine (move_any ⟨2, 0, 0, 256⟩ k _ pok2).mono ?_
            rintro e S4 ⟨rfl, hs4⟩
            have HD4 := Lib.hid (HD2.out.below hs4)
            have HS4 := Lib.hid hs4
            clear hs4 q0 q1 q2 q3
            go_wp2_with fail
            refine (cdLoad2 HD4.out HK.out HMEM.out).mono ?_
            rintro e S5 ⟨rfl, hs5⟩
            have HS5 := Lib.hid (HS4.out.trans (hs5.mono HS4.out.size))
            have z6 := row_up (row_in HS5.out HK6.out (lt_of_at HK6.out)) (.cells (valA (clX x)) 33)
            have z15 := row_up (row_in HS5.out HR12.out (lt_of_at HR12.out)) (.cells (valA (clX x)) 33)
            simp only [valA, clX] at z6 z15
            obtain ⟨p0, p1, p2, p3⟩ := cells4 z6
            obtain ⟨cc0, cc1, cc2, cc3, cc4⟩ := cells5 (V := v0) z15
            simp only [v0, Hp.p0] at cc0 cc1 cc2 cc3 cc4
            have hla := lt_of_at (row_in HS5.out HK6.out (lt_of_at HK6.out))
            have hlb := lt_of_at (row_in HS5.out HR12.out (lt_of_at HR12.out))
            have HFIN := Lib.hid (hbt.out.trans ((HS2b.out.trans ((HS5.out.alloc HS5.out.size (.cells (valA (clX x)) 33)).mono HS2b.out.size)).mono hbt.out.size))
            simp only [valA, clX] at HFIN
            clear hs5 z6 z15
            go_wp2
            go_roundw
            case rel => exact ⟨u + 1, by omega, by go_num, HFIN⟩
            case measure => simp [intOf]; omega
          · have dj1 : decide ((u : Int) < (n : Int)) = false := decide_eq_false (by omega)
            go_wp2_with fail
            refine (cdLive HD.out (.inl rfl)).mono ?_
            rintro e S1 ⟨rfl, hs1⟩
            have HD1 := Lib.hid (HD.out.below hs1)
            have y8 := row_in hs1 HR8.out (lt_of_at HR8.out)
            have hly := lt_of_at y8
            clear q0 q1 q2 q3 p0 p1 p2 p3
            obtain ⟨q0, q1, q2, q3⟩ := cells4 y8
            clear y8
            go_wp2_with fail
            refine (cdLive HD1.out (.inr rfl)).mono ?_
            rintro e S2 ⟨rfl, hs2⟩
            go_wp2
            go_ret
            refine ⟨rfl, ?_⟩
            obtain ⟨_, _, _, _, _, h5⟩ := HD1.out
            exact h5.trans (hs2.mono h5.size)
end Go.Proofs.Ytcjffhfigelhhab
