/- Calls of functions: their arguments. Conditions: each theorem's. -/
import Derived.Test.YtlobphanodhcoaaParPo
import Derived.Test.YtlobphanodhcoaaParL
namespace Go.Proofs.Ytlobphanodhcoaa
open Go.RowKit Go.Maps
set_option linter.unusedVariables false
set_option linter.unusedSimpArgs false
set_option maxRecDepth 100000
open Lx Pa
def PostL (w : World) (R M : Nat) (l : List PEx) (s' : Pa.S) (e : Ending) (w' : World) : Prop :=
  ∃ v : Value, e = .returned v ∧ LAt exE w' (fun g => w.heap.size ≤ g) l v ∧ RdAt w' R M s' ∧ Fr [R] w w'
abbrev ptR (R : Nat) : Array Value := #[.pointer (some ⟨R, 0, none⟩)]
theorem makeFn (fn : Fn) (first cap : Array Value) (w : World) : (Instr.makeFunc fn first cap).run Try.prog w = .ok (.func fn first cap) w := rfl
theorem infoEx9 : (Try.prog.info? 45).map (fun i => (i.zero, i.size, i.bytes)) = some (some (.agg exZ), 9, 112) := by kernel_rfl
set_option maxHeartbeats 4000000 in
theorem useLit {f : Nat} (HE : ExprC f) (R M d : Nat) (s : Pa.S) (w : World) (br bd : Nat) (h : RdAt w R M s) (hbr : w.heap[br]? = some (.cells (ptR R) 73)) (hbd : w.heap[bd]? = some (.cells #[.int .i64 d] 3)) (hf : 8 * s.tk.length + 5 ≤ f) (hd : d + 1 + f ≤ 60000) :
    Calls Try.prog 84 #[.pointer (some ⟨br, 0, none⟩), .pointer (some ⟨bd, 0, none⟩)] w (PostE w R M (hd1 (runE f (.expr (d + 1)) s)) (runE f (.expr (d + 1)) s).2) := by
  have hR := h.lt
  have hbrl := lt_of_at hbr
  have hbdl := lt_of_at hbd
  have c1 : w.cell? ⟨br, 0, none⟩ = some (.pointer (some ⟨R, 0, none⟩)) := cell_of_row _ _ _ _ _ _ hbr
  have c2 : w.cell? ⟨bd, 0, none⟩ = some (.int .i64 d) := cell_of_row _ _ _ _ _ _ hbd
  have h0 := h.alloc (.cells exZ 45)
  have HR0 := Lib.hid (heap_alloc_new w (.cells exZ 45))
  have HS0 := Lib.hid (szA w (.cells exZ 45))
  have hw : IntKind.i64.wrap ((d : Int) + 1) = (d : Int) + 1 := IntWalk.i64_in _ (by omega)
  have hexp := HE R M (d + 1) s _ h0 hf hd
  rw [show ((d + 1 : Nat) : Int) = (d : Int) + 1 from rfl] at hexp
  clear hbr hbd
  go_enter Try.func84, Try.ntmps84
  go_wp2_with fail
  refine hexp.mono ?_
  rintro e w5 ⟨c5, rfl, hc5, h5, f5⟩
  clear hexp
  have HC5 := Lib.hid hc5.len
  have HA5 := Lib.hid (oneL hc5)
  have HRO := Lib.hid (f5.at_ HR0.out (by simp; omega))
  rw [HS0.out] at hc5
  have F5 := ((Fr.refl [R] w).alloc (.cells exZ 45)).trans f5
  clear c1 c2
  go_wp2_with (((with_reducible refine stE w.heap.size HC5.out HA5.out HRO.out rfl ?_ ?_ ?_); rfl; rfl; intro Y hY; have HY := Lib.hid hY; clear hY))
  refine ret_row Try.results84 w.heap.size 45 _ _ rfl rfl HY.out.at_ Try.underlying45 rfl (by rw [List.size_toArray, HC5.out]; exact sizeEx) ?_
  exact ⟨c5, rfl, hc5.upd HY.out (fun g hg hl => ⟨by show w.heap.size ≤ g; omega, by omega⟩), h5.up HY.out HRO.out (by decide) (by decide), F5.up HY.out (Nat.le_refl _)⟩
def BetC (f : Nat) : Prop := ∀ (R M d : Nat) (s : Pa.S) (w : World) (br bd : Nat), RdAt w R M s → w.heap[br]? = some (.cells (ptR R) 73) → w.heap[bd]? = some (.cells #[.int .i64 d] 3) → 8 * s.tk.length + 6 ≤ f → d + 1 + f ≤ 60000 →
  Calls Try.prog 83 #[.pointer (some ⟨R, 0, none⟩), .func (.func 84) #[] #[.pointer (some ⟨br, 0, none⟩), .pointer (some ⟨bd, 0, none⟩)]] w (PostL w R M (runE f (.betE (d + 1)) s).1 (runE f (.betE (d + 1)) s).2)
set_option maxHeartbeats 16000000 in
theorem bet_step {f : Nat} (HE : ∀ g, g ≤ f → ExprC g) : BetC (f + 1) := by
  intro R M d s w br bd h hbr hbd hf hd
  have hR := h.lt
  have hrR := h.ne hbr (by decide)
  have hdR := h.ne hbd (by decide)
  have HBR := Lib.hid hbr
  have HBD := Lib.hid hbd
  have hrun : runE (f + 1) (.betE (d + 1)) s = if s.is ⟨#[41]⟩ then ([], s.tl) else runE f (.betL (d + 1) [hd1 (runE f (.expr (d + 1)) s)]) (runE f (.expr (d + 1)) s).2 := by simp only [runE]
  have HRUN := Lib.hid hrun
  obtain ⟨i0, hi0, hz0, hz1, hz2⟩ := info_parts infoEx9
  have hta := take_any ⟨#[41]⟩ (by decide) h
  clear hrun hbr hbd
  cases hi : s.is ⟨#[41]⟩ with
  | true =>
    rw [hi, if_pos rfl] at HRUN
    rw [hi, take_tl hi] at hta
    clear hi
    go_enter Try.func83, Try.ntmps83
    go_wp2_with fail
    refine hta.mono ?_
    rintro e w3 ⟨rfl, h3, f3⟩
    clear hta
    go_wp2
    go_ret
    rw [HRUN.out]
    exact ⟨_, rfl, LAt.nil exE _ _, h3, f3⟩
  | false =>
    rw [hi, if_neg (by decide)] at HRUN
    rw [hi, take_no hi] at hta
    clear hi
    go_enter Try.func83, Try.ntmps83
    go_wp2_with fail
    refine hta.mono ?_
    rintro e w3 ⟨rfl, h3, f3⟩
    clear hta
    have z3 := f3.size
    have hlit := useLit (HE f (Nat.le_refl _)) R M d s w3 br bd h3 (f3.at_ HBR.out (by simpa using hrR)) (f3.at_ HBD.out (by simpa using hdR)) (by omega) (by omega)
    have hlen := (runE_le f (.expr (d + 1)) s ⟨h3.ok, by simp only [rank]; omega, trivial⟩).1.len
    generalize hx : hd1 (runE f (.expr (d + 1)) s) = x0 at *
    generalize hs1 : (runE f (.expr (d + 1)) s).2 = s0 at *
    clear hx hs1
    go_wp2_with fail
    refine hlit.mono ?_
    rintro e w4 ⟨c0, rfl, hc, h4, f4⟩
    clear hlit
    have HC := Lib.hid hc.len
    have z4 := f4.size
    have h5 := h4.alloc (.cells c0.toArray 45)
    have F5 := (f3.trans f4).alloc (.cells c0.toArray 45)
    have HO5 : Own exE 45 (w4.alloc (.cells c0.toArray 45)) w.heap.size [x0] (.slice (some ⟨w4.heap.size, 0, none⟩) 1 1) :=
      Own.made (E := exE) (by omega) (heap_alloc_new w4 _) (hc.all (.cells c0.toArray 45) (fun g hg hl => ⟨by have : w3.heap.size ≤ g := hg; omega, by omega⟩))
    go_wp2_with (((with_reducible refine bsE1 c0 HC.out ?_ ?_); rfl))
    generalize w4.alloc (.cells c0.toArray 45) = W at *
    generalize (Value.slice (some ⟨w4.heap.size, 0, none⟩) 1 1) = v0 at *
    try simp only [Act.put]
    go_loopw [5] (fun v wr => ∃ (g : Nat) (l : List PEx) (s1 : Pa.S), g ≤ f ∧ 8 * s1.tk.length + 1 ≤ g ∧ Hid (runE f (.betL (d + 1) [x0]) s0 = runE g (.betL (d + 1) l) s1) ∧ l.length ≤ 6 ∧ Own exE 45 wr w.heap.size l v ∧ RdAt wr R M s1 ∧ Fr [R] w wr) (fun _ wr => rdLen wr R)
    case atStart => exact ⟨f, [x0], s0, Nat.le_refl _, by omega, Lib.hid rfl, by simp, HO5, h5, F5⟩
    case round =>
      obtain ⟨g, l, s1, hg, hfu, hst, hl6, hown, hrd, hfr⟩ := hrel
      clear HO5 h5 F5 HC hc h4 f4 h3 f3
      have hpos := hrd.ok.pos
      obtain ⟨g, rfl⟩ : ∃ g', g = g' + 1 := ⟨g - 1, by omega⟩
      have HMS := Lib.hid hrd.len
      have hE : runE (g + 1) (.betL (d + 1) l) s1 = if s1.is ⟨#[44]⟩ then (if l.length = 6 then ([], s1.tl.fail 3) else runE g (.betL (d + 1) (l ++ [hd1 (runE g (.expr (d + 1)) s1.tl)])) (runE g (.expr (d + 1)) s1.tl).2) else (l, s1.want ⟨#[41]⟩) := by simp only [runE]
      have HE0 := Lib.hid hE
      clear hE
      have zr := hfr.size
      obtain ⟨A, cap, rfl⟩ := hown.slice
      have hta := take_any ⟨#[44]⟩ (by decide) hrd
      cases hi1 : s1.is ⟨#[44]⟩ with
      | false =>
        rw [hi1, if_neg (by decide)] at HE0
        rw [hi1, take_no hi1] at hta
        clear hi1
        go_wp2_with fail
        refine hta.mono ?_
        rintro e w4 ⟨rfl, h4, f4⟩
        clear hta
        go_wp2_with fail
        refine (want_any ⟨#[41]⟩ (by decide) h4).mono ?_
        rintro e w7 ⟨rfl, h7, f7⟩
        have HO7 := (hown.fr f4 (by simpa using hR)).fr f7 (by simpa using hR)
        go_wp2
        go_ret
        rw [HRUN.out, hst.out, HE0.out]
        exact ⟨_, rfl, HO7.list, h7, (hfr.trans f4).trans f7⟩
      | true =>
        rw [hi1, if_pos rfl] at HE0
        rw [hi1, take_tl hi1] at hta
        have hne := is_ne hi1 (by decide)
        have htl := (tl_ok hrd.ok hne).2
        clear hi1
        by_cases h6 : l.length = 6
        · have e6 : ((l.length : Int) == 6) = true := by rw [h6]; rfl
          rw [if_pos h6] at HE0
          clear h6
          go_wp2_with fail
          refine hta.mono ?_
          rintro e w4 ⟨rfl, h4, f4⟩
          clear hta
          go_wp2_with fail
          refine (fail_any 3 (by omega) h4).mono ?_
          rintro e w7 ⟨rfl, h7, f7⟩
          go_wp2
          go_ret
          rw [HRUN.out, hst.out, HE0.out]
          exact ⟨_, rfl, LAt.nil exE _ _, h7, (hfr.trans f4).trans f7⟩
        · have e6 : ((l.length : Int) == 6) = false := beq_eq_false_iff_ne.mpr (by omega)
          rw [if_neg h6] at HE0
          go_wp2_with fail
          refine hta.mono ?_
          rintro e w4 ⟨rfl, h4, f4⟩
          clear hta
          have z4 := f4.size
          have F4 := hfr.trans f4
          have hlit := useLit (HE g (by omega)) R M d s1.tl w4 br bd h4 (F4.at_ HBR.out (by simpa using hrR)) (F4.at_ HBD.out (by simpa using hdR)) (by omega) (by omega)
          have hlen := (runE_le g (.expr (d + 1)) s1.tl ⟨h4.ok, by simp only [rank]; omega, trivial⟩).1.len
          generalize hx : hd1 (runE g (.expr (d + 1)) s1.tl) = y at *
          generalize hs1 : (runE g (.expr (d + 1)) s1.tl).2 = s2 at *
          clear hx hs1
          go_wp2_with fail
          refine hlit.mono ?_
          rintro e w5 ⟨c5, rfl, hc5, h5, f5⟩
          clear hlit
          have HC5 := Lib.hid hc5.len
          have HN5 := Lib.hid hc5.one
          have z5 := f5.size
          have HO6 := ((hown.fr f4 (by simpa using hR)).fr f5 (by simpa using hR)).alloc (.cells c5.toArray 45)
          have h6' := h5.alloc (.cells c5.toArray 45)
          have F6 := (F4.trans f5).alloc (.cells c5.toArray 45)
          have hlt4 := (hown.fr f4 (by simpa using hR)).lt
          have hx6 := hc5.all (.cells c5.toArray 45) (S' := fun k => w.heap.size ≤ k ∧ (Value.slice A l.length cap).ownBlock ≠ some k) (fun k hk hl => ⟨by have : w4.heap.size ≤ k := hk; omega, fun he => by have := (hlt4 k he).2; have : w4.heap.size ≤ k := hk; omega⟩)
          obtain ⟨rows, hrl, how, hel⟩ := HO6
          clear hown hlt4 hc5
          have HOW := Lib.hid how
          go_wp2_with (first | ((with_reducible refine bsE1 c5 HC5.out ?_ ?_); rfl) | (at_builtin; refine wpList_append_lies (o := ⟨some 22, _, _, _, _, _⟩) _ rfl (.tmp 18) (.tmp 21) 33 rfl w.heap.size 45 i0 (.agg exZ) 9 112 Try.underlying33 hi0 hz0 hz1 hz2 rfl (by decide) _ _ _ rfl HOW.out ⟨w5.heap.size, 0, none⟩ 1 1 c5 rfl (by rw [HC5.out]) (World.news_of_block (cs := c5.toArray) (t := 45) (fr := (0, 0)) (heap_alloc_new w5 _)) HN5.out (by omega) (by unfold maxLen; omega) (by omega) (by simp only [szA]; omega) _ rfl ?_; intro ga ca w7 hown7 hgrow7 hat7 hlt7))
          have HO7 := Own.push (E := exE) hrl hel hx6 rfl hown7 hgrow7 hat7
          have h7 := h6'.own how hgrow7 (by decide) (by decide)
          have F7 := F6.own how hgrow7
          go_wp2
          try simp only [Act.put]
          go_roundw
          case rel => exact ⟨g, l ++ [y], s2, by omega, by omega, Lib.hid (hst.out.trans HE0.out), by simp; omega, HO7, h7, F7⟩
          case measure =>
            rw [HMS.out, h7.len]
            omega
end Go.Proofs.Ytlobphanodhcoaa
