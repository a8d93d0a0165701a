/- Package lay: where a field stands. Conditions: each theorem's. -/
import Derived.Test.YtlghhailckoonabLayU
import Derived.Deep.RegionWith
namespace Go.Proofs.Ytlghhailckoonab
open Go.RowKit Go.Maps
set_option linter.unusedVariables false
set_option linter.unusedSimpArgs false
set_option maxRecDepth 10000
open Py
theorem results_cell_tmp3 {fn : Func} {p u v : Tmp} {ty : TypeId} (h : fn.results = #[.cell p ty, .tmp u, .tmp v]) (tmps : Array Value) (P : Program) (w : World) :
    (results fn tmps).run P w =
      ((asAddr (tmps.getD p undef)).run P w).andThen fun a w₁ => ((loadVar ty a).run P w₁).andThen fun x w₂ => .ok (.tuple #[x, tmps.getD u undef, tmps.getD v undef]) w₂ := by
  simp only [results, h]
  simp [Sem.run_bind, Result.andThen]
theorem res_cell_tmp3 {P : Program} {fn : Func} {p u v : Tmp} {ty : TypeId} (h : fn.results = #[.cell p ty, .tmp u, .tmp v]) (tmps : Array Value) (w : World) (g : Nat) (t : TypeId) (cs : Array Value) (fr : Nat × Nat) (d : TypeDesc) (x y : Value)
    (hp : tmps.getD p undef = .pointer (some ⟨g, 0, none⟩)) (hx : tmps.getD u undef = x) (hy : tmps.getD v undef = y) (hg : w.heap[g]? = some (.cells cs t fr))
    (hu : P.underlying ty = some d) (hd : (match d with | .struct _ | .array _ _ => true | _ => false) = true) (hi : (P.info? ty).map (·.size) = some cs.size) :
    (results fn tmps).run P w = .ok (.tuple #[.agg cs, x, y]) w := by
  rw [results_cell_tmp3 h]
  simp [hp, hx, hy, asAddr, run_loadVar_row w g t ty cs fr d hg hu hd hi, Result.andThen]
theorem getD_ints (l : List Int) (k : Nat) (h : k < l.length) : (ints l)[k]? = some (.int .i64 (l.getD k 0)) := by simp [ints, h]
theorem own_at {w : World} {base k : Nat} {v : Value} {xs : List Int} (h : w.ownsRow base 3 1 v xs.length (ints xs)) (hk : k < xs.length) : ∃ g cap, v = .slice (some ⟨g, 0, none⟩) xs.length cap ∧ g < w.heap.size ∧ w.cell? ⟨g, k, none⟩ = some (.int .i64 (xs.getD k 0)) := by
  rcases h.2 with ⟨rfl, hn⟩ | ⟨g, cap, cur, rfl, hg, hh, hnc, _, hsz, htk⟩
  · omega
  · refine ⟨g, cap, rfl, lt_of_row hh, ?_⟩
    rw [cell_of_row w g k _ _ _ hh]
    have h1 := getD_ints xs k hk
    rw [← htk, List.getElem?_take] at h1
    split at h1
    · simpa using h1
    · cases h1
theorem layV_len (fs : List Fe) : (layV fs).offs.length = fs.length := (layN_ok fs fs.length (Nat.le_refl _)).1
set_option maxHeartbeats 4000000 in
theorem field_yes {w : World} {B i k : Nat} {A : Option Addr} {c : Nat} {l : List Sc} (nm fn : ByteArray) (hS : ScsAt w B A l) (hB : B ≤ w.heap.size) (hl : l.length ≤ 1099511627776) (hi : sIdx l nm = i) (hok : ScsOk l) (hk : fIdx (l.getD i sc0).fs fn = k) :
    Calls Try.prog 17 #[.slice A l.length c, .string nm, .string fn] w fun e w' => e = .returned (.tuple #[.agg #[.int .i64 ((l.getD i sc0).fs.getD k fd0).ty.ba, .int .i64 ((l.getD i sc0).fs.getD k fd0).ty.st, .string ((l.getD i sc0).fs.getD k fd0).ty.sn], .int .i64 ((layV (l.getD i sc0).fs).offs.getD k 0), .int .i64 0]) ∧ Below w.heap.size w w' := by
  have hb0 := (Below.refl w.heap.size w).alloc (Nat.le_refl _) (.cells #[.int .i64 0, .int .i64 0, .string ⟨#[]⟩] 43)
  have hir : i < l.length := by have := (idx_range (fun s : Sc => s.nm.toList == nm.toList) l).2; rw [show idx (fun s : Sc => s.nm.toList == nm.toList) l = (i : Int) from hi] at this; omega
  have h1 : decide ((i : Int) < 0) = false := decide_eq_false (by omega)
  have h1k : decide ((k : Int) < 0) = false := decide_eq_false (by omega)
  obtain ⟨hf40, hty⟩ := hok i hir
  have hkr : k < (l.getD i sc0).fs.length := by have := (idx_range (fun s : Fe => s.nm.toList == fn.toList) (l.getD i sc0).fs).2; rw [show idx (fun s : Fe => s.nm.toList == fn.toList) (l.getD i sc0).fs = (k : Int) from hk] at this; omega
  go_enter Try.func17, Try.ntmps17
  go_wp2_with fail
  refine (findStruct_any nm (hS.keep hb0 hB) (by simp only [szA]; omega) hl).mono ?_
  rintro e w2 ⟨rfl, h2⟩
  rw [hi]
  have hb2 := hb0.trans (h2.mono (by simp only [szA]; omega))
  have h4 := row_below2 h2 (heap_alloc_new w (.cells #[.int .i64 0, .int .i64 0, .string ⟨#[]⟩] 43)) (by simp)
  have hS2 := hS.keep hb2 hB
  obtain ⟨g, o, rfl, hg, hrg⟩ := hS2 (by omega)
  obtain ⟨fA, fc, hf1, hf2, hr, hfd⟩ := hrg i hir
  have hc1 : w2.cell? ⟨g, o + i * 3 + 1, none⟩ = some (.slice fA (l.getD i sc0).fs.length fc) := hr 1 _ rfl
  have dj0 : (0 : Int) ≤ (i : Int) := by omega
  have dj1 : (i : Int) < (l.length : Int) := by omega
  have hz2 := hb2.size
  clear hrg hr h2 hb0 hir
  generalize hs : l.getD i sc0 = s at *
  have HSS := Lib.hid hs; clear hs
  go_wp2_with fail
  refine (findField_any fn hfd (by omega) (by omega)).mono ?_
  rintro e w3 ⟨rfl, h3⟩
  rw [hk]
  have hb3 := hb2.trans (h3.mono hb2.size)
  have h43 := row_below2 h3 h4 (lt_of_row h4)
  have hfd3 := hfd.keep h3 (by omega)
  have hz3 := hb3.size
  clear h3 h4 hfd hc1 hb2
  obtain ⟨g2, o2, rfl, hg2, hrg2⟩ := hfd3 (by omega)
  have hr2 := hrg2 k hkr
  have t0 : w3.cell? ⟨g2, o2 + k * 5 + 1, none⟩ = some (.int .i64 (s.fs.getD k fd0).ty.ba) := hr2 1 _ rfl
  have t1 : w3.cell? ⟨g2, o2 + k * 5 + 1 + 1, none⟩ = some (.int .i64 (s.fs.getD k fd0).ty.st) := hr2 2 _ rfl
  have t2 : w3.cell? ⟨g2, o2 + k * 5 + 1 + 2, none⟩ = some (.string (s.fs.getD k fd0).ty.sn) := hr2 3 _ rfl
  have dk0 : (0 : Int) ≤ (k : Int) := by omega
  have dk1 : (k : Int) < (s.fs.length : Int) := by omega
  have hg2l : g2 < w3.heap.size := by omega
  have hgne : w.heap.size ≠ g2 := by omega
  have hl4 := lt_of_row h43
  generalize hff : s.fs.getD k fd0 = f at *
  have HFF := Lib.hid hff; clear hff
  have HKR := Lib.hid hkr
  have hfield : ∀ (a b : Int) (A : Option Addr) (n c : Nat) (W : World), (Instr.field 32 (.agg #[.int .i64 a, .int .i64 b, .slice A n c]) 2).run Try.prog W = .ok (.slice A n c) W := fun _ _ _ _ _ _ => by kernel_rfl
  have hFD : Hid (FdsAt w3 B (some ⟨g2, o2, none⟩) s.fs) := Lib.hid (fun _ => ⟨g2, o2, rfl, hg2, hrg2⟩)
  clear hrg2 hr2
  go_wp2_with fail
  go_region_with (first
    | (go_at_call 27; refine (numbers_any _).mono ?_; rintro e w4 ⟨rfl, hN4, hb4⟩; have p0 : w4.cell? ⟨g2, o2 + k * 5 + 1, none⟩ = _ := (hb4.cell (p := ⟨g2, o2 + k * 5 + 1, none⟩) (by show g2 < w3.heap.size; omega)).trans t0; have p1 : w4.cell? ⟨g2, o2 + k * 5 + 1 + 1, none⟩ = _ := (hb4.cell (p := ⟨g2, o2 + k * 5 + 1 + 1, none⟩) (by show g2 < w3.heap.size; omega)).trans t1; have p2 : w4.cell? ⟨g2, o2 + k * 5 + 1 + 2, none⟩ = _ := (hb4.cell (p := ⟨g2, o2 + k * 5 + 1 + 2, none⟩) (by show g2 < w3.heap.size; omega)).trans t2)
    | (go_at_call 28; refine (lay_any hN4 (hFD.out.keep ((Below.refl w3.heap.size w3).drew.trans hb4) (by omega)) (by have h9 : w3.heap.size ≤ w4.heap.size := hb4.size; omega) hf40 hty).mono ?_; rintro e w5 ⟨ov, rfl, hov, hb5⟩; rw [← layV_len s.fs] at hov; obtain ⟨g3, oc, rfl, hg3, hcel⟩ := own_at hov (by rw [layV_len]; exact HKR.out); rw [layV_len]; have h9 : w3.heap.size ≤ w4.heap.size := hb4.size; have q0 : w5.cell? ⟨g2, o2 + k * 5 + 1, none⟩ = _ := (hb5.cell (p := ⟨g2, o2 + k * 5 + 1, none⟩) (by show g2 < w4.heap.size; omega)).trans p0; have q1 : w5.cell? ⟨g2, o2 + k * 5 + 1 + 1, none⟩ = _ := (hb5.cell (p := ⟨g2, o2 + k * 5 + 1 + 1, none⟩) (by show g2 < w4.heap.size; omega)).trans p1; have q2 : w5.cell? ⟨g2, o2 + k * 5 + 1 + 2, none⟩ = _ := (hb5.cell (p := ⟨g2, o2 + k * 5 + 1 + 2, none⟩) (by show g2 < w4.heap.size; omega)).trans p2; have h45 : w5.heap[w.heap.size]? = some (.cells #[.int .i64 0, .int .i64 0, .string ⟨#[]⟩] 43) := (hb5.block _ (by omega)).trans ((hb4.block _ hl4).trans h43); obtain ⟨z0, z1, z2⟩ := sc_cells3 h45; obtain ⟨y0, y1, y2⟩ := sc_frozen3 h45; have hg3n : w.heap.size ≠ g3 := (fun e => own_type hov h45 (by decide) (by rw [e]; rfl)); have h45' := Lib.hid h45; clear h45))
  all_goals
    have h45 := h45'.out
    have hb34 : Below w3.heap.size w3 w4 := (Below.refl w3.heap.size w3).drew.trans hb4
    have hbA : Below w.heap.size w w5 := (hb3.trans (hb34.mono hb3.size)).trans (hb5.mono (by have := hb34.size; omega))
    go_wp2
    have a1 := heap_setCell_same _ w.heap.size 0 _ _ (.int .i64 f.ty.ba) h45
    have a2 := heap_setCell_same _ w.heap.size 1 _ _ (.int .i64 f.ty.st) a1
    have a3 := heap_setCell_same _ w.heap.size 2 _ _ (.string f.ty.sn) a2
    refine bodyPost_ret (v := .tuple #[.agg #[.int .i64 f.ty.ba, .int .i64 f.ty.st, .string f.ty.sn], .int .i64 ((layV s.fs).offs[k]?.getD 0), .int .i64 0]) (res_cell_tmp3 Try.results17 _ _ w.heap.size 43 _ (0, 0) _ _ _ rfl rfl rfl a3 Try.underlying43 rfl sizeTy) rfl ⟨?_, ((hbA.setCell (Nat.le_refl _) _).setCell (Nat.le_refl _) _).setCell (Nat.le_refl _) _⟩
    rw [HSS.out, HFF.out, List.getD_eq_getElem?_getD]
end Go.Proofs.Ytlghhailckoonab
