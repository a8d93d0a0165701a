/- What package lay says of structs. Conditions: each theorem's. -/
import Derived.Test.YtlghhailckoonabLayC
import Derived.Deep.RegionHeld3
namespace Go.Proofs.Ytlghhailckoonab
open Go.RowKit
set_option linter.unusedVariables false
set_option linter.unusedSimpArgs false
set_option maxRecDepth 10000
open Py
theorem bcell {W w1 : World} (hb : Below W.heap.size W w1) : (∀ b o, b < W.heap.size → w1.cell? ⟨b, o, none⟩ = W.cell? ⟨b, o, none⟩) ∧ (∀ b o, b < W.heap.size → w1.frozen? ⟨b, o, none⟩ = W.frozen? ⟨b, o, none⟩) :=
  ⟨fun b o h => hb.cell (p := ⟨b, o, none⟩) h, fun b o h => hb.frozen (p := ⟨b, o, none⟩) h⟩
theorem szD (w : World) : w.drew.heap.size = w.heap.size := rfl
theorem row_below {w w' : World} {B b : Nat} {x : Obj} (hb : Below B w w') (h : w.heap[b]? = some x) (hlt : b < B) : w'.heap[b]? = some x := (hb.block b hlt).trans h
theorem fd_cells {w : World} {b : Nat} {f : Fe} {t : TypeId} (h : w.heap[b]? = some (.cells #[.string f.nm, .int .i64 f.ty.ba, .int .i64 f.ty.st, .string f.ty.sn, .int .i64 f.at_] t)) :
    w.cell? ⟨b, 0, none⟩ = some (.string f.nm) ∧ w.cell? ⟨b, 1, none⟩ = some (.int .i64 f.ty.ba) ∧ w.cell? ⟨b, 2, none⟩ = some (.int .i64 f.ty.st) ∧ w.cell? ⟨b, 3, none⟩ = some (.string f.ty.sn) ∧ w.cell? ⟨b, 4, none⟩ = some (.int .i64 f.at_) :=
  ⟨by rw [cell_of_row w b 0 _ _ _ h]; rfl, by rw [cell_of_row w b 1 _ _ _ h]; rfl, by rw [cell_of_row w b 2 _ _ _ h]; rfl, by rw [cell_of_row w b 3 _ _ _ h]; rfl, by rw [cell_of_row w b 4 _ _ _ h]; rfl⟩
theorem sc_cells {w : World} {b : Nat} {x y z : Value} {t : TypeId} (h : w.heap[b]? = some (.cells #[x, y, z] t)) :
    w.cell? ⟨b, 0, none⟩ = some x ∧ w.cell? ⟨b, 1, none⟩ = some y ∧ w.cell? ⟨b, 2, none⟩ = some z :=
  ⟨by rw [cell_of_row w b 0 _ _ _ h]; rfl, by rw [cell_of_row w b 1 _ _ _ h]; rfl, by rw [cell_of_row w b 2 _ _ _ h]; rfl⟩
theorem findField_n {w : World} {B n : Nat} {A : Option Addr} {c : Nat} {l : List Fe} (nm : ByteArray) (hn : l.length = n) (hS : FdsAt w B A l) (hB : B ≤ w.heap.size) (hl : l.length ≤ 1099511627776) :
    Calls Try.prog 29 #[.slice A n c, .string nm] w fun e w' => e = .returned (.int .i64 (fIdx l nm)) ∧ Below w.heap.size w w' := by
  subst hn; exact findField_any nm hS hB hl
theorem isStruct_n {w : World} {B n : Nat} {A : Option Addr} {c : Nat} {l : List Sc} (nm : ByteArray) (hn : l.length = n) (hS : ScsAt w B A l) (hB : B ≤ w.heap.size) (hl : l.length ≤ 1099511627776) :
    Calls Try.prog 22 #[.slice A n c, .string nm] w fun e w' => e = .returned (.bool (decide (0 ≤ sIdx l nm))) ∧ Below w.heap.size w w' := by
  subst hn; exact isStruct_any nm hS hB hl
theorem fldB_eq {l : List Sc} {fs pre : List Fe} {j : Nat} {nm : ByteArray} {t : Ty} {a : Int} (h1 : fs.take j = pre) (h2 : fs.getD j fd0 = ⟨nm, t, a⟩) :
    fldB l fs j = if 0 ≤ fIdx pre nm ∨ (t.ba = 4 ∧ sIdx l t.sn < 0) then (a, 13) else if mayBe l t = true then (0, 0) else (a, 14) := by
  unfold fldB; rw [h1, h2]
theorem fd_cells' {w : World} {b : Nat} {x0 x1 x2 x3 x4 : Value} {t : TypeId} (h : w.heap[b]? = some (.cells #[x0, x1, x2, x3, x4] t)) :
    w.cell? ⟨b, 0, none⟩ = some x0 ∧ w.cell? ⟨b, 1, none⟩ = some x1 ∧ w.cell? ⟨b, 2, none⟩ = some x2 ∧ w.cell? ⟨b, 3, none⟩ = some x3 ∧ w.cell? ⟨b, 4, none⟩ = some x4 :=
  ⟨by rw [cell_of_row w b 0 _ _ _ h]; rfl, by rw [cell_of_row w b 1 _ _ _ h]; rfl, by rw [cell_of_row w b 2 _ _ _ h]; rfl, by rw [cell_of_row w b 3 _ _ _ h]; rfl, by rw [cell_of_row w b 4 _ _ _ h]; rfl⟩
set_option maxHeartbeats 4000000 in
theorem checkFields_any {w : World} {B : Nat} {A fA : Option Addr} {c fc : Nat} {l : List Sc} {fs : List Fe} (hS : ScsAt w B A l) (hFS : FdsAt w B fA fs) (hB : B ≤ w.heap.size) (hl : l.length ≤ 1099511627776) (hfl : fs.length ≤ fc) (hfc : fc ≤ maxLen) (hf40 : fs.length ≤ 1099511627776) :
    Calls Try.prog 23 #[.slice A l.length c, .slice fA fs.length fc] w fun e w' => e = .returned (.tuple #[.int .i64 (chkF l fs).1, .int .i64 (chkF l fs).2]) ∧ Below w.heap.size w w' := by
  generalize hV : chkF l fs = V
  obtain ⟨V1, V2⟩ := V
  have HV := Lib.hid hV; clear hV
  go_enter Try.func23, Try.ntmps23
  go_wp2
  go_loopw [10] (fun k wr => ∃ j : Nat, j ≤ fs.length ∧ k = .int .i64 j ∧ (∀ i, i < j → (fldB l fs i).2 = 0) ∧ Below w.heap.size w wr) (fun k _ => fs.length - (intOf k).toNat)
  case atStart => exact ⟨0, Nat.zero_le _, rfl, fun i hi => by omega, Below.refl _ _⟩
  case round =>
    obtain ⟨j, hj, rfl, hno, hbe⟩ := hrel
    by_cases hlt : j < fs.length
    · obtain ⟨g, o, rfl, hg, hrg⟩ := hFS (by omega)
      have hr' := range_keep (hrg j hlt) (Nat.lt_of_lt_of_le hg hB) hbe
      have hFt := (hFS.take j).keep hbe hB
      have hS1 := hS.keep hbe hB
      have dj0 : (0 : Int) ≤ (j : Int) := by omega
      have dj1 : (j : Int) < (fs.length : Int) := by omega
      have dj2 : (j : Int) ≤ (fc : Int) := by omega
      have hit := fb_hit (fldB l fs) fs.length j hlt hno (fun i _ => fldB_z l fs i)
      have htl : (fs.take j).length = j := by simp; omega
      clear hrg
      generalize hs : fs.getD j fd0 = f at *
      generalize hpre : fs.take j = pre at *
      obtain ⟨nm, t, fat⟩ := f
      have hfld := fldB_eq (l := l) hpre hs
      obtain ⟨ba, st, sn⟩ := t
      clear hs hpre
      dsimp only at *
      go_wp2_with (refine wpList_load_mid (op := ⟨some 14, _, _, _, _, _⟩) rfl 64 (.tmp 13) rfl g (o + j * 5) rfl [.string nm, .int .i64 ba, .int .i64 st, .string sn, .int .i64 fat] _ hr' Try.underlying64 rfl sizeFd ?_)
      have hb2 := hbe.alloc hbe.size (.cells #[.string nm, .int .i64 ba, .int .i64 st, .string sn, .int .i64 fat] 64)
      have hcn : (wr.alloc (.cells #[.string nm, .int .i64 ba, .int .i64 st, .string sn, .int .i64 fat] 64)).heap[wr.heap.size]? = some (.cells #[.string nm, .int .i64 ba, .int .i64 st, .string sn, .int .i64 fat] 64) := heap_alloc_new _ _
      have hX : (wr.alloc (.cells #[.string nm, .int .i64 ba, .int .i64 st, .string sn, .int .i64 fat] 64)).heap.size = wr.heap.size + 1 := szA _ _
      have hS2 := hS1.keep (C := B) (w' := wr.alloc (.cells #[.string nm, .int .i64 ba, .int .i64 st, .string sn, .int .i64 fat] 64)) ((Below.refl B wr).alloc (by have := hbe.size; omega) _) (Nat.le_refl _)
      have hFt2 := hFt.keep (C := B) (w' := wr.alloc (.cells #[.string nm, .int .i64 ba, .int .i64 st, .string sn, .int .i64 fat] 64)) ((Below.refl B wr).alloc (by have := hbe.size; omega) _) (Nat.le_refl _)
      generalize hXw : wr.alloc (.cells #[.string nm, .int .i64 ba, .int .i64 st, .string sn, .int .i64 fat] 64) = X at *
      have hwz := hbe.size
      have c0 : X.cell? ⟨wr.heap.size, 0, none⟩ = some (.string nm) := (fd_cells' hcn).1
      have hcf : pre.length ≤ 1099511627776 := by omega
      have hbx : B ≤ X.heap.size := by omega
      go_region_held3 (fun W => W.cell? ⟨wr.heap.size, 0, none⟩ = some (.string nm)) (first | go_keep | (rw [hb.cell (by simp only [szA, szD]; omega)]; go_simp)) (first | (go_at_call 29; refine (findField_n nm htl (hFt2.keep (Below.refl B X).drew (Nat.le_refl _)) hbx hcf).mono ?_; rintro e w3 ⟨rfl, hb⟩))
      have hb3 : Below X.heap.size X w3 := (Below.refl X.heap.size X).drew.trans hb
      have hbw := hb2.trans (hb3.mono hb2.size)
      have hr3 := row_below hb3 hcn (by omega)
      have hS3 := hS2.keep hb3 (by omega)
      obtain ⟨k0, k1, k2, k3, k4⟩ := fd_cells' hr3
      have hr3z := hb3.size
      have hwlt : wr.heap.size < w3.heap.size := by omega
      clear hb hb3 hb2 hX hXw c0 hcn hFt2 hFt hS2 hS1 hr'
      by_cases hnm : 0 ≤ fIdx pre nm
      · rw [if_pos (.inl hnm)] at hfld
        have hz := HV.out.symm.trans ((hit (by rw [hfld]; simp)).trans hfld)
        injection hz with e1 e2
        subst e1 e2
        rw [decide_eq_true hnm]
        clear HV hit hfld hno
        go_wp2
        go_ret2
        exact ⟨rfl, hbw⟩
      · rw [decide_eq_false hnm]
        have hmid : ∀ (s15 : Value) (w4 : World), Below w3.heap.size w3 w4 → ¬ (ba = 4 ∧ sIdx l sn < 0) → (mayBe l ⟨ba, st, sn⟩ = false → (V1, V2) = (fat, (14 : Int))) ∧ (mayBe l ⟨ba, st, sn⟩ = true → (fldB l fs j).2 = 0) := by
          intro _ _ _ hne
          rw [if_neg (fun h => h.elim hnm hne)] at hfld
          refine ⟨fun hm => ?_, fun hm => ?_⟩
          · rw [if_neg (by rw [hm]; simp)] at hfld
            exact HV.out.symm.trans ((hit (by rw [hfld]; simp)).trans hfld)
          · rw [if_pos hm] at hfld
            rw [hfld]
        by_cases hb4 : ba = 4
        · subst hb4
          go_wp2_with fail
          refine (isStruct_any sn hS3 (by omega) hl).mono ?_
          rintro e w4 ⟨rfl, h4⟩
          have hbw4 := hbw.trans (h4.mono hbw.size)
          have hr4 := row_below h4 hr3 (by omega)
          have hS4 := hS3.keep h4 (by omega)
          have hr4z := h4.size
          obtain ⟨q0, q1, q2, q3, q4⟩ := fd_cells' hr4
          clear k0 k1 k2 k3 k4
          by_cases hsn : 0 ≤ sIdx l sn
          · rw [decide_eq_true hsn]
            obtain ⟨hm1, hm2⟩ := hmid (.bool true) w4 h4 (by omega)
            clear hmid hfld hit HV
            go_wp2_with fail
            refine (mayBe_any ⟨4, st, sn⟩ hS4 (by omega) hl).mono ?_
            rintro e w5 ⟨rfl, h5⟩
            have hbw5 := hbw4.trans (h5.mono hbw4.size)
            obtain ⟨p0, p1, p2, p3, p4⟩ := fd_cells' (row_below h5 hr4 (by omega))
            clear q0 q1 q2 q3 q4
            cases hm : mayBe l ⟨4, st, sn⟩
            · have hz := hm1 hm
              injection hz with e1 e2
              subst e1 e2
              clear hm1 hm2 hno
              go_wp2
              go_ret2
              exact ⟨rfl, hbw5⟩
            · have hz := hm2 hm
              clear hm1 hm2
              go_wp2
              go_roundw
              case rel =>
                refine ⟨j + 1, by omega, by go_num, fun i hi => ?_, hbw5⟩
                rcases Nat.lt_or_ge i j with h | h
                · exact hno i h
                · obtain rfl : i = j := by omega
                  exact hz
              case measure => simp [intOf]; omega
          · rw [decide_eq_false hsn]
            rw [if_pos (.inr ⟨trivial, by omega⟩)] at hfld
            have hz := HV.out.symm.trans ((hit (by rw [hfld]; simp)).trans hfld)
            injection hz with e1 e2
            subst e1 e2
            clear HV hit hfld hno hmid
            go_wp2
            go_ret2
            exact ⟨rfl, hbw4⟩
        · have hb4' : (ba == 4) = false := by simpa using hb4
          obtain ⟨hm1, hm2⟩ := hmid (.bool true) w3 (Below.refl _ _) (by omega)
          clear hmid hfld hit HV hb4
          go_wp2_with fail
          refine (mayBe_any ⟨ba, st, sn⟩ hS3 (by omega) hl).mono ?_
          rintro e w5 ⟨rfl, h5⟩
          have hbw5 := hbw.trans (h5.mono hbw.size)
          obtain ⟨p0, p1, p2, p3, p4⟩ := fd_cells' (row_below h5 hr3 (by omega))
          clear k0 k1 k2 k3 k4
          cases hm : mayBe l ⟨ba, st, sn⟩
          · have hz := hm1 hm
            injection hz with e1 e2
            subst e1 e2
            clear hm1 hm2 hno
            go_wp2
            go_ret2
            exact ⟨rfl, hbw5⟩
          · have hz := hm2 hm
            clear hm1 hm2
            go_wp2
            go_roundw
            case rel =>
              refine ⟨j + 1, by omega, by go_num, fun i hi => ?_, hbw5⟩
              rcases Nat.lt_or_ge i j with h | h
              · exact hno i h
              · obtain rfl : i = j := by omega
                exact hz
            case measure => simp [intOf]; omega
    · obtain rfl : j = fs.length := by omega
      have hvv : chkF l fs = (0, 0) := fb_none _ _ hno (fun i _ => fldB_z l fs i)
      have hz : (V1, V2) = ((0, 0) : Int × Int) := HV.out.symm.trans hvv
      injection hz with e1 e2
      subst e1 e2
      clear HV hvv
      go_wp2
      go_ret2
      exact ⟨rfl, hbe⟩
end Go.Proofs.Ytlghhailckoonab
