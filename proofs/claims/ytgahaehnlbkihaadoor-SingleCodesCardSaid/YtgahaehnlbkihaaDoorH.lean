/- The contracts of Scalar, table, Table and Byte. -/
import Derived.Test.YtgahaehnlbkihaaDoorG
import Derived.Maps.Own
import Derived.Maps.OwnSet
import Derived.Deep.WholeRow
import Derived.Deep.OwnRows
namespace Go.Proofs.YtgahaehnlbkihaaDoor
open Go.RowKit Go.Maps
set_option linter.unusedVariables false
set_option linter.unusedSimpArgs false
/-- The function f, bound to rv, tells a byte's scalar as g does. -/
def Tl (f : FuncId) (rv : Value) (g : Nat → Int) : Prop := ∀ b : Nat, b < 256 → ∀ w, Calls Tryd.prog f #[rv, .int .u8 (b : Int)] w fun e w' => RetI (g b) w e w'
theorem tl_3 : Tl 21 (rval 3) (scE 3) := fun b hb w => scalar3 b hb w
theorem tl_4 : Tl 22 (rval 4) (scE 4) := fun b hb w => scalar4 b hb w
theorem tl_5 : Tl 22 (rval 5) (scE 5) := fun b hb w => scalar5 b hb w
/-- A row of numbers, the first k of them told. -/
def tabF (g : Nat → Int) (k : Nat) (i : Nat) : Value := if i < k then .int .i64 (g i) else .int .i64 0
theorem tabF_in {g : Nat → Int} {k i : Nat} (h : i < k) : tabF g k i = .int .i64 (g i) := by unfold tabF; rw [if_pos h]
theorem tabF_out {g : Nat → Int} {k i : Nat} (h : ¬ i < k) : tabF g k i = .int .i64 0 := by unfold tabF; rw [if_neg h]
theorem tabF_set {w : World} {b n : Nat} {g : Nat → Int} {k : Nat} (h : w.rowIs b 3 n (tabF g k)) : (w.setCell ⟨b, k, none⟩ (.int .i64 (g k))).rowIs b 3 n (tabF g (k + 1)) := by
  refine (h.set k (.int .i64 (g k))).congr fun i hi => ?_
  by_cases e : i = k
  · subst e; rw [if_pos rfl, tabF_in (by omega)]
  · rw [if_neg e]
    by_cases e2 : i < k
    · rw [tabF_in e2, tabF_in (by omega)]
    · rw [tabF_out e2, tabF_out (by omega)]
theorem row_below {w w' : World} {b n : Nat} {t : TypeId} {f : Nat → Value} (h : w.rowIs b t n f) (hb : Below w.heap.size w w') : w'.rowIs b t n f := h.of_block (hb.block _ h.lt)
theorem ints_of_row {w : World} {b : Nat} {g : Nat → Int} {n : Nat} (h : w.rowIs b 3 n (tabF g n)) (c : Nat) : Ints w (.slice (some ⟨b, 0, none⟩) n c) ((List.range n).map g) := by
  refine .inr ⟨b, 0, c, by simp, h.lt, fun i hi => ?_⟩
  have hi' : i < n := by simpa using hi
  have := h.cell hi'
  rw [tabF_in hi'] at this
  simpa using this
set_option maxRecDepth 100000 in
theorem table_BLK (rv : Value) (g : Nat → Int) (hf : Tl 21 rv g) (w : World) : Calls Tryd.prog 27 #[.func (.func 21) #[rv] #[]] w fun e w' =>
    ∃ B, e = .returned (.slice (some ⟨B, 0, none⟩) 256 256) ∧ w'.rowIs B 3 256 (tabF g 256) ∧ w.heap.size ≤ B ∧ Below w.heap.size w w' := by
  have HF := Lib.hid hf
  clear hf
  obtain ⟨i0, hi, hz0, hz1, hz2⟩ := info_parts info3
  have hmk : ∀ w, (Instr.makeSlice 30 (.int .i64 256) (.int .i64 256)).run Tryd.prog w = .ok (.slice (some ⟨w.heap.size, 0, none⟩) 256 256) (w.alloc (.cells (madeCells #[.int .i64 0] 256) 3)) := run_make_row (P := Tryd.prog) 30 3 i0 _ Tryd.underlying30 hi hz0 hz1 rfl .i64 .i64 256 (by omega) (by omega)
  have HR0 : Hid ((w.alloc (.cells (madeCells #[.int .i64 0] 256) 3)).rowIs w.heap.size 3 256 (tabF g 0)) := Lib.hid ((World.rowIs_made w (.int .i64 0) 256 3).congr fun i _ => (tabF_out (by omega)).symm)
  have HB0 : Hid (Below w.heap.size w (w.alloc (.cells (madeCells #[.int .i64 0] 256) 3))) := Lib.hid ((Below.refl _ _).alloc (Nat.le_refl _) _)
  go_enter Tryd.func27, Tryd.ntmps27
  go_wp2_with fail
  go_loopg [6] 257 (fun gh q wr => ∃ (k : Nat), k + gh = 257 ∧ q = .int .i64 k ∧ k ≤ 256 ∧ Hid (wr.rowIs w.heap.size 3 256 (tabF g k)) ∧ Hid (Below w.heap.size w wr))
  case atStart => exact ⟨0, by omega, rfl, by omega, HR0, HB0⟩
  case round =>
    obtain ⟨k, hkg, rfl, hk7, HR, HB⟩ := hrel
    by_cases hk : k < 256
    · have hw8 : IntKind.u8.wrap (k : Int) = k := by rw [IntKind.wrap_u8]; omega
      have hc : ∀ w1, Below wr.heap.size wr w1 → w1.cell? ⟨w.heap.size, k, none⟩ = some (.int .i64 0) ∧ w1.frozen? ⟨w.heap.size, k, none⟩ = false := fun w1 h => ⟨by
        have := (row_below HR.out h).cell hk
        rwa [tabF_out (by omega)] at this, (row_below HR.out h).frozen k⟩
      have HC := Lib.hid hc
      clear hc
      go_wp2_with (go_at_call 21; refine (HF.out k hk _).mono ?_; rintro e w1 ⟨rfl, hb1⟩; obtain ⟨hc1, hf1⟩ := HC.out _ hb1; have HB1 := Lib.hid hb1; clear hb1)
      have HR1 : Hid ((w1.setCell ⟨w.heap.size, k, none⟩ (.int .i64 (g k))).rowIs w.heap.size 3 256 (tabF g (k + 1))) := Lib.hid (tabF_set (row_below HR.out HB1.out))
      have HB2 : Hid (Below w.heap.size w (w1.setCell ⟨w.heap.size, k, none⟩ (.int .i64 (g k)))) := Lib.hid ((below_call HB.out HB1.out).setCell (Nat.le_refl _) _)
      go_roundg (gk - 1)
      case measure => omega
      case rel => exact ⟨k + 1, by omega, by go_num, by omega, HR1, HB2⟩
    · have hk' : k = 256 := by omega
      subst hk'
      go_wp2_with fail
      go_ret
      exact ⟨_, rfl, HR.out, Nat.le_refl _, HB.out⟩
set_option maxRecDepth 100000 in
theorem table_RUNS (rv : Value) (g : Nat → Int) (hf : Tl 22 rv g) (w : World) : Calls Tryd.prog 27 #[.func (.func 22) #[rv] #[]] w fun e w' =>
    ∃ B, e = .returned (.slice (some ⟨B, 0, none⟩) 256 256) ∧ w'.rowIs B 3 256 (tabF g 256) ∧ w.heap.size ≤ B ∧ Below w.heap.size w w' := by
  have HF := Lib.hid hf
  clear hf
  obtain ⟨i0, hi, hz0, hz1, hz2⟩ := info_parts info3
  have hmk : ∀ w, (Instr.makeSlice 30 (.int .i64 256) (.int .i64 256)).run Tryd.prog w = .ok (.slice (some ⟨w.heap.size, 0, none⟩) 256 256) (w.alloc (.cells (madeCells #[.int .i64 0] 256) 3)) := run_make_row (P := Tryd.prog) 30 3 i0 _ Tryd.underlying30 hi hz0 hz1 rfl .i64 .i64 256 (by omega) (by omega)
  have HR0 : Hid ((w.alloc (.cells (madeCells #[.int .i64 0] 256) 3)).rowIs w.heap.size 3 256 (tabF g 0)) := Lib.hid ((World.rowIs_made w (.int .i64 0) 256 3).congr fun i _ => (tabF_out (by omega)).symm)
  have HB0 : Hid (Below w.heap.size w (w.alloc (.cells (madeCells #[.int .i64 0] 256) 3))) := Lib.hid ((Below.refl _ _).alloc (Nat.le_refl _) _)
  go_enter Tryd.func27, Tryd.ntmps27
  go_wp2_with fail
  go_loopg [6] 257 (fun gh q wr => ∃ (k : Nat), k + gh = 257 ∧ q = .int .i64 k ∧ k ≤ 256 ∧ Hid (wr.rowIs w.heap.size 3 256 (tabF g k)) ∧ Hid (Below w.heap.size w wr))
  case atStart => exact ⟨0, by omega, rfl, by omega, HR0, HB0⟩
  case round =>
    obtain ⟨k, hkg, rfl, hk7, HR, HB⟩ := hrel
    by_cases hk : k < 256
    · have hw8 : IntKind.u8.wrap (k : Int) = k := by rw [IntKind.wrap_u8]; omega
      have hc : ∀ w1, Below wr.heap.size wr w1 → w1.cell? ⟨w.heap.size, k, none⟩ = some (.int .i64 0) ∧ w1.frozen? ⟨w.heap.size, k, none⟩ = false := fun w1 h => ⟨by
        have := (row_below HR.out h).cell hk
        rwa [tabF_out (by omega)] at this, (row_below HR.out h).frozen k⟩
      have HC := Lib.hid hc
      clear hc
      go_wp2_with (go_at_call 22; refine (HF.out k hk _).mono ?_; rintro e w1 ⟨rfl, hb1⟩; obtain ⟨hc1, hf1⟩ := HC.out _ hb1; have HB1 := Lib.hid hb1; clear hb1)
      have HR1 : Hid ((w1.setCell ⟨w.heap.size, k, none⟩ (.int .i64 (g k))).rowIs w.heap.size 3 256 (tabF g (k + 1))) := Lib.hid (tabF_set (row_below HR.out HB1.out))
      have HB2 : Hid (Below w.heap.size w (w1.setCell ⟨w.heap.size, k, none⟩ (.int .i64 (g k)))) := Lib.hid ((below_call HB.out HB1.out).setCell (Nat.le_refl _) _)
      go_roundg (gk - 1)
      case measure => omega
      case rel => exact ⟨k + 1, by omega, by go_num, by omega, HR1, HB2⟩
    · have hk' : k = 256 := by omega
      subst hk'
      go_wp2_with fail
      go_ret
      exact ⟨_, rfl, HR.out, Nat.le_refl _, HB.out⟩
theorem fscalar_3 (x : Int) (b : Nat) (hx : x = b) (hb : b < 256) (w : World) : Calls Tryd.prog 11 #[.int .i8 3, .int .u8 x] w fun e w' => RetS 3 b w e w' := by
  subst hx
  have HS := Lib.hid (scalars_any w)
  have HT := Lib.hid (tl_3 b hb)
  have HI : Hid (isE 3 = true) := Lib.hid rfl
  have hfv := fvr_3
  obtain ⟨rv, hrv⟩ : ∃ v, rval 3 = v := ⟨_, rfl⟩
  rw [hrv] at hfv HT
  have HV := Lib.hid hfv
  clear hrv hfv
  go_enter Tryd.func11, Tryd.ntmps11
  go_wp2_with (first
    | (go_at_call 13; refine HS.out.mono ?_; rintro e w1 ⟨g, rfl, hl, hb1⟩; replace hl := hl 3 (by decide); rw [HV.out, HI.out] at hl; have HB1 := Lib.hid hb1; clear hb1)
    | (go_at_call 21; refine (HT.out _).mono ?_; rintro e w2 ⟨rfl, hb2⟩; have HB2 := Lib.hid hb2; clear hb2))
  go_ret2
  exact retS rfl HI.out.symm (below_call HB1.out HB2.out)
theorem fscalar_4 (x : Int) (b : Nat) (hx : x = b) (hb : b < 256) (w : World) : Calls Tryd.prog 11 #[.int .i8 4, .int .u8 x] w fun e w' => RetS 4 b w e w' := by
  subst hx
  have HS := Lib.hid (scalars_any w)
  have HT := Lib.hid (tl_4 b hb)
  have HI : Hid (isE 4 = true) := Lib.hid rfl
  have hfv := fvr_4
  obtain ⟨rv, hrv⟩ : ∃ v, rval 4 = v := ⟨_, rfl⟩
  rw [hrv] at hfv HT
  have HV := Lib.hid hfv
  clear hrv hfv
  go_enter Tryd.func11, Tryd.ntmps11
  go_wp2_with (first
    | (go_at_call 13; refine HS.out.mono ?_; rintro e w1 ⟨g, rfl, hl, hb1⟩; replace hl := hl 4 (by decide); rw [HV.out, HI.out] at hl; have HB1 := Lib.hid hb1; clear hb1)
    | (go_at_call 22; refine (HT.out _).mono ?_; rintro e w2 ⟨rfl, hb2⟩; have HB2 := Lib.hid hb2; clear hb2))
  go_ret2
  exact retS rfl HI.out.symm (below_call HB1.out HB2.out)
theorem fscalar_5 (x : Int) (b : Nat) (hx : x = b) (hb : b < 256) (w : World) : Calls Tryd.prog 11 #[.int .i8 5, .int .u8 x] w fun e w' => RetS 5 b w e w' := by
  subst hx
  have HS := Lib.hid (scalars_any w)
  have HT := Lib.hid (tl_5 b hb)
  have HI : Hid (isE 5 = true) := Lib.hid rfl
  have hfv := fvr_5
  obtain ⟨rv, hrv⟩ : ∃ v, rval 5 = v := ⟨_, rfl⟩
  rw [hrv] at hfv HT
  have HV := Lib.hid hfv
  clear hrv hfv
  go_enter Tryd.func11, Tryd.ntmps11
  go_wp2_with (first
    | (go_at_call 13; refine HS.out.mono ?_; rintro e w1 ⟨g, rfl, hl, hb1⟩; replace hl := hl 5 (by decide); rw [HV.out, HI.out] at hl; have HB1 := Lib.hid hb1; clear hb1)
    | (go_at_call 22; refine (HT.out _).mono ?_; rintro e w2 ⟨rfl, hb2⟩; have HB2 := Lib.hid hb2; clear hb2))
  go_ret2
  exact retS rfl HI.out.symm (below_call HB1.out HB2.out)
theorem fscalar_no (e : Int) (hwf : (Lit.int .i8 e).wf = true) (h : isE e = false) (x : Int) (b : Nat) (w : World) : Calls Tryd.prog 11 #[.int .i8 e, .int .u8 x] w fun r w' => RetS e b w r w' := by
  have HS := Lib.hid (scalars_any w)
  have HV := Lib.hid (fval_no h)
  have HI := Lib.hid h
  have HW := Lib.hid hwf
  obtain ⟨h3, h4, h5⟩ := isE_no.1 h
  have HR : Hid (0 = scE e b) := Lib.hid (scE_no h3 h4 h5 b).symm
  clear h hwf h3 h4 h5
  go_enter Tryd.func11, Tryd.ntmps11
  go_wp2_with (go_at_call 13; refine HS.out.mono ?_; rintro e w1 ⟨g, rfl, hl, hb1⟩; replace hl := hl _ HW.out; rw [HV.out, HI.out] at hl; have HB1 := Lib.hid hb1; clear hb1)
  go_ret2
  exact retS HR.out HI.out.symm HB1.out
theorem fscalar_any (e : Int) (hwf : (Lit.int .i8 e).wf = true) (x : Int) (b : Nat) (hx : x = b) (hb : b < 256) (w : World) : Calls Tryd.prog 11 #[.int .i8 e, .int .u8 x] w fun r w' => RetS e b w r w' := by
  cases h : isE e
  · exact fscalar_no e hwf h x b w
  · rcases isE_iff.1 h with rfl | rfl | rfl
    · exact fscalar_3 x b hx hb w
    · exact fscalar_4 x b hx hb w
    · exact fscalar_5 x b hx hb w
/-- What Byte tells. -/
def RetY (e r : Int) (w : World) (x : Ending) (w' : World) : Prop := x = .returned (.tuple #[.int .u8 (((bf e r).getD 0 : Nat) : Int), .bool (bf e r).isSome]) ∧ Below w.heap.size w w'
theorem retY_none {e r : Int} {w w' : World} (h : bf e r = none) (hb : Below w.heap.size w w') : RetY e r w (.returned (.tuple #[.int .u8 0, .bool false])) w' := ⟨by rw [h]; rfl, hb⟩
theorem retY_some {e r : Int} {b : Nat} {w w' : World} (h : bf e r = some b) (hb : Below w.heap.size w w') : RetY e r w (.returned (.tuple #[.int .u8 (b : Int), .bool true])) w' := ⟨by rw [h]; rfl, hb⟩
theorem bf_is {e r : Int} (h : isE e = true) : bf e r = look (scE e) 256 r := by unfold bf; rw [if_pos h]
theorem bf_isnt {e r : Int} (h : isE e = false) : bf e r = none := by unfold bf; rw [h]; rfl
theorem look_skip {f : Nat → Int} {k : Nat} {r : Int} (h : look f k r = none) (h2 : f k ≠ r) : look f (k + 1) r = none := by
  rw [look_succ, h]; simp [h2]
set_option maxRecDepth 100000 in
theorem fbyte_3 (r : Int) (w : World) : Calls Tryd.prog 12 #[.int .i8 3, .int .i64 r] w fun e w' => RetY 3 r w e w' := by
  have HS := Lib.hid (scalars_any w)
  have HT := Lib.hid tl_3
  have HI : Hid (isE 3 = true) := Lib.hid rfl
  have hfv := fvr_3
  obtain ⟨rv, hrv⟩ : ∃ v, rval 3 = v := ⟨_, rfl⟩
  rw [hrv] at hfv HT
  have HV := Lib.hid hfv
  clear hrv hfv
  go_enter Tryd.func12, Tryd.ntmps12
  go_wp2_with (go_at_call 13; refine HS.out.mono ?_; rintro e w1 ⟨g, rfl, hl, hb1⟩; replace hl := hl 3 (by decide); rw [HV.out, HI.out] at hl; have HB1 := Lib.hid hb1; clear hb1)
  clear hl
  go_loopg [17] 257 (fun gh q wr => ∃ (k : Nat), k + gh = 257 ∧ q = .int .i64 k ∧ k ≤ 256 ∧ Hid (look (scE 3) k r = none) ∧ Hid (Below w.heap.size w wr))
  case atStart => exact ⟨0, by omega, rfl, by omega, Lib.hid rfl, HB1⟩
  case round =>
    obtain ⟨k, hkg, rfl, hk7, HL, HB⟩ := hrel
    by_cases hk : k < 256
    · have hw8 : IntKind.u8.wrap (k : Int) = k := by rw [IntKind.wrap_u8]; omega
      have HC := Lib.hid (HT.out k hk)
      obtain ⟨c, hc⟩ : ∃ c, scE 3 k = c := ⟨_, rfl⟩
      rw [hc] at HC
      by_cases hcr : c = r
      · have HR : Hid (bf 3 r = some k) := Lib.hid (by rw [bf_is HI.out]; exact look_first hk (look_none.1 HL.out) (hc.trans hcr))
        subst hcr
        clear hc
        go_wp2_with (go_at_call 21; refine (HC.out _).mono ?_; rintro e w2 ⟨rfl, hb2⟩; have HB2 := Lib.hid hb2; clear hb2)
        go_ret2
        exact retY_some HR.out (below_call HB.out HB2.out)
      · have HL1 : Hid (look (scE 3) (k + 1) r = none) := Lib.hid (look_skip HL.out (by rw [hc]; exact hcr))
        have hcb : (c == r) = false := by simp [hcr]
        clear hc hcr
        go_wp2_with (go_at_call 21; refine (HC.out _).mono ?_; rintro e w2 ⟨rfl, hb2⟩; have HB2 := Lib.hid hb2; clear hb2)
        have HB3 := Lib.hid (below_call HB.out HB2.out)
        go_roundg (gk - 1)
        case measure => omega
        case rel => exact ⟨k + 1, by omega, by go_num, by omega, HL1, HB3⟩
    · have hk' : k = 256 := by omega
      subst hk'
      have HR : Hid (bf 3 r = none) := Lib.hid (by rw [bf_is HI.out]; exact HL.out)
      go_wp2_with fail
      go_ret2
      exact retY_none HR.out HB.out
set_option maxRecDepth 100000 in
theorem fbyte_4 (r : Int) (w : World) : Calls Tryd.prog 12 #[.int .i8 4, .int .i64 r] w fun e w' => RetY 4 r w e w' := by
  have HS := Lib.hid (scalars_any w)
  have HT := Lib.hid tl_4
  have HI : Hid (isE 4 = true) := Lib.hid rfl
  have hfv := fvr_4
  obtain ⟨rv, hrv⟩ : ∃ v, rval 4 = v := ⟨_, rfl⟩
  rw [hrv] at hfv HT
  have HV := Lib.hid hfv
  clear hrv hfv
  go_enter Tryd.func12, Tryd.ntmps12
  go_wp2_with (go_at_call 13; refine HS.out.mono ?_; rintro e w1 ⟨g, rfl, hl, hb1⟩; replace hl := hl 4 (by decide); rw [HV.out, HI.out] at hl; have HB1 := Lib.hid hb1; clear hb1)
  clear hl
  go_loopg [17] 257 (fun gh q wr => ∃ (k : Nat), k + gh = 257 ∧ q = .int .i64 k ∧ k ≤ 256 ∧ Hid (look (scE 4) k r = none) ∧ Hid (Below w.heap.size w wr))
  case atStart => exact ⟨0, by omega, rfl, by omega, Lib.hid rfl, HB1⟩
  case round =>
    obtain ⟨k, hkg, rfl, hk7, HL, HB⟩ := hrel
    by_cases hk : k < 256
    · have hw8 : IntKind.u8.wrap (k : Int) = k := by rw [IntKind.wrap_u8]; omega
      have HC := Lib.hid (HT.out k hk)
      obtain ⟨c, hc⟩ : ∃ c, scE 4 k = c := ⟨_, rfl⟩
      rw [hc] at HC
      by_cases hcr : c = r
      · have HR : Hid (bf 4 r = some k) := Lib.hid (by rw [bf_is HI.out]; exact look_first hk (look_none.1 HL.out) (hc.trans hcr))
        subst hcr
        clear hc
        go_wp2_with (go_at_call 22; refine (HC.out _).mono ?_; rintro e w2 ⟨rfl, hb2⟩; have HB2 := Lib.hid hb2; clear hb2)
        go_ret2
        exact retY_some HR.out (below_call HB.out HB2.out)
      · have HL1 : Hid (look (scE 4) (k + 1) r = none) := Lib.hid (look_skip HL.out (by rw [hc]; exact hcr))
        have hcb : (c == r) = false := by simp [hcr]
        clear hc hcr
        go_wp2_with (go_at_call 22; refine (HC.out _).mono ?_; rintro e w2 ⟨rfl, hb2⟩; have HB2 := Lib.hid hb2; clear hb2)
        have HB3 := Lib.hid (below_call HB.out HB2.out)
        go_roundg (gk - 1)
        case measure => omega
        case rel => exact ⟨k + 1, by omega, by go_num, by omega, HL1, HB3⟩
    · have hk' : k = 256 := by omega
      subst hk'
      have HR : Hid (bf 4 r = none) := Lib.hid (by rw [bf_is HI.out]; exact HL.out)
      go_wp2_with fail
      go_ret2
      exact retY_none HR.out HB.out
set_option maxRecDepth 100000 in
theorem fbyte_5 (r : Int) (w : World) : Calls Tryd.prog 12 #[.int .i8 5, .int .i64 r] w fun e w' => RetY 5 r w e w' := by
  have HS := Lib.hid (scalars_any w)
  have HT := Lib.hid tl_5
  have HI : Hid (isE 5 = true) := Lib.hid rfl
  have hfv := fvr_5
  obtain ⟨rv, hrv⟩ : ∃ v, rval 5 = v := ⟨_, rfl⟩
  rw [hrv] at hfv HT
  have HV := Lib.hid hfv
  clear hrv hfv
  go_enter Tryd.func12, Tryd.ntmps12
  go_wp2_with (go_at_call 13; refine HS.out.mono ?_; rintro e w1 ⟨g, rfl, hl, hb1⟩; replace hl := hl 5 (by decide); rw [HV.out, HI.out] at hl; have HB1 := Lib.hid hb1; clear hb1)
  clear hl
  go_loopg [17] 257 (fun gh q wr => ∃ (k : Nat), k + gh = 257 ∧ q = .int .i64 k ∧ k ≤ 256 ∧ Hid (look (scE 5) k r = none) ∧ Hid (Below w.heap.size w wr))
  case atStart => exact ⟨0, by omega, rfl, by omega, Lib.hid rfl, HB1⟩
  case round =>
    obtain ⟨k, hkg, rfl, hk7, HL, HB⟩ := hrel
    by_cases hk : k < 256
    · have hw8 : IntKind.u8.wrap (k : Int) = k := by rw [IntKind.wrap_u8]; omega
      have HC := Lib.hid (HT.out k hk)
      obtain ⟨c, hc⟩ : ∃ c, scE 5 k = c := ⟨_, rfl⟩
      rw [hc] at HC
      by_cases hcr : c = r
      · have HR : Hid (bf 5 r = some k) := Lib.hid (by rw [bf_is HI.out]; exact look_first hk (look_none.1 HL.out) (hc.trans hcr))
        subst hcr
        clear hc
        go_wp2_with (go_at_call 22; refine (HC.out _).mono ?_; rintro e w2 ⟨rfl, hb2⟩; have HB2 := Lib.hid hb2; clear hb2)
        go_ret2
        exact retY_some HR.out (below_call HB.out HB2.out)
      · have HL1 : Hid (look (scE 5) (k + 1) r = none) := Lib.hid (look_skip HL.out (by rw [hc]; exact hcr))
        have hcb : (c == r) = false := by simp [hcr]
        clear hc hcr
        go_wp2_with (go_at_call 22; refine (HC.out _).mono ?_; rintro e w2 ⟨rfl, hb2⟩; have HB2 := Lib.hid hb2; clear hb2)
        have HB3 := Lib.hid (below_call HB.out HB2.out)
        go_roundg (gk - 1)
        case measure => omega
        case rel => exact ⟨k + 1, by omega, by go_num, by omega, HL1, HB3⟩
    · have hk' : k = 256 := by omega
      subst hk'
      have HR : Hid (bf 5 r = none) := Lib.hid (by rw [bf_is HI.out]; exact HL.out)
      go_wp2_with fail
      go_ret2
      exact retY_none HR.out HB.out
theorem fbyte_no (e : Int) (hwf : (Lit.int .i8 e).wf = true) (h : isE e = false) (r : Int) (w : World) : Calls Tryd.prog 12 #[.int .i8 e, .int .i64 r] w fun x w' => RetY e r w x w' := by
  have HS := Lib.hid (scalars_any w)
  have HV := Lib.hid (fval_no h)
  have HI := Lib.hid h
  have HW := Lib.hid hwf
  have HR := Lib.hid (bf_isnt (r := r) h)
  clear h hwf
  go_enter Tryd.func12, Tryd.ntmps12
  go_wp2_with (go_at_call 13; refine HS.out.mono ?_; rintro e w1 ⟨g, rfl, hl, hb1⟩; replace hl := hl _ HW.out; rw [HV.out, HI.out] at hl; have HB1 := Lib.hid hb1; clear hb1)
  go_ret2
  exact retY_none HR.out HB1.out
theorem fbyte_any (e : Int) (hwf : (Lit.int .i8 e).wf = true) (r : Int) (w : World) : Calls Tryd.prog 12 #[.int .i8 e, .int .i64 r] w fun x w' => RetY e r w x w' := by
  cases h : isE e
  · exact fbyte_no e hwf h r w
  · rcases isE_iff.1 h with rfl | rfl | rfl
    · exact fbyte_3 r w
    · exact fbyte_4 r w
    · exact fbyte_5 r w
end Go.Proofs.YtgahaehnlbkihaaDoor
