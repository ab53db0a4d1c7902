/- Joined: SG, SH, SI, SO, WN, WK, WO, WRE, SL, BV3. -/
import Derived.BigQuiet
import Derived.Deep.AppendLies
import Derived.Deep.DeepCutAuto
import Derived.Deep.LoopGhost
import Derived.Deep.OwnRows
import Derived.Deep.QuietTactic
import Derived.Deep.RegionHeld3
import Derived.Deep.WholeRow
import Derived.Laws.AppendOwn
import Derived.Laws.BytesArg
import Derived.Laws.DeepStrings4
import Derived.Laws.IdiomStrings
import Derived.Lib.AppendStr
import Derived.Lib.Hide
import Derived.LoopIn
import Derived.LoopN
import Derived.LoopNIn
import Derived.Maps.AppendAt
import Derived.Maps.Own
import Derived.Maps.OwnSet
import Derived.OpenShut
import Derived.Outline
import Derived.OwnWalkIn
import Derived.ProofKit
import Derived.RangeFuncBound
import Derived.RangeFuncBox
import Derived.RangeFuncCalls
import Derived.RangeFuncLeaves
import Derived.RangeFuncNested
import Derived.Shelf.Abstract
import Derived.Shelf.RegionOpen
import Derived.StillTailTactics
import Derived.TacticsInMore
import Derived.Test.YtppabkllconkjaaGreatDoorRows
import Derived.WalkKit
import Derived.WalkMore
import Derived.Test.YtppabkllconkjaaGreatDoorK01
import Derived.Test.YtppabkllconkjaaGreatDoorK03
import Derived.Test.YtppabkllconkjaaGreatDoorK04
/- The contracts of Scalar, table, Table and Byte. -/
namespace Go.Proofs.YtppabkllconkjaaGreatDoor.U
open Go.RowKit Go.Maps
set_option linter.unusedVariables false
set_option linter.unusedSimpArgs false
set_option maxRecDepth 100000
theorem put3 : ((((DataW.map []).put (.int .i8 3) (.held (fval 3))).put (.int .i8 4) (.held (fval 4))).put (.int .i8 5) (.held (fval 5)) : DataW Value) = .map [(.int .i8 3, .held (fval 3)), (.int .i8 4, .held (fval 4)), (.int .i8 5, .held (fval 5))] := rfl
theorem put3_at (x : Int) : (DataW.map [(.int .i8 3, .held (fval 3)), (.int .i8 4, .held (fval 4)), (.int .i8 5, .held (fval 5))] : DataW Value).atKey (.int .i8 x) (.held .nilFunc) = .held (fval x) := by
  by_cases h3 : x = 3
  · subst h3; rfl
  by_cases h4 : x = 4
  · subst h4; rfl
  by_cases h5 : x = 5
  · subst h5; rfl
  have e : fval x = .nilFunc := by unfold fval; rw [if_neg h3, if_neg h4, if_neg h5]
  rw [e]
  have g3 : ¬ 3 = x := fun h => h3 h.symm
  have g4 : ¬ 4 = x := fun h => h4 h.symm
  have g5 : ¬ 5 = x := fun h => h5 h.symm
  simp [DataW.atKey, Lit.sameKey, g3, g4, g5]
theorem put3_has (x : Int) : Maps.has (DataW.map [(.int .i8 3, .held (fval 3)), (.int .i8 4, .held (fval 4)), (.int .i8 5, .held (fval 5))] : DataW Value) (.int .i8 x) = isE x := by
  rw [Bool.eq_iff_iff]
  simp [Maps.has, Lit.sameKey, isE]
  omega
theorem zeroFn (w : World) : (zeroValue 154).run Tryz.prog w = .ok .nilFunc w := by kernel_rfl
/-- What scalars() hands back: it is looked up as the encodings are told. -/
def ScalarsS (w : World) (e : Ending) (w' : World) : Prop :=
  ∃ g, e = .returned (.map (some g)) ∧ (∀ x : Int, (Lit.int .i8 x).wf = true → (Instr.lookup 156 (.map (some g)) (.int .i8 x) true).run Tryz.prog w' = .ok (.tuple #[fval x, .bool (isE x)]) w') ∧ Below w.heap.size w w'
theorem scalars_any (w : World) : Calls Tryz.prog 133 #[] w fun e w' => ScalarsS w e w' := by
  refine (scalars_own w).mono ?_
  rintro e w' ⟨g, rfl, hg, hown, hb⟩
  refine ⟨g, rfl, fun x hx => ?_, hb⟩
  obtain ⟨v, ps, hrun, hv⟩ := hown.look_ok lawI8 Tryz.underlying156 (zeroFn w') (zd := .held .nilFunc) (zp := []) rfl (keyOf_int_mk Tryz.underlying23 hx)
  rw [put3, put3_at] at hv
  rw [put3, put3_has] at hrun
  unfold fnR at hv
  simp at hv
  obtain ⟨rfl, _⟩ := hv
  exact hrun
theorem fval_no {x : Int} (h : isE x = false) : fval x = .nilFunc := by
  obtain ⟨h3, h4, h5⟩ := isE_no.1 h
  unfold fval; rw [if_neg h3, if_neg h4, if_neg h5]
/-- The function and its receiver that tell an encoding's scalars. -/
def rval (e : Int) : Value := if e = 3 then blkV else if e = 4 then runV r5 else runV r15
theorem scalar3 (b : Nat) (hb : b < 256) (w : World) : Calls Tryz.prog 163 #[rval 3, .int .u8 (b : Int)] w fun e w' => RetI (scE 3 b) w e w' := by
  rw [scE_3]; exact blk_scalar b hb w
theorem scalar4 (b : Nat) (hb : b < 256) (w : World) : Calls Tryz.prog 164 #[rval 4, .int .u8 (b : Int)] w fun e w' => RetI (scE 4 b) w e w' := by
  rw [scE_4]; exact runs_5 b hb w
theorem scalar5 (b : Nat) (hb : b < 256) (w : World) : Calls Tryz.prog 164 #[rval 5, .int .u8 (b : Int)] w fun e w' => RetI (scE 5 b) w e w' := by
  rw [scE_5]; exact runs_15 b hb w
theorem fvr_3 : fval 3 = .func (.func 163) #[rval 3] #[] := rfl
theorem fvr_4 : fval 4 = .func (.func 164) #[rval 4] #[] := rfl
theorem fvr_5 : fval 5 = .func (.func 164) #[rval 5] #[] := rfl
end Go.Proofs.YtppabkllconkjaaGreatDoor.U
/- The contracts of Scalar, table, Table and Byte. -/
namespace Go.Proofs.YtppabkllconkjaaGreatDoor.U
open Go.RowKit Go.Maps
set_option linter.unusedVariables false
set_option linter.unusedSimpArgs false
set_option maxRecDepth 100000
/-- The function f, bound to rv, tells a byte's scalar as g does. -/
def Tl (f : FuncId) (rv : Value) (g : Nat → Int) : Prop := ∀ b : Nat, b < 256 → ∀ w, Calls Tryz.prog f #[rv, .int .u8 (b : Int)] w fun e w' => RetI (g b) w e w'
theorem tl_3 : Tl 163 (rval 3) (scE 3) := fun b hb w => scalar3 b hb w
theorem tl_4 : Tl 164 (rval 4) (scE 4) := fun b hb w => scalar4 b hb w
theorem tl_5 : Tl 164 (rval 5) (scE 5) := fun b hb w => scalar5 b hb w
/-- A row of numbers, the first k of them told. -/
def tabF (g : Nat → Int) (k : Nat) (i : Nat) : Value := if i < k then .int .i64 (g i) else .int .i64 0
theorem tabF_in {g : Nat → Int} {k i : Nat} (h : i < k) : tabF g k i = .int .i64 (g i) := by unfold tabF; rw [if_pos h]
theorem tabF_out {g : Nat → Int} {k i : Nat} (h : ¬ i < k) : tabF g k i = .int .i64 0 := by unfold tabF; rw [if_neg h]
theorem tabF_set {w : World} {b n : Nat} {g : Nat → Int} {k : Nat} (h : w.rowIs b 3 n (tabF g k)) : (w.setCell ⟨b, k, none⟩ (.int .i64 (g k))).rowIs b 3 n (tabF g (k + 1)) := by
  refine (h.set k (.int .i64 (g k))).congr fun i hi => ?_
  by_cases e : i = k
  · subst e; rw [if_pos rfl, tabF_in (by omega)]
  · rw [if_neg e]
    by_cases e2 : i < k
    · rw [tabF_in e2, tabF_in (by omega)]
    · rw [tabF_out e2, tabF_out (by omega)]
theorem row_below {w w' : World} {b n : Nat} {t : TypeId} {f : Nat → Value} (h : w.rowIs b t n f) (hb : Below w.heap.size w w') : w'.rowIs b t n f := h.of_block (hb.block _ h.lt)
theorem ints_of_row {w : World} {b : Nat} {g : Nat → Int} {n : Nat} (h : w.rowIs b 3 n (tabF g n)) (c : Nat) : Ints w (.slice (some ⟨b, 0, none⟩) n c) ((List.range n).map g) := by
  refine .inr ⟨b, 0, c, by simp, h.lt, fun i hi => ?_⟩
  have hi' : i < n := by simpa using hi
  have := h.cell hi'
  rw [tabF_in hi'] at this
  simpa using this
set_option maxRecDepth 100000 in
theorem table_BLK (rv : Value) (g : Nat → Int) (hf : Tl 163 rv g) (w : World) : Calls Tryz.prog 165 #[.func (.func 163) #[rv] #[]] w fun e w' =>
    ∃ B, e = .returned (.slice (some ⟨B, 0, none⟩) 256 256) ∧ w'.rowIs B 3 256 (tabF g 256) ∧ w.heap.size ≤ B ∧ Below w.heap.size w w' := by
  have HF := Lib.hid hf
  clear hf
  obtain ⟨i0, hi, hz0, hz1, hz2⟩ := info_parts info3
  have hmk : ∀ w, (Instr.makeSlice 74 (.int .i64 256) (.int .i64 256)).run Tryz.prog w = .ok (.slice (some ⟨w.heap.size, 0, none⟩) 256 256) (w.alloc (.cells (madeCells #[.int .i64 0] 256) 3)) := run_make_row (P := Tryz.prog) 74 3 i0 _ Tryz.underlying74 hi hz0 hz1 rfl .i64 .i64 256 (by omega) (by omega)
  have HR0 : Hid ((w.alloc (.cells (madeCells #[.int .i64 0] 256) 3)).rowIs w.heap.size 3 256 (tabF g 0)) := Lib.hid ((World.rowIs_made w (.int .i64 0) 256 3).congr fun i _ => (tabF_out (by omega)).symm)
  have HB0 : Hid (Below w.heap.size w (w.alloc (.cells (madeCells #[.int .i64 0] 256) 3))) := Lib.hid ((Below.refl _ _).alloc (Nat.le_refl _) _)
  go_enter Tryz.func165, Tryz.ntmps165
  go_wp2_with fail
  go_loopg [6] 257 (fun gh q wr => ∃ (k : Nat), k + gh = 257 ∧ q = .int .i64 k ∧ k ≤ 256 ∧ Hid (wr.rowIs w.heap.size 3 256 (tabF g k)) ∧ Hid (Below w.heap.size w wr))
  case atStart => exact ⟨0, by omega, rfl, by omega, HR0, HB0⟩
  case round =>
    obtain ⟨k, hkg, rfl, hk7, HR, HB⟩ := hrel
    by_cases hk : k < 256
    · have hw8 : IntKind.u8.wrap (k : Int) = k := by rw [IntKind.wrap_u8]; omega
      have hc : ∀ w1, Below wr.heap.size wr w1 → w1.cell? ⟨w.heap.size, k, none⟩ = some (.int .i64 0) ∧ w1.frozen? ⟨w.heap.size, k, none⟩ = false := fun w1 h => ⟨by
        have := (row_below HR.out h).cell hk
        rwa [tabF_out (by omega)] at this, (row_below HR.out h).frozen k⟩
      have HC := Lib.hid hc
      clear hc
      go_wp2_with (go_at_call 163; refine (HF.out k hk _).mono ?_; rintro e w1 ⟨rfl, hb1⟩; obtain ⟨hc1, hf1⟩ := HC.out _ hb1; have HB1 := Lib.hid hb1; clear hb1)
      have HR1 : Hid ((w1.setCell ⟨w.heap.size, k, none⟩ (.int .i64 (g k))).rowIs w.heap.size 3 256 (tabF g (k + 1))) := Lib.hid (tabF_set (row_below HR.out HB1.out))
      have HB2 : Hid (Below w.heap.size w (w1.setCell ⟨w.heap.size, k, none⟩ (.int .i64 (g k)))) := Lib.hid ((below_call HB.out HB1.out).setCell (Nat.le_refl _) _)
      go_roundg (gk - 1)
      case measure => omega
      case rel => exact ⟨k + 1, by omega, by go_num, by omega, HR1, HB2⟩
    · have hk' : k = 256 := by omega
      subst hk'
      go_wp2_with fail
      go_ret
      exact ⟨_, rfl, HR.out, Nat.le_refl _, HB.out⟩
set_option maxRecDepth 100000 in
theorem table_RUNS (rv : Value) (g : Nat → Int) (hf : Tl 164 rv g) (w : World) : Calls Tryz.prog 165 #[.func (.func 164) #[rv] #[]] w fun e w' =>
    ∃ B, e = .returned (.slice (some ⟨B, 0, none⟩) 256 256) ∧ w'.rowIs B 3 256 (tabF g 256) ∧ w.heap.size ≤ B ∧ Below w.heap.size w w' := by
  have HF := Lib.hid hf
  clear hf
  obtain ⟨i0, hi, hz0, hz1, hz2⟩ := info_parts info3
  have hmk : ∀ w, (Instr.makeSlice 74 (.int .i64 256) (.int .i64 256)).run Tryz.prog w = .ok (.slice (some ⟨w.heap.size, 0, none⟩) 256 256) (w.alloc (.cells (madeCells #[.int .i64 0] 256) 3)) := run_make_row (P := Tryz.prog) 74 3 i0 _ Tryz.underlying74 hi hz0 hz1 rfl .i64 .i64 256 (by omega) (by omega)
  have HR0 : Hid ((w.alloc (.cells (madeCells #[.int .i64 0] 256) 3)).rowIs w.heap.size 3 256 (tabF g 0)) := Lib.hid ((World.rowIs_made w (.int .i64 0) 256 3).congr fun i _ => (tabF_out (by omega)).symm)
  have HB0 : Hid (Below w.heap.size w (w.alloc (.cells (madeCells #[.int .i64 0] 256) 3))) := Lib.hid ((Below.refl _ _).alloc (Nat.le_refl _) _)
  go_enter Tryz.func165, Tryz.ntmps165
  go_wp2_with fail
  go_loopg [6] 257 (fun gh q wr => ∃ (k : Nat), k + gh = 257 ∧ q = .int .i64 k ∧ k ≤ 256 ∧ Hid (wr.rowIs w.heap.size 3 256 (tabF g k)) ∧ Hid (Below w.heap.size w wr))
  case atStart => exact ⟨0, by omega, rfl, by omega, HR0, HB0⟩
  case round =>
    obtain ⟨k, hkg, rfl, hk7, HR, HB⟩ := hrel
    by_cases hk : k < 256
    · have hw8 : IntKind.u8.wrap (k : Int) = k := by rw [IntKind.wrap_u8]; omega
      have hc : ∀ w1, Below wr.heap.size wr w1 → w1.cell? ⟨w.heap.size, k, none⟩ = some (.int .i64 0) ∧ w1.frozen? ⟨w.heap.size, k, none⟩ = false := fun w1 h => ⟨by
        have := (row_below HR.out h).cell hk
        rwa [tabF_out (by omega)] at this, (row_below HR.out h).frozen k⟩
      have HC := Lib.hid hc
      clear hc
      go_wp2_with (go_at_call 164; refine (HF.out k hk _).mono ?_; rintro e w1 ⟨rfl, hb1⟩; obtain ⟨hc1, hf1⟩ := HC.out _ hb1; have HB1 := Lib.hid hb1; clear hb1)
      have HR1 : Hid ((w1.setCell ⟨w.heap.size, k, none⟩ (.int .i64 (g k))).rowIs w.heap.size 3 256 (tabF g (k + 1))) := Lib.hid (tabF_set (row_below HR.out HB1.out))
      have HB2 : Hid (Below w.heap.size w (w1.setCell ⟨w.heap.size, k, none⟩ (.int .i64 (g k)))) := Lib.hid ((below_call HB.out HB1.out).setCell (Nat.le_refl _) _)
      go_roundg (gk - 1)
      case measure => omega
      case rel => exact ⟨k + 1, by omega, by go_num, by omega, HR1, HB2⟩
    · have hk' : k = 256 := by omega
      subst hk'
      go_wp2_with fail
      go_ret
      exact ⟨_, rfl, HR.out, Nat.le_refl _, HB.out⟩
/-- What Byte tells. -/
def RetY (e r : Int) (w : World) (x : Ending) (w' : World) : Prop := x = .returned (.tuple #[.int .u8 (((bf e r).getD 0 : Nat) : Int), .bool (bf e r).isSome]) ∧ Below w.heap.size w w'
theorem retY_none {e r : Int} {w w' : World} (h : bf e r = none) (hb : Below w.heap.size w w') : RetY e r w (.returned (.tuple #[.int .u8 0, .bool false])) w' := ⟨by rw [h]; rfl, hb⟩
theorem retY_some {e r : Int} {b : Nat} {w w' : World} (h : bf e r = some b) (hb : Below w.heap.size w w') : RetY e r w (.returned (.tuple #[.int .u8 (b : Int), .bool true])) w' := ⟨by rw [h]; rfl, hb⟩
theorem bf_is {e r : Int} (h : isE e = true) : bf e r = look (scE e) 256 r := by unfold bf; rw [if_pos h]
theorem bf_isnt {e r : Int} (h : isE e = false) : bf e r = none := by unfold bf; rw [h]; rfl
theorem look_skip {f : Nat → Int} {k : Nat} {r : Int} (h : look f k r = none) (h2 : f k ≠ r) : look f (k + 1) r = none := by
  rw [look_succ, h]; simp [h2]
end Go.Proofs.YtppabkllconkjaaGreatDoor.U
/- The contracts of the document's own Table and Byte. -/
namespace Go.Proofs.YtppabkllconkjaaGreatDoor.U
open Go.RowKit Go.Maps
set_option linter.unusedVariables false
set_option linter.unusedSimpArgs false
set_option maxRecDepth 100000
theorem own_below {w w' : World} {base : Nat} {e : TypeId} {size : Nat} {v : Value} {n : Nat} {xs : List Value} (h : w.ownsRow base e size v n xs) (hb : Below w.heap.size w w') : w'.ownsRow base e size v n xs := by
  refine ⟨h.1, ?_⟩
  rcases h.2 with hn | ⟨g, cap, cur, rfl, hb0, hgg, rest⟩
  · exact .inl hn
  · refine .inr ⟨g, cap, cur, rfl, hb0, ?_, rest⟩
    rw [hb.block g (Array.getElem?_eq_some_iff.1 hgg).1]
    exact hgg
theorem ints_cells {w : World} {v : Value} {g : Nat → Int} (h : Ints w v ((List.range 256).map g)) : ∃ b off cap, v = .slice (some ⟨b, off, none⟩) 256 cap ∧ b < w.heap.size ∧ ∀ k : Nat, k < 256 → w.cell? ⟨b, off + k, none⟩ = some (.int .i64 (g k)) := by
  rcases h with ⟨h0, _⟩ | ⟨b, off, cap, rfl, hlt, hc⟩
  · exfalso
    have := congrArg List.length h0
    simp at this
  · refine ⟨b, off, cap, by simp, hlt, fun k hk => ?_⟩
    have := hc k (by simpa using hk)
    simpa using this
def RetT (e : Int) (w : World) (x : Ending) (w' : World) : Prop := ∃ v, x = .returned v ∧ Ints w' v (tbl e) ∧ Below w.heap.size w w'
theorem tbl_is {e : Int} (h : isE e = true) : tbl e = (List.range 256).map (scE e) := by unfold tbl; rw [if_pos h]
theorem tbl_isnt {e : Int} (h : isE e = false) : tbl e = [] := by unfold tbl; rw [h]; rfl
theorem ints_nil (w : World) : Ints w (.slice none 0 0) [] := .inl ⟨rfl, none, 0, rfl⟩
theorem range_snoc (g : Nat → Int) (k : Nat) : (List.range (k + 1)).map g = (List.range k).map g ++ [g k] := by simp [List.range_succ]
set_option maxRecDepth 100000 in
theorem rtable_any (e : Int) (w : World) : Calls Tryz.prog 68 #[.int .i8 e] w fun x w' => RetT e w x w' := by
  obtain ⟨i0, hi, hz0, hz1, hz2⟩ := info_parts info3
  cases h : isE e
  · have HN : Hid (tbl e = []) := Lib.hid (tbl_isnt h)
    have HI := Lib.hid h
    clear h
    go_enter Tryz.func68, Tryz.ntmps68
    go_wp2_with fail
    go_loopg [3, 4] 1 (fun g q3 q4 wr => g = 1 ∧ q3 = .slice none 0 0 ∧ q4 = .int .i64 0 ∧ w = wr)
    case atStart => exact ⟨rfl, rfl, rfl, rfl⟩
    case round =>
      obtain ⟨rfl, rfl, rfl, rfl⟩ := hrel
      have HC := Lib.hid (rscalar_any e 0 0 rfl (by omega) w)
      have hw8 : IntKind.u8.wrap 0 = 0 := by decide
      go_wp2_with (go_at_call 103; refine HC.out.mono ?_; rintro x w1 ⟨rfl, hb1⟩; rw [HI.out]; have HB1 := Lib.hid hb1; clear hb1)
      go_ret
      exact ⟨_, rfl, by rw [HN.out]; exact ints_nil _, HB1.out⟩
  · have HN : Hid (tbl e = (List.range 256).map (scE e)) := Lib.hid (tbl_is h)
    have HI := Lib.hid h
    clear h
    go_enter Tryz.func68, Tryz.ntmps68
    go_wp2_with fail
    go_loopg [3, 4] 257 (fun g q3 q4 wr => ∃ (u : Value) (k : Nat), u = q3 ∧ k + g = 257 ∧ q4 = .int .i64 k ∧ k ≤ 256 ∧ Hid (OwnI wr w.heap.size u ((List.range k).map (scE e))) ∧ Hid (Below w.heap.size w wr))
    case atStart => exact ⟨_, 0, rfl, by omega, rfl, by omega, Lib.hid (ownI_nil _ _), Lib.hid (Below.refl _ _)⟩
    case round =>
      obtain ⟨u, k, rfl, hkg, rfl, hk7, HO, HB⟩ := hrel
      by_cases hk : k < 256
      · have hw8 : IntKind.u8.wrap (k : Int) = k := by rw [IntKind.wrap_u8]; omega
        have HC := Lib.hid (rscalar_any e k k rfl hk wr)
        have HX : Hid ((List.range (k + 1)).map (scE e) = (List.range k).map (scE e) ++ [scE e k]) := Lib.hid (range_snoc _ _)
        obtain ⟨c, hc⟩ : ∃ c, scE e k = c := ⟨_, rfl⟩
        have hlen : ((List.range k).map (scE e)).length = k := by simp
        obtain ⟨xs, hxs⟩ : ∃ xs, (List.range k).map (scE e) = xs := ⟨_, rfl⟩
        rw [hxs] at HX HO hlen
        rw [hc] at HX
        have HCC := Lib.hid hc
        have hwz := HB.out.size
        have HO' : Hid (wr.ownsRow w.heap.size 3 1 u k (xs.map (Value.int .i64))) := Lib.hid (by have := HO.out; unfold OwnI at this; rwa [hlen] at this)
        have HLX := Lib.hid hlen
        clear hxs hc HO hlen
        go_wp2_with (first
          | (go_at_call 103; refine HC.out.mono ?_; rintro x w1 ⟨rfl, hb1⟩; rw [HI.out, HCC.out]; have HO1 : Hid (w1.ownsRow w.heap.size 3 1 u k (xs.map (Value.int .i64))) := Lib.hid (own_below HO'.out hb1); have HB1 : Hid (Below w.heap.size w w1) := Lib.hid (below_call HB.out hb1); have hq1 := HB1.out.size; clear hb1)
          | (at_builtin; refine wpList_append_lies _ rfl _ _ _ rfl w.heap.size 3 i0 _ 1 8 Tryz.underlying74 hi hz0 hz1 hz2 rfl (by omega) u k _ rfl (World.ownsRow.alloc HO1.out _) ⟨w1.heap.size, 0, none⟩ 1 1 [_] rfl rfl (cell_one_new _ _ _) (by simp [Value.oneCell']) (by omega) (by unfold maxLen; omega) (by omega) (by simp; omega) (w1.heap.size + 1) (by simp) ?_; intro g2 cap2 w2 hown2 hgrow2 hat2 hlt2))
        have HO2 : Hid (OwnI w2 w.heap.size (.slice (some ⟨g2, 0, none⟩) (k + 1) cap2) ((List.range (k + 1)).map (scE e))) := Lib.hid (by
          rw [HX.out]; unfold OwnI; rw [List.length_append, List.map_append, HLX.out]; exact hown2)
        have HB2 : Hid (Below w.heap.size w w2) := Lib.hid ((HB1.out.alloc hq1 _).grown hgrow2 (by simp; omega) (fun j ej => (World.ownsRow.lt HO1.out j ej).1))
        clear hown2 hgrow2 hat2 hlt2
        go_wp2_with fail
        go_roundg (gk - 1)
        case measure => omega
        case rel => exact ⟨_, k + 1, rfl, by omega, by go_num, by omega, HO2, HB2⟩
      · have hk' : k = 256 := by omega
        subst hk'
        go_wp2_with fail
        go_ret
        exact ⟨_, rfl, by rw [HN.out]; exact ints_of_own HO.out, HB.out⟩
set_option maxRecDepth 100000 in
theorem rbyte_any (e : Int) (r : Int) (w : World) : Calls Tryz.prog 71 #[.int .i8 e, .int .i64 r] w fun x w' => RetY e r w x w' := by
  have HT := Lib.hid (rtable_any e w)
  cases h : isE e
  · have HN : Hid (tbl e = []) := Lib.hid (tbl_isnt h)
    have HR := Lib.hid (bf_isnt (r := r) h)
    clear h
    go_enter Tryz.func71, Tryz.ntmps71
    go_wp2_with (go_at_call 68; refine HT.out.mono ?_; rintro x w1 ⟨v, rfl, hv, hb1⟩; rw [HN.out] at hv; obtain ⟨p, cap, rfl⟩ := hv.formS; have HB1 := Lib.hid hb1; clear hb1 hv)
    go_loopg [7] 1 (fun g q wr => g = 1 ∧ q = .int .i64 0 ∧ w1 = wr)
    case atStart => exact ⟨rfl, rfl, rfl⟩
    case round =>
      obtain ⟨rfl, rfl, rfl⟩ := hrel
      go_wp2_with fail
      go_ret2
      exact retY_none HR.out HB1.out
  · have HN : Hid (tbl e = (List.range 256).map (scE e)) := Lib.hid (tbl_is h)
    have HI := Lib.hid h
    clear h
    go_enter Tryz.func71, Tryz.ntmps71
    go_wp2_with (go_at_call 68; refine HT.out.mono ?_; rintro x w1 ⟨v, rfl, hv, hb1⟩; rw [HN.out] at hv; obtain ⟨b, off, cap, rfl, hlt, hc⟩ := ints_cells hv; have HB1 := Lib.hid hb1; clear hb1 hv; have HC := Lib.hid hc; clear hc)
    go_loopg [7] 257 (fun gh q wr => ∃ (k : Nat), k + gh = 257 ∧ q = .int .i64 k ∧ k ≤ 256 ∧ Hid (look (scE e) k r = none) ∧ w1 = wr)
    case atStart => exact ⟨0, by omega, rfl, by omega, Lib.hid rfl, rfl⟩
    case round =>
      obtain ⟨k, hkg, rfl, hk7, HL, rfl⟩ := hrel
      by_cases hk : k < 256
      · have hw8 : IntKind.u8.wrap (k : Int) = k := by rw [IntKind.wrap_u8]; omega
        have hc := HC.out k hk
        obtain ⟨c, hcc⟩ : ∃ c, scE e k = c := ⟨_, rfl⟩
        rw [hcc] at hc
        by_cases hcr : c = r
        · have HR : Hid (bf e r = some k) := Lib.hid (by rw [bf_is HI.out]; exact look_first hk (look_none.1 HL.out) (hcc.trans hcr))
          subst hcr
          clear hcc
          go_wp2_with fail
          go_ret2
          exact retY_some HR.out HB1.out
        · have HL1 : Hid (look (scE e) (k + 1) r = none) := Lib.hid (look_skip HL.out (by rw [hcc]; exact hcr))
          have hcb : (c == r) = false := by simp [hcr]
          clear hcc hcr
          go_wp2_with fail
          go_roundg (gk - 1)
          case measure => omega
          case rel => exact ⟨k + 1, by omega, by go_num, by omega, HL1, rfl⟩
      · have hk' : k = 256 := by omega
        subst hk'
        have HR : Hid (bf e r = none) := Lib.hid (by rw [bf_is HI.out]; exact HL.out)
        go_wp2_with fail
        go_ret2
        exact retY_none HR.out HB1.out
end Go.Proofs.YtppabkllconkjaaGreatDoor.U
/- The contracts of Decode. -/
namespace Go.Proofs.YtppabkllconkjaaGreatDoor.U
open Go.RowKit Go.Maps
set_option linter.unusedVariables false
set_option linter.unusedSimpArgs false
set_option maxRecDepth 100000
theorem range_map_get (l : List UInt8) (f : UInt8 → Int) : (List.range l.length).map (fun i => f (l[i]?.getD 0)) = l.map f := by
  apply List.ext_getElem
  · simp
  · intro i h1 h2
    have hi : i < l.length := by simpa using h2
    simp [hi]
/-- The scalars of bytes. -/
def mp (e : Int) (s : ByteArray) : List Int := s.data.toList.map fun c => scE e c.toNat
theorem mp_len (e : Int) (s : ByteArray) : (mp e s).length = s.size := by simp [mp]
theorem isB_sc {e : Int} (h : isE e = true) {b : Nat} (hb : b < 256) : isB (scE e b) = true := by
  have := sc_bd e (isE_mem h) b hb
  exact isB_iff.2 (by omega)
theorem allB_mp {e : Int} (h : isE e = true) (s : ByteArray) : allB (mp e s) = true := by
  unfold allB mp
  rw [List.all_eq_true]
  intro x hx
  obtain ⟨c, _, rfl⟩ := List.mem_map.1 hx
  exact isB_sc h c.toNat_lt
def gS (e : Int) (s : ByteArray) (i : Nat) : Int := scE e (s.data.toList[i]?.getD 0).toNat
theorem gS_at (e : Int) (s : ByteArray) {k : Nat} (h : k < s.size) : gS e s k = scE e s[k].toNat := by
  unfold gS
  have : s.data.toList[k]? = some s[k] := by
    have h2 : k < s.data.toList.length := by simpa using h
    rw [List.getElem?_eq_getElem h2]; rfl
  rw [this]; rfl
theorem gS_mp (e : Int) (s : ByteArray) : (List.range s.size).map (gS e s) = mp e s := by
  have := range_map_get s.data.toList (fun c => scE e c.toNat)
  have hl : s.data.toList.length = s.size := by simp
  rw [hl] at this
  exact this
/-- What Decode tells. -/
def decT (e : Int) (s : ByteArray) : ByteArray := if isE e = true then str (encs (mp e s)) else ⟨#[]⟩
def decC (e : Int) : Int := if isE e = true then 0 else 2
def DecS (e : Int) (s : ByteArray) (w : World) (x : Ending) (w' : World) : Prop := x = .returned (.tuple #[.string (decT e s), .int .i64 (decC e)]) ∧ Below w.heap.size w w'
theorem dec_no {e : Int} {s : ByteArray} {w w' : World} (h : isE e = false) (hb : Below w.heap.size w w') : DecS e s w (.returned (.tuple #[.string ⟨#[]⟩, .int .i64 2])) w' := ⟨by unfold decT decC; rw [h]; rfl, hb⟩
theorem dec_is {e : Int} {s : ByteArray} {w w' : World} (h : isE e = true) (hb : Below w.heap.size w w') : DecS e s w (.returned (.tuple #[.string (str (encs (mp e s))), .int .i64 0])) w' := ⟨by unfold decT decC; rw [h]; rfl, hb⟩
theorem text_of {w w' : World} {xs : List Int} {e : Ending} (h : allB xs = true) (ht : TextS w xs e w') : e = .returned (.tuple #[.string (str (encs xs)), .bool true]) ∧ Below w.heap.size w w' := by
  unfold TextS at ht
  simpa [h] using ht
set_option maxRecDepth 100000 in
theorem fdecode_3 (s : ByteArray) (w : World) (hG : Gl w) (hs : s.size ≤ 5000) : Calls Tryz.prog 99 #[.int .i8 3, .string s] w fun e w' => DecS 3 s w e w' := by
  have HGL := Lib.hid hG
  have HS := Lib.hid (scalars_any w)
  have HT := Lib.hid tl_3
  have HI : Hid (isE 3 = true) := Lib.hid rfl
  have HAB : Hid (allB (mp 3 s) = true) := Lib.hid (allB_mp rfl s)
  have HMP := Lib.hid (gS_mp 3 s)
  have HL := Lib.hid (mp_len 3 s)
  have hfv := fvr_3
  obtain ⟨rv, hrv⟩ : ∃ v, rval 3 = v := ⟨_, rfl⟩
  rw [hrv] at hfv HT
  have HV := Lib.hid hfv
  clear hrv hfv hG
  obtain ⟨i0, hi, hz0, hz1, hz2⟩ := info_parts info3
  have hmk := run_make_row (P := Tryz.prog) 74 3 i0 _ Tryz.underlying74 hi hz0 hz1 rfl .i64 .i64 s.size (by rw [hz2]; omega) (by omega)
  go_enter Tryz.func99, Tryz.ntmps99
  go_wp2_with (go_at_call 133; refine HS.out.mono ?_; rintro e w1 ⟨g, rfl, hl, hb1⟩; replace hl := hl 3 (by decide); rw [HV.out, HI.out] at hl; have HB1 := Lib.hid hb1; have HR0 : Hid ((w1.alloc (.cells (madeCells #[.int .i64 0] s.size) 3)).rowIs w1.heap.size 3 s.size (tabF (gS 3 s) 0)) := Lib.hid ((World.rowIs_made w1 (.int .i64 0) s.size 3).congr fun i _ => (tabF_out (by omega)).symm); have HB0 : Hid (Below w.heap.size w (w1.alloc (.cells (madeCells #[.int .i64 0] s.size) 3))) := Lib.hid (hb1.alloc hb1.size _); clear hb1)
  clear hl hmk
  go_loopg [25] (s.size + 1) (fun gh q wr => ∃ (k : Nat), k + gh = s.size + 1 ∧ q = .int .i64 k ∧ k ≤ s.size ∧ Hid (wr.rowIs w1.heap.size 3 s.size (tabF (gS 3 s) k)) ∧ Hid (Below w.heap.size w wr))
  case atStart => exact ⟨0, by omega, rfl, by omega, HR0, HB0⟩
  case round =>
    obtain ⟨k, hkg, rfl, hk7, HR, HB⟩ := hrel
    by_cases hk : k < s.size
    · have hb := s[k].toNat_lt
      have HC := Lib.hid (HT.out s[k].toNat hb)
      have hcl := HR.out.cell hk
      rw [tabF_out (by omega)] at hcl
      have HCL := Lib.hid hcl
      have HFR := Lib.hid (HR.out.frozen k)
      obtain ⟨c, hc⟩ : ∃ c, scE 3 s[k].toNat = c := ⟨_, rfl⟩
      have HGS : Hid (gS 3 s k = c) := Lib.hid ((gS_at 3 s hk).trans hc)
      have hrlt := HR.out.lt
      rw [hc] at HC
      clear hc hcl
      go_wp2_with (go_at_call 163; refine (HC.out _).mono ?_; rintro e w2 ⟨rfl, hb2⟩; have HB2 := Lib.hid hb2; have hcl := (hb2.cell (p := ⟨w1.heap.size, k, none⟩) hrlt).trans HCL.out; have hfr := (row_below HR.out hb2).frozen k; clear hb2)
      have HR2 : Hid ((w2.setCell ⟨w1.heap.size, k, none⟩ (.int .i64 c)).rowIs w1.heap.size 3 s.size (tabF (gS 3 s) (k + 1))) := Lib.hid (by
        have := tabF_set (row_below HR.out HB2.out)
        rwa [HGS.out] at this)
      have HB3 : Hid (Below w.heap.size w (w2.setCell ⟨w1.heap.size, k, none⟩ (.int .i64 c))) := Lib.hid ((below_call HB.out HB2.out).setCell HB1.out.size _)
      go_roundg (gk - 1)
      case measure => omega
      case rel => exact ⟨k + 1, by omega, by go_num, by omega, HR2, HB3⟩
    · have hk' : k = s.size := by omega
      subst hk'
      have HTX := Lib.hid (text_any (.slice (some ⟨w1.heap.size, 0, none⟩) s.size s.size) (mp 3 s) wr (HGL.out.below' HB.out) (by
        have := ints_of_row HR.out s.size
        rwa [HMP.out] at this) (by rw [HL.out]; omega))
      go_wp2_with (go_at_call 129; refine HTX.out.mono ?_; rintro e w3 ht; obtain ⟨rfl, hb3⟩ := text_of HAB.out ht; have HB3 := Lib.hid hb3; clear hb3 ht)
      go_ret2
      exact dec_is HI.out (below_call HB.out HB3.out)
set_option maxRecDepth 100000 in
theorem fdecode_4 (s : ByteArray) (w : World) (hG : Gl w) (hs : s.size ≤ 5000) : Calls Tryz.prog 99 #[.int .i8 4, .string s] w fun e w' => DecS 4 s w e w' := by
  have HGL := Lib.hid hG
  have HS := Lib.hid (scalars_any w)
  have HT := Lib.hid tl_4
  have HI : Hid (isE 4 = true) := Lib.hid rfl
  have HAB : Hid (allB (mp 4 s) = true) := Lib.hid (allB_mp rfl s)
  have HMP := Lib.hid (gS_mp 4 s)
  have HL := Lib.hid (mp_len 4 s)
  have hfv := fvr_4
  obtain ⟨rv, hrv⟩ : ∃ v, rval 4 = v := ⟨_, rfl⟩
  rw [hrv] at hfv HT
  have HV := Lib.hid hfv
  clear hrv hfv hG
  obtain ⟨i0, hi, hz0, hz1, hz2⟩ := info_parts info3
  have hmk := run_make_row (P := Tryz.prog) 74 3 i0 _ Tryz.underlying74 hi hz0 hz1 rfl .i64 .i64 s.size (by rw [hz2]; omega) (by omega)
  go_enter Tryz.func99, Tryz.ntmps99
  go_wp2_with (go_at_call 133; refine HS.out.mono ?_; rintro e w1 ⟨g, rfl, hl, hb1⟩; replace hl := hl 4 (by decide); rw [HV.out, HI.out] at hl; have HB1 := Lib.hid hb1; have HR0 : Hid ((w1.alloc (.cells (madeCells #[.int .i64 0] s.size) 3)).rowIs w1.heap.size 3 s.size (tabF (gS 4 s) 0)) := Lib.hid ((World.rowIs_made w1 (.int .i64 0) s.size 3).congr fun i _ => (tabF_out (by omega)).symm); have HB0 : Hid (Below w.heap.size w (w1.alloc (.cells (madeCells #[.int .i64 0] s.size) 3))) := Lib.hid (hb1.alloc hb1.size _); clear hb1)
  clear hl hmk
  go_loopg [25] (s.size + 1) (fun gh q wr => ∃ (k : Nat), k + gh = s.size + 1 ∧ q = .int .i64 k ∧ k ≤ s.size ∧ Hid (wr.rowIs w1.heap.size 3 s.size (tabF (gS 4 s) k)) ∧ Hid (Below w.heap.size w wr))
  case atStart => exact ⟨0, by omega, rfl, by omega, HR0, HB0⟩
  case round =>
    obtain ⟨k, hkg, rfl, hk7, HR, HB⟩ := hrel
    by_cases hk : k < s.size
    · have hb := s[k].toNat_lt
      have HC := Lib.hid (HT.out s[k].toNat hb)
      have hcl := HR.out.cell hk
      rw [tabF_out (by omega)] at hcl
      have HCL := Lib.hid hcl
      have HFR := Lib.hid (HR.out.frozen k)
      obtain ⟨c, hc⟩ : ∃ c, scE 4 s[k].toNat = c := ⟨_, rfl⟩
      have HGS : Hid (gS 4 s k = c) := Lib.hid ((gS_at 4 s hk).trans hc)
      have hrlt := HR.out.lt
      rw [hc] at HC
      clear hc hcl
      go_wp2_with (go_at_call 164; refine (HC.out _).mono ?_; rintro e w2 ⟨rfl, hb2⟩; have HB2 := Lib.hid hb2; have hcl := (hb2.cell (p := ⟨w1.heap.size, k, none⟩) hrlt).trans HCL.out; have hfr := (row_below HR.out hb2).frozen k; clear hb2)
      have HR2 : Hid ((w2.setCell ⟨w1.heap.size, k, none⟩ (.int .i64 c)).rowIs w1.heap.size 3 s.size (tabF (gS 4 s) (k + 1))) := Lib.hid (by
        have := tabF_set (row_below HR.out HB2.out)
        rwa [HGS.out] at this)
      have HB3 : Hid (Below w.heap.size w (w2.setCell ⟨w1.heap.size, k, none⟩ (.int .i64 c))) := Lib.hid ((below_call HB.out HB2.out).setCell HB1.out.size _)
      go_roundg (gk - 1)
      case measure => omega
      case rel => exact ⟨k + 1, by omega, by go_num, by omega, HR2, HB3⟩
    · have hk' : k = s.size := by omega
      subst hk'
      have HTX := Lib.hid (text_any (.slice (some ⟨w1.heap.size, 0, none⟩) s.size s.size) (mp 4 s) wr (HGL.out.below' HB.out) (by
        have := ints_of_row HR.out s.size
        rwa [HMP.out] at this) (by rw [HL.out]; omega))
      go_wp2_with (go_at_call 129; refine HTX.out.mono ?_; rintro e w3 ht; obtain ⟨rfl, hb3⟩ := text_of HAB.out ht; have HB3 := Lib.hid hb3; clear hb3 ht)
      go_ret2
      exact dec_is HI.out (below_call HB.out HB3.out)
set_option maxRecDepth 100000 in
theorem fdecode_5 (s : ByteArray) (w : World) (hG : Gl w) (hs : s.size ≤ 5000) : Calls Tryz.prog 99 #[.int .i8 5, .string s] w fun e w' => DecS 5 s w e w' := by
  have HGL := Lib.hid hG
  have HS := Lib.hid (scalars_any w)
  have HT := Lib.hid tl_5
  have HI : Hid (isE 5 = true) := Lib.hid rfl
  have HAB : Hid (allB (mp 5 s) = true) := Lib.hid (allB_mp rfl s)
  have HMP := Lib.hid (gS_mp 5 s)
  have HL := Lib.hid (mp_len 5 s)
  have hfv := fvr_5
  obtain ⟨rv, hrv⟩ : ∃ v, rval 5 = v := ⟨_, rfl⟩
  rw [hrv] at hfv HT
  have HV := Lib.hid hfv
  clear hrv hfv hG
  obtain ⟨i0, hi, hz0, hz1, hz2⟩ := info_parts info3
  have hmk := run_make_row (P := Tryz.prog) 74 3 i0 _ Tryz.underlying74 hi hz0 hz1 rfl .i64 .i64 s.size (by rw [hz2]; omega) (by omega)
  go_enter Tryz.func99, Tryz.ntmps99
  go_wp2_with (go_at_call 133; refine HS.out.mono ?_; rintro e w1 ⟨g, rfl, hl, hb1⟩; replace hl := hl 5 (by decide); rw [HV.out, HI.out] at hl; have HB1 := Lib.hid hb1; have HR0 : Hid ((w1.alloc (.cells (madeCells #[.int .i64 0] s.size) 3)).rowIs w1.heap.size 3 s.size (tabF (gS 5 s) 0)) := Lib.hid ((World.rowIs_made w1 (.int .i64 0) s.size 3).congr fun i _ => (tabF_out (by omega)).symm); have HB0 : Hid (Below w.heap.size w (w1.alloc (.cells (madeCells #[.int .i64 0] s.size) 3))) := Lib.hid (hb1.alloc hb1.size _); clear hb1)
  clear hl hmk
  go_loopg [25] (s.size + 1) (fun gh q wr => ∃ (k : Nat), k + gh = s.size + 1 ∧ q = .int .i64 k ∧ k ≤ s.size ∧ Hid (wr.rowIs w1.heap.size 3 s.size (tabF (gS 5 s) k)) ∧ Hid (Below w.heap.size w wr))
  case atStart => exact ⟨0, by omega, rfl, by omega, HR0, HB0⟩
  case round =>
    obtain ⟨k, hkg, rfl, hk7, HR, HB⟩ := hrel
    by_cases hk : k < s.size
    · have hb := s[k].toNat_lt
      have HC := Lib.hid (HT.out s[k].toNat hb)
      have hcl := HR.out.cell hk
      rw [tabF_out (by omega)] at hcl
      have HCL := Lib.hid hcl
      have HFR := Lib.hid (HR.out.frozen k)
      obtain ⟨c, hc⟩ : ∃ c, scE 5 s[k].toNat = c := ⟨_, rfl⟩
      have HGS : Hid (gS 5 s k = c) := Lib.hid ((gS_at 5 s hk).trans hc)
      have hrlt := HR.out.lt
      rw [hc] at HC
      clear hc hcl
      go_wp2_with (go_at_call 164; refine (HC.out _).mono ?_; rintro e w2 ⟨rfl, hb2⟩; have HB2 := Lib.hid hb2; have hcl := (hb2.cell (p := ⟨w1.heap.size, k, none⟩) hrlt).trans HCL.out; have hfr := (row_below HR.out hb2).frozen k; clear hb2)
      have HR2 : Hid ((w2.setCell ⟨w1.heap.size, k, none⟩ (.int .i64 c)).rowIs w1.heap.size 3 s.size (tabF (gS 5 s) (k + 1))) := Lib.hid (by
        have := tabF_set (row_below HR.out HB2.out)
        rwa [HGS.out] at this)
      have HB3 : Hid (Below w.heap.size w (w2.setCell ⟨w1.heap.size, k, none⟩ (.int .i64 c))) := Lib.hid ((below_call HB.out HB2.out).setCell HB1.out.size _)
      go_roundg (gk - 1)
      case measure => omega
      case rel => exact ⟨k + 1, by omega, by go_num, by omega, HR2, HB3⟩
    · have hk' : k = s.size := by omega
      subst hk'
      have HTX := Lib.hid (text_any (.slice (some ⟨w1.heap.size, 0, none⟩) s.size s.size) (mp 5 s) wr (HGL.out.below' HB.out) (by
        have := ints_of_row HR.out s.size
        rwa [HMP.out] at this) (by rw [HL.out]; omega))
      go_wp2_with (go_at_call 129; refine HTX.out.mono ?_; rintro e w3 ht; obtain ⟨rfl, hb3⟩ := text_of HAB.out ht; have HB3 := Lib.hid hb3; clear hb3 ht)
      go_ret2
      exact dec_is HI.out (below_call HB.out HB3.out)
theorem fdecode_no (e : Int) (hwf : (Lit.int .i8 e).wf = true) (h : isE e = false) (s : ByteArray) (w : World) : Calls Tryz.prog 99 #[.int .i8 e, .string s] w fun x w' => DecS e s w x w' := by
  have HS := Lib.hid (scalars_any w)
  have HV := Lib.hid (fval_no h)
  have HI := Lib.hid h
  have HW := Lib.hid hwf
  clear h hwf
  go_enter Tryz.func99, Tryz.ntmps99
  go_wp2_with (go_at_call 133; refine HS.out.mono ?_; rintro e w1 ⟨g, rfl, hl, hb1⟩; replace hl := hl _ HW.out; rw [HV.out, HI.out] at hl; have HB1 := Lib.hid hb1; clear hb1)
  go_ret2
  exact dec_no HI.out HB1.out
theorem fdecode_any (e : Int) (hwf : (Lit.int .i8 e).wf = true) (s : ByteArray) (w : World) (hG : Gl w) (hs : s.size ≤ 5000) : Calls Tryz.prog 99 #[.int .i8 e, .string s] w fun x w' => DecS e s w x w' := by
  cases h : isE e
  · exact fdecode_no e hwf h s w
  · rcases isE_iff.1 h with rfl | rfl | rfl
    · exact fdecode_3 s w hG hs
    · exact fdecode_4 s w hG hs
    · exact fdecode_5 s w hG hs
theorem rtable_no (e : Int) (h : isE e = false) (w : World) : Calls Tryz.prog 68 #[.int .i8 e] w fun x w' => ∃ p c, x = .returned (.slice p 0 c) ∧ Below w.heap.size w w' := by
  refine (rtable_any e w).mono ?_
  rintro x w' ⟨v, rfl, hv, hb⟩
  rw [tbl_isnt h] at hv
  obtain ⟨p, c, rfl⟩ := hv.formS
  exact ⟨p, c, rfl, hb⟩
theorem rtable_is (e : Int) (h : isE e = true) (w : World) : Calls Tryz.prog 68 #[.int .i8 e] w fun x w' => ∃ b off cap, x = .returned (.slice (some ⟨b, off, none⟩) 256 cap) ∧ b < w'.heap.size ∧ (∀ k : Nat, k < 256 → w'.cell? ⟨b, off + k, none⟩ = some (.int .i64 (scE e k))) ∧ Below w.heap.size w w' := by
  refine (rtable_any e w).mono ?_
  rintro x w' ⟨v, rfl, hv, hb⟩
  rw [tbl_is h] at hv
  obtain ⟨b, off, cap, rfl, hlt, hc⟩ := ints_cells hv
  exact ⟨b, off, cap, rfl, hlt, hc, hb⟩
theorem mp_take (e : Int) (s : ByteArray) {k : Nat} (h : k < s.size) : (mp e s).take (k + 1) = (mp e s).take k ++ [scE e s[k].toNat] := by
  have h2 : k < (mp e s).length := by rw [mp_len]; exact h
  rw [List.take_succ_eq_append_getElem h2]
  have e2 : (mp e s)[k] = scE e s[k].toNat := by
    simp only [mp, List.getElem_map]
    rfl
  rw [e2]
set_option maxRecDepth 100000 in
theorem rdecode1_any (e : Int) (s : ByteArray) (w : World) (hs : s.size ≤ 5000) : Calls Tryz.prog 36 #[.int .i8 e, .string s] w fun x w' => DecS e s w x w' := by
  cases h : isE e
  · have HT := Lib.hid (rtable_no e h w)
    have HI := Lib.hid h
    clear h
    go_enter Tryz.func36, Tryz.ntmps36
    go_wp2_with (go_at_call 68; refine HT.out.mono ?_; rintro x w1 ⟨p, c, rfl, hb1⟩; have HB1 := Lib.hid hb1; clear hb1)
    go_ret2
    exact dec_no HI.out HB1.out
  · obtain ⟨i0, hi, hz0, hz1, hz2⟩ := info_parts info3
    have HT := Lib.hid (rtable_is e h w)
    have HI := Lib.hid h
    have HAB : Hid (allB (mp e s) = true) := Lib.hid (allB_mp h s)
    have HL := Lib.hid (mp_len e s)
    have HMT := Lib.hid fun k hk => mp_take e s (k := k) hk
    obtain ⟨M, hM⟩ : ∃ M, mp e s = M := ⟨_, rfl⟩
    have HM := Lib.hid hM
    rw [hM] at HAB HL HMT
    clear h hM
    go_enter Tryz.func36, Tryz.ntmps36
    go_wp2_with (go_at_call 68; refine HT.out.mono ?_; rintro x w1 ⟨b, off, cap, rfl, hlt, hc, hb1⟩; have HB1 := Lib.hid hb1; have HC := Lib.hid hc; clear hb1 hc)
    have hq1 := HB1.out.size
    go_loopg [7, 8] (s.size + 1) (fun g q7 q8 wr => ∃ (u : Value) (k : Nat), u = q7 ∧ k + g = s.size + 1 ∧ q8 = .int .i64 k ∧ k ≤ s.size ∧ Hid (OwnI wr w1.heap.size u (M.take k)) ∧ Hid (Below w1.heap.size w1 wr))
    case atStart => exact ⟨_, 0, rfl, by omega, rfl, by omega, Lib.hid (by rw [List.take_zero]; exact ownI_nil _ _), Lib.hid (Below.refl _ _)⟩
    case round =>
      obtain ⟨u, k, rfl, hkg, rfl, hk7, HO, HB⟩ := hrel
      have hwz := HB.out.size
      by_cases hk : k < s.size
      · have hcb := s[k].toNat_lt
        have hcell := (HB.out.cell (p := ⟨b, off + s[k].toNat, none⟩) hlt).trans (HC.out s[k].toNat hcb)
        have HX := Lib.hid (HMT.out k hk)
        obtain ⟨c, hc⟩ : ∃ c, scE e s[k].toNat = c := ⟨_, rfl⟩
        rw [hc] at HX hcell
        have hlen : (M.take k).length = k := by rw [List.length_take, HL.out]; omega
        obtain ⟨xs, hxs⟩ : ∃ xs, M.take k = xs := ⟨_, rfl⟩
        rw [hxs] at HX HO hlen
        have HO' : Hid (wr.ownsRow w1.heap.size 3 1 u k (xs.map (Value.int .i64))) := Lib.hid (by have := HO.out; unfold OwnI at this; rwa [hlen] at this)
        have HLX := Lib.hid hlen
        clear hxs hc HO hlen
        go_wp2_with (at_builtin; refine wpList_append_lies _ rfl _ _ _ rfl w1.heap.size 3 i0 _ 1 8 Tryz.underlying74 hi hz0 hz1 hz2 rfl (by omega) u k _ rfl (World.ownsRow.alloc HO'.out _) ⟨wr.heap.size, 0, none⟩ 1 1 [_] rfl rfl (cell_one_new _ _ _) (by simp [Value.oneCell']) (by omega) (by unfold maxLen; omega) (by omega) (by simp; omega) (wr.heap.size + 1) (by simp) ?_; intro g2 cap2 w2 hown2 hgrow2 hat2 hlt2)
        have HO2 : Hid (OwnI w2 w1.heap.size (.slice (some ⟨g2, 0, none⟩) (k + 1) cap2) (M.take (k + 1))) := Lib.hid (by
          rw [HX.out]; unfold OwnI; rw [List.length_append, List.map_append, HLX.out]; exact hown2)
        have HB2 : Hid (Below w1.heap.size w1 w2) := Lib.hid ((HB.out.alloc hwz _).grown hgrow2 (by simp; omega) (fun j ej => (World.ownsRow.lt HO'.out j ej).1))
        clear hown2 hgrow2 hat2 hlt2
        go_wp2_with fail
        go_roundg (gk - 1)
        case measure => omega
        case rel => exact ⟨_, k + 1, rfl, by omega, by go_num, by omega, HO2, HB2⟩
      · have hMk : M.take k = M := List.take_of_length_le (by rw [HL.out]; omega)
        have HTX := Lib.hid (rtext_any u M wr (ints_of_own (by have := HO.out; rwa [hMk] at this)) (by rw [HL.out]; omega))
        clear hMk
        go_wp2_with (go_at_call 67; refine HTX.out.mono ?_; rintro e w3 ht; obtain ⟨rfl, hb3⟩ := text_of HAB.out ht; have HB3 := Lib.hid hb3; clear hb3 ht)
        go_ret2
        have HF := dec_is (s := s) HI.out (below_call (below_call HB1.out HB.out) HB3.out)
        rw [HM.out] at HF
        exact HF
end Go.Proofs.YtppabkllconkjaaGreatDoor.U
/- The iterator of utf16.scalars: its contract. -/
namespace Go.Proofs.YtppabkllconkjaaGreatDoor.U
open Go.RowKit Go.Shelf
set_option linter.unusedVariables false
set_option linter.unusedSimpArgs false
set_option maxRecDepth 100000
attribute [local go_sem] Oper.semAt_some
structure ItU (big : Bool) (l : List UInt8) (a : Nat) (pre : List Item) : Prop where
  le : a ≤ l.length
  few : pre.length ≤ a
  it : its (p16 big l) 0 = pre.map (·.1) ++ its (p16 big (l.drop a)) a
theorem ItU.start (big : Bool) (l : List UInt8) : ItU big l 0 [] := ⟨Nat.zero_le _, Nat.le_refl _, by simp⟩
theorem ItU.step {big : Bool} {l : List UInt8} {a : Nat} {pre : List Item} (h : ItU big l a pre) (hl : a < l.length) {r : Int} {n : Nat} (hd : d16 big (l.drop a) = (r, n)) (x : Item) (hx : x.1 = (a, r)) : ItU big l (a + n) (pre ++ [x]) := by
  have hne := drop_ne hl
  have h1 := (d16_pos big (l.drop a)).1
  have h2 := d16_le big hne
  rw [hd] at h1 h2
  simp only [List.length_drop] at h1 h2
  refine ⟨by omega, by simp; have := h.few; omega, ?_⟩
  rw [h.it, p16_cons big hne, hd, List.drop_drop]
  simp [its, hx]
theorem ItU.done {big : Bool} {l : List UInt8} {a : Nat} {pre : List Item} (h : ItU big l a pre) (hl : ¬ a < l.length) : pre.map (·.1) = its (p16 big l) 0 := by
  have e : l.drop a = [] := List.drop_eq_nil_of_le (by omega)
  rw [h.it, e]; simp [p16_nil, its]
/-- What a round keeps: whatever lay below n₀, and the boxes of the bytes and of their order. -/
def KpU (n₀ Bs Bg : Nat) (W W' : World) : Prop := Below n₀ W W' ∧ W'.heap[Bs]? = W.heap[Bs]? ∧ W'.heap[Bg]? = W.heap[Bg]?
theorem KpU.refl (n₀ Bs Bg : Nat) (W : World) : KpU n₀ Bs Bg W W := ⟨Below.refl _ _, rfl, rfl⟩
theorem KpU.trans {n₀ Bs Bg : Nat} {A B C : World} (h : KpU n₀ Bs Bg A B) (k : KpU n₀ Bs Bg B C) : KpU n₀ Bs Bg A C := ⟨h.1.trans k.1, k.2.1.trans h.2.1, k.2.2.trans h.2.2⟩
theorem KpU.cell {n₀ Bs Bg : Nat} {A B : World} (h : KpU n₀ Bs Bg A B) : B.cell? ⟨Bs, 0, none⟩ = A.cell? ⟨Bs, 0, none⟩ := World.cell?_of_block h.2.1
theorem KpU.cell2 {n₀ Bs Bg : Nat} {A B : World} (h : KpU n₀ Bs Bg A B) : B.cell? ⟨Bg, 0, none⟩ = A.cell? ⟨Bg, 0, none⟩ := World.cell?_of_block h.2.2
theorem KpU.drew {n₀ Bs Bg : Nat} {A B : World} (h : Drew A B) : KpU n₀ Bs Bg A B := ⟨h.below _, by rw [h.heap], by rw [h.heap]⟩
theorem kpU_b {n₀ Bs Bg : Nat} {w : World} (hn : n₀ ≤ w.heap.size) (hB : Bs < w.heap.size) (hB2 : Bg < w.heap.size) (W : World) (l : Nat) (o o' : Obj) (hl : w.heap.size ≤ l) (h : W.heap[l]? = some o) (h1 : o.isCells = false) (h2 : o.isWalk = false) : KpU n₀ Bs Bg W (W.putObj l o') :=
  ⟨belowK_b hn W l o o' hl h h1 h2, World.putObj_heap_other (by omega), World.putObj_heap_other (by omega)⟩
theorem Drew.grown {w w' : World} (h : Drew w w') (row : Option Nat) : w.grownBy w' row := by
  obtain ⟨n, rfl⟩ := h; exact ⟨rfl, rfl, rfl, Nat.le_refl _, fun _ _ _ => rfl⟩
set_option maxRecDepth 100000 in
set_option maxHeartbeats 2000000 in
theorem scalarsU1_in (n : Nat) (hn : 1 ≤ n) (lp Bs Bg n₀ : Nat) (s : ByteArray) (big : Bool) (hs : s.size ≤ 100000) (h2 : 6 < n₀) (J Jx : List Item → World → Prop) (W : World) (hab : AbidesFrom W.heap.size J)
    (hY : ∀ pre x W, J pre W → pre.length < s.size → YieldAt Fence.wide (n - 1) Tryz.prog lp (encI x) W fun e W' =>
      (e = .returned (.bool true) ∧ J (pre ++ [x]) W' ∧ KpU n₀ Bs Bg W W') ∨ (e = .returned (.bool false) ∧ Jx (pre ++ [x]) W'))
    (hn0 : n₀ ≤ W.heap.size) (hBs : W.cell? ⟨Bs, 0, none⟩ = some (.string s)) (hBg : W.cell? ⟨Bg, 0, none⟩ = some (.bool big)) (h0 : J [] W) :
    CallsIn Fence.wide n Tryz.prog 158 #[.func (.yield lp) #[] #[], .pointer (some ⟨Bs, 0, none⟩), .pointer (some ⟨Bg, 0, none⟩)] W fun e W' => (∃ v, e = .returned v) ∧
      ((∃ ys : List Item, ys.map (·.1) = its (p16 big s.data.toList) 0 ∧ J ys W') ∨ (∃ pre : List Item, (∃ t, its (p16 big s.data.toList) 0 = pre.map (·.1) ++ t) ∧ Jx pre W')) := by
  have hsz : s.data.toList.length = s.size := by simp
  obtain ⟨l, HL⟩ : ∃ l, Hid (s.data.toList = l) := ⟨_, Lib.hid rfl⟩
  have HSZ : Hid (l.length = s.size) := Lib.hid (by rw [← HL.out]; exact hsz)
  rw [HL.out]
  have HAB := Lib.hid hab
  clear hsz hab
  refine callsIn_of_wp Tryz.func158 rfl trivial ?_ rfl
  simp only [Tryz.ntmps158, List.size_toArray, List.length_cons, List.length_nil, Nat.reduceAdd, Nat.reduceSub, Array.replicate_succ, Array.replicate_zero, List.push_toArray, List.append_toArray, List.nil_append, List.cons_append]
  gi_wp2
  gi_loopw [4] (fun q4 wr => ∃ (a : Nat) (pre : List Item), q4 = .int .i64 a ∧ Hid (ItU big l a pre) ∧ Hid (J pre wr) ∧ Hid (KpU n₀ Bs Bg W wr))
    (fun q4 _ => s.size - (intOf q4).toNat)
  case atStart => exact ⟨0, [], rfl, Lib.hid (ItU.start _ _), Lib.hid h0, Lib.hid (KpU.refl _ _ _ _)⟩
  case round =>
    obtain ⟨a, pre, rfl, HA, HJ, HB⟩ := hrel
    have hale : a ≤ s.size := by have := HA.out.le; rw [HSZ.out] at this; exact this
    have hcs : wr.cell? ⟨Bs, 0, none⟩ = some (.string s) := HB.out.cell.trans hBs
    have hcg : wr.cell? ⟨Bg, 0, none⟩ = some (.bool big) := HB.out.cell2.trans hBg
    by_cases hlt : a < s.size
    · obtain ⟨r, n2, hd⟩ : ∃ r n, d16 big (l.drop a) = (r, n) := ⟨_, _, rfl⟩
      have hrd := read16_any s a big wr hlt hs
      unfold Rd16S at hrd
      rw [HL.out, hd] at hrd
      have Hrd := Lib.hid hrd
      have hrc : r = -1 ∨ isB r = true := by have := d16_is big (l.drop a); rw [hd] at this; exact this
      obtain ⟨x, hx⟩ : ∃ x : Item, x.1 = (a, r) := ⟨⟨(a, r), by omega, hrc⟩, rfl⟩
      have HS := Lib.hid (HA.out.step (by rw [HSZ.out]; exact hlt) hd x hx)
      have h1 : 1 ≤ n2 := by have := (d16_pos big (l.drop a)).1; rw [hd] at this; exact this
      have h4 : n2 ≤ 4 := by have := (d16_pos big (l.drop a)).2; rw [hd] at this; exact this
      have h3 : a + n2 ≤ s.size := by have := HS.out.le; rw [HSZ.out] at this; exact this
      have he : encI x = #[.int .i64 (a : Int), .int .i64 r] := by unfold encI; rw [hx]
      have hY2 : ∀ w2, Drew wr w2 → YieldAt Fence.wide (n - 1) Tryz.prog lp #[.int .i64 (a : Int), .int .i64 r] w2 fun e W' =>
          (e = .returned (.bool true) ∧ J (pre ++ [x]) W' ∧ KpU n₀ Bs Bg w2 W') ∨ (e = .returned (.bool false) ∧ Jx (pre ++ [x]) W') := fun w2 hd2 => by
        have := hY pre x w2 (HAB.out _ _ _ none HJ.out (hd2.grown none) (fun r e => by cases e)) (by have := HA.out.few; omega)
        rwa [he] at this
      have HY2 := Lib.hid hY2
      clear hx hrd hd hrc he hY2
      gi_wp2_with (refine ⟨trivial, ?_⟩; gi_at_call 159; refine (callsIn_wide.2 Hrd.out).mono ?_; rintro e w2 ⟨rfl, hd2⟩; have HD2 := Lib.hid hd2; obtain ⟨fn, tmps, assign, body, hy, hR⟩ := HY2.out w2 hd2; clear hd2 Hrd)
      refine hR.mono ?_
      rintro e W3 (⟨rfl, hJ3, hk3⟩ | ⟨rfl, hJx3⟩)
      · have HJ3 := Lib.hid hJ3
        have HB3 : Hid (KpU n₀ Bs Bg W W3) := Lib.hid ((HB.out.trans (KpU.drew HD2.out)).trans hk3)
        clear hJ3
        gi_wp2
        go_roundw
        case rel => exact ⟨a + n2, _, by go_num, HS, HJ3, HB3⟩
        case measure => simp [intOf]; omega
      · gi_wp2
        refine bodyPost_ret (results_none rfl _ _ _) rfl ?_
        exact ⟨⟨_, rfl⟩, .inr ⟨_, ⟨_, HS.out.it⟩, hJx3⟩⟩
    · have HE := Lib.hid (HA.out.done (by rw [HSZ.out]; exact hlt))
      gi_wp2
      go_end0
      exact ⟨⟨_, rfl⟩, .inl ⟨_, HE.out, HJ.out⟩⟩
set_option maxHeartbeats 1000000 in
theorem scalarsU_in (n : Nat) (s : ByteArray) (big : Bool) (w : World) :
    CallsIn Fence.wide n Tryz.prog 128 #[.string s, .bool big] w fun e w' => e = .returned (.func (.func 158) #[] #[.pointer (some ⟨w.heap.size, 0, none⟩), .pointer (some ⟨w.heap.size + 1, 0, none⟩)]) ∧ w' = (w.alloc (.cells #[.string s] 9)).alloc (.cells #[.bool big] 4) := by
  refine callsIn_of_wp Tryz.func128 rfl trivial ?_ rfl
  simp only [Tryz.ntmps128, List.size_toArray, List.length_cons, List.length_nil, Nat.reduceAdd, Nat.reduceSub, Array.replicate_succ, Array.replicate_zero, List.push_toArray, List.append_toArray, List.nil_append, List.cons_append]
  gi_wp2
  go_ret
  exact ⟨rfl, rfl⟩
theorem scalarsU_stops (n : Nat) (hn : 1 ≤ n) (Bs Bg n₀ : Nat) (s : ByteArray) (big : Bool) (hs : s.size ≤ 100000) (w : World) (h2 : 6 < n₀) (hBs : Bs < w.heap.size) (hBg : Bg < w.heap.size) (hn₀ : n₀ ≤ w.heap.size)
    (hc : w.cell? ⟨Bs, 0, none⟩ = some (.string s)) (hc2 : w.cell? ⟨Bg, 0, none⟩ = some (.bool big)) :
    SeqStopsK Fence.wide n Tryz.prog 158 #[.pointer (some ⟨Bs, 0, none⟩), .pointer (some ⟨Bg, 0, none⟩)] encI (KpU n₀ Bs Bg) (fun ys : List Item => ys.map (·.1) = its (p16 big s.data.toList) 0)
      (fun pre : List Item => ∃ t, its (p16 big s.data.toList) 0 = pre.map (·.1) ++ t) s.size w := fun l J Jx W hW hab _ hY h0 =>
  scalarsU1_in n hn l Bs Bg n₀ s big hs h2 J Jx W hab hY (Nat.le_trans hn₀ hW.size) ((hW.cell (p := ⟨Bs, 0, none⟩) hBs).trans hc) ((hW.cell (p := ⟨Bg, 0, none⟩) hBg).trans hc2) h0
theorem sU_its (big : Bool) (l : List UInt8) : s16 big l = (its (p16 big l) 0).map (·.2) := by
  unfold s16; rw [its_map]
end Go.Proofs.YtppabkllconkjaaGreatDoor.U
/- The contracts of utf16.Valid and Decode: ranges over the iterator. -/
namespace Go.Proofs.YtppabkllconkjaaGreatDoor.U
open Go.RowKit Go.Shelf
set_option linter.unusedVariables false
set_option linter.unusedSimpArgs false
set_option maxRecDepth 100000
attribute [local go_sem] Oper.semAt_some
theorem wpListIn_append_lies {F : Fence} {n : Nat} {P : Program} (w : World) {ops : Array Oper} {rest : List Oper} {o : Oper} {a : Act} {Q : Exit → Act → World → Prop}
    (hg : o.guard = none) (s x : Operand) (t : TypeId) (hop : o.op = Op.call { callee := Callee.builtin Builtin.append, args := #[s, x], argTypes := #[t, t] })
    (base : Nat) (e : TypeId) (i : TypeInfo) (z : Value) (size bytes : Nat) (h1 : P.underlying t = some (.slice e)) (h2 : P.info? e = some i) (h3 : i.zero = some z) (h4 : i.size = size) (h5 : i.bytes = bytes) (h6 : z.cells.size = size) (h7 : 0 < size)
    (v : Value) (k : Nat) (xs : List Value) (hs : a.eval s = v) (hown : w.ownsRow base e size v k xs) (ad : Addr) (m c : Nat) (news : List Value) (hx : a.eval x = .slice (some ad) m c) (hn : news.length = m * size)
    (hc : ∀ j u, news[j]? = some u → w.cell? (ad.add j) = some u) (h1c : ∀ u ∈ news, u.oneCell' = true) (b0 : 0 < m) (b1 : k + m ≤ maxLen) (b2 : (k + m) * bytes ≤ 140737488355328) (b3 : base ≤ w.heap.size) (H : Nat) (hH : w.heap.size = H)
    (hK : ∀ g cap w', w'.ownsRow base e size (.slice (some ⟨g, 0, none⟩) (k + m) cap) (k + m) (xs ++ news) → w.grownBy w' v.ownBlock → (v.ownBlock = some g ∨ g = H) → g < w'.heap.size → wpListIn F n P ops Q rest (a.put o.dst (.slice (some ⟨g, 0, none⟩) (k + m) cap)) w') :
    wpListIn F n P ops Q (o :: rest) a w := by
  refine wpListIn_plain hg fun K hK' => ?_
  obtain ⟨g, cap, w', hrun, r1, r2, r3, r4⟩ := run_append_lies (P := P) w t o.type base e i z size bytes h1 h2 h3 h4 h5 h6 h7 v k xs hown ad m c news hn hc h1c b0 b1 b2 b3 H hH
  unfold Oper.wpIn
  refine ⟨?_, ?_⟩
  · simp [Oper.about, hop, resolve, Target.leads, Sem.run_pure]
  · rw [Oper.semAt_plain F _ _ (by rw [hop]; intro c hc'; cases hc')]
    simp [execOp, hop, resolve, invoke, builtin, hs, hx, hrun, Result.andThen]
    exact hK' _ _ (hK g cap w' r1 r2 r3 r4)
/-- Two variables' boxes, each holding a slice of numbers of its own. -/
structure TwoRows (W : World) (n₀ A B : Nat) (xs ys : List Int) (u v : Value) : Prop where
  ba : Boxed W A 74 u
  bb : Boxed W B 74 v
  ra : W.ownsRow n₀ 3 1 u xs.length (xs.map (Value.int .i64))
  rb : W.ownsRow n₀ 3 1 v ys.length (ys.map (Value.int .i64))
  ne : ∀ g, u.ownBlock = some g → v.ownBlock ≠ some g
theorem TwoRows.symm {W : World} {n₀ A B : Nat} {xs ys : List Int} {u v : Value} (h : TwoRows W n₀ A B xs ys u v) : TwoRows W n₀ B A ys xs v u :=
  ⟨h.bb, h.ba, h.rb, h.ra, fun g e e2 => h.ne g e2 e⟩
theorem TwoRows.app {W w1 : World} {n₀ A B : Nat} {xs ys : List Int} {u v : Value} (h : TwoRows W n₀ A B xs ys u v) (hn₀ : n₀ ≤ W.heap.size) (hB : n₀ ≤ B) (hAB : A ≠ B) {tmp : Obj} {g cap : Nat} {y : Int}
    (hown : w1.ownsRow n₀ 3 1 (.slice (some ⟨g, 0, none⟩) (ys.length + 1) cap) (ys.length + 1) (ys.map (Value.int .i64) ++ [.int .i64 y]))
    (hgrow : (W.alloc tmp).grownBy w1 v.ownBlock) (hat : v.ownBlock = some g ∨ g = W.heap.size + 1) :
    (w1.cell? ⟨B, 0, none⟩ = some v ∧ w1.frozen? ⟨B, 0, none⟩ = false) ∧ TwoRows (w1.setCell ⟨B, 0, none⟩ (.slice (some ⟨g, 0, none⟩) (ys.length + 1) cap)) n₀ A B xs (ys ++ [y]) u (.slice (some ⟨g, 0, none⟩) (ys.length + 1) cap) ∧
      KeepsOthers W (w1.setCell ⟨B, 0, none⟩ (.slice (some ⟨g, 0, none⟩) (ys.length + 1) cap)) ∧ Below n₀ W (w1.setCell ⟨B, 0, none⟩ (.slice (some ⟨g, 0, none⟩) (ys.length + 1) cap)) ∧
      ∀ (C : Nat) (t : TypeId) (z : Value), t ≠ 3 → C ≠ B → Boxed W C t z → Boxed (w1.setCell ⟨B, 0, none⟩ (.slice (some ⟨g, 0, none⟩) (ys.length + 1) cap)) C t z := by
  obtain ⟨b1, b2, b3, b4, b5⟩ := h.bb.appended (by decide) h.rb hn₀ hB hown hgrow
  have hoth : ∀ (C : Nat) (t : TypeId) (z : Value), t ≠ 3 → C ≠ B → Boxed W C t z → Boxed (w1.setCell ⟨B, 0, none⟩ (.slice (some ⟨g, 0, none⟩) (ys.length + 1) cap)) C t z := fun C t z ht hC hz =>
    ((hz.alloc tmp).kept hgrow (hz.not_row ht h.rb)).other hC _
  refine ⟨⟨b1.cell, b1.frozen⟩, ⟨hoth A 74 u (by decide) hAB h.ba, b2, ?_, ?_, ?_⟩, b4, b5, hoth⟩
  · refine ownsRow_setCell ((h.ra.alloc tmp).kept hgrow ?_) b1 (by decide) _
    cases hu : u.ownBlock with
    | none => exact .inl rfl
    | some k => exact .inr (fun e => h.ne k hu e.symm)
  · rw [List.length_append, List.map_append]; exact b3
  · intro k hk e
    have : g = k := by simpa [Value.ownBlock] using e
    subst this
    rcases hat with h1 | h1
    · exact h.ne g hk h1
    · have := (World.ownsRow.lt h.ra g hk).2
      omega
theorem TwoRows.grown {X Y : World} {row : Option Nat} {n₀ A B : Nat} {xs ys : List Int} {u v : Value} (h : TwoRows X n₀ A B xs ys u v) (hg : X.grownBy Y row) (hrow : ∀ r, row = some r → ∃ o : Obj, X.heap[r]? = some o ∧ o.isCells = false) : TwoRows Y n₀ A B xs ys u v := by
  have hb : ∀ {C : Nat} {t : TypeId} {z : Value}, Boxed X C t z → Boxed Y C t z := fun {C t z} hv => hv.kept hg (fun e' => by
    obtain ⟨o, ho, hc⟩ := hrow C e'.symm
    rw [show X.heap[C]? = _ from hv] at ho; cases ho; cases hc)
  have hr : ∀ {z : Value} {k : Nat} {zs : List Value}, X.ownsRow n₀ 3 1 z k zs → Y.ownsRow n₀ 3 1 z k zs := fun {z k zs} hz => hz.kept hg (by
    rcases hz.2 with ⟨rfl, _⟩ | ⟨g, cap, cur, rfl, _, hgb, _⟩
    · exact .inl rfl
    · refine .inr fun e' => ?_
      obtain ⟨o, ho, hc⟩ := hrow g (by simpa [Value.ownBlock] using e'.symm)
      rw [hgb] at ho; cases ho; cases hc)
  exact ⟨hb h.ba, hb h.bb, hr h.ra, hr h.rb, h.ne⟩
theorem two_own {β : Type} (n₀ A B : Nat) (f g : β → List Int) : Own (fun s W => ∃ u v, TwoRows W n₀ A B (f s) (g s) u v) := by
  rintro s X Y row ⟨u, v, h⟩ hg hrow
  exact ⟨u, v, h.grown hg hrow⟩
def badI (pre : List Item) : List Int := (pre.filter fun x => x.1.2 == -1).map fun x => (x.1.1 : Int)
def fixI (pre : List Item) : List Int := pre.map fun x => fixR x.1.2
theorem badI_bad (pre : List Item) (x : Item) (h : x.1.2 = -1) : badI (pre ++ [x]) = badI pre ++ [(x.1.1 : Int)] := by
  unfold badI; rw [List.filter_append, List.map_append]; simp [h]
theorem badI_good (pre : List Item) (x : Item) (h : ¬ x.1.2 = -1) : badI (pre ++ [x]) = badI pre := by
  unfold badI; rw [List.filter_append, List.map_append]; simp [h]
theorem fixI_snoc (pre : List Item) (x : Item) : fixI (pre ++ [x]) = fixI pre ++ [fixR x.1.2] := by unfold fixI; simp
theorem badI_len (pre : List Item) : (badI pre).length ≤ pre.length := by
  unfold badI; rw [List.length_map]; exact List.length_filter_le _ _
theorem fixI_len (pre : List Item) : (fixI pre).length = pre.length := by unfold fixI; simp
theorem its_bds : ∀ (ps : List (Int × Nat)) (a : Nat), ((its ps a).filter fun p => p.2 == -1).map (fun p => (p.1 : Int)) = bds ps a
  | [], _ => rfl
  | p :: t, a => by
    by_cases h : p.1 = -1
    · rw [bds_bad h]; simp only [its]; rw [List.filter_cons_of_pos (by simp [h]), List.map_cons, its_bds t]
    · rw [bds_good h]; simp only [its]; rw [List.filter_cons_of_neg (by simp [h]), its_bds t]
theorem bad_items {big : Bool} {l : List UInt8} {ys : List Item} (h : ys.map (·.1) = its (p16 big l) 0) : badI ys = b16 big l := by
  unfold b16; rw [← its_bds, ← h, List.filter_map, List.map_map]; rfl
theorem fix_items {big : Bool} {l : List UInt8} {ys : List Item} (h : ys.map (·.1) = its (p16 big l) 0) : fixI ys = x16 big l := by
  unfold x16; rw [sU_its, ← h, List.map_map, List.map_map]; rfl
end Go.Proofs.YtppabkllconkjaaGreatDoor.U
/- The contract of utf16.Decode. -/
namespace Go.Proofs.YtppabkllconkjaaGreatDoor.U
open Go.RowKit Go.Shelf
set_option linter.unusedVariables false
set_option linter.unusedSimpArgs false
set_option maxRecDepth 100000
attribute [local go_sem] Oper.semAt_some
def Dec16S (w : World) (big : Bool) (l : List UInt8) (e : Ending) (w' : World) : Prop :=
  ∃ v, e = .returned (.tuple #[.string (str (t16 big l)), v]) ∧ OwnI w' w.heap.size v (b16 big l) ∧ Below w.heap.size w w'
theorem cell_one_at (w : World) (x : Value) (t : TypeId) (H : Nat) (hH : w.heap.size = H) : ∀ j u, [x][j]? = some u → (w.alloc (.cells #[x] t)).cell? ((⟨H, 0, none⟩ : Addr).add j) = some u := by
  subst hH; exact cell_one_new w x t
set_option maxRecDepth 100000 in
set_option maxHeartbeats 4000000 in
theorem decode_any (s : ByteArray) (big : Bool) (w : World) (hg : Gl w) (hs : s.size ≤ 10000) : Calls Tryz.prog 96 #[.string s, .bool big] w fun e w' => Dec16S w big s.data.toList e w' := by
  obtain ⟨i0, hi, hz0, hz1, hz2⟩ := info_parts info3
  refine (callsIn_wide (n := 5)).1 ?_
  have h2 := hg.size
  have HGw := Lib.hid hg
  have hfew := Lib.hid (t16_few big _ s.data.toList (Nat.le_refl _))
  refine callsIn_of_wp_marks Tryz.func96 rfl trivial ?_ rfl
  simp only [Tryz.ntmps96, List.size_toArray, List.length_cons, List.length_nil, Nat.reduceAdd, Nat.reduceSub, Array.replicate_succ, Array.replicate_zero, List.push_toArray, List.append_toArray, List.nil_append, List.cons_append]
  gi_wp2_with (refine ⟨trivial, ?_⟩; gi_at_call 128; refine (scalarsU_in _ s big _).mono ?_; rintro e w' ⟨rfl, rfl⟩)
  have bR := Boxed.new w 74 (.slice none 0 0)
  have bL := Boxed.new (w.alloc (.cells #[.slice none 0 0] 74)) 74 (.slice none 0 0)
  rw [World.size_alloc] at bL
  have bN := Boxed.new ((w.alloc (.cells #[.slice none 0 0] 74)).alloc (.cells #[.slice none 0 0] 74)) 9 (.string s)
  rw [World.size_alloc, World.size_alloc] at bN
  have bG := Boxed.new (((w.alloc (.cells #[.slice none 0 0] 74)).alloc (.cells #[.slice none 0 0] 74)).alloc (.cells #[.string s] 9)) 4 (.bool big)
  rw [World.size_alloc, World.size_alloc, World.size_alloc] at bG
  have hB0 : Below w.heap.size w ((((w.alloc (.cells #[.slice none 0 0] 74)).alloc (.cells #[.slice none 0 0] 74)).alloc (.cells #[.string s] 9)).alloc (.cells #[.bool big] 4)) := ((((Below.refl _ w).alloc (Nat.le_refl _) _).alloc (by simp) _).alloc (by simp; omega) _).alloc (by simp; omega) _
  refine wpIn_rangeFunc_ownG rfl (by omega) (gf := 158) (lb := #[.pointer (some ⟨w.heap.size + 1 + 1, 0, none⟩), .pointer (some ⟨w.heap.size + 1 + 1 + 1, 0, none⟩)]) rfl trivial (enters_of Tryz.func158 (by kernel_rfl) rfl)
    (scalarsU_stops 4 (by omega) (w.heap.size + 1 + 1) (w.heap.size + 1 + 1 + 1) w.heap.size s big (by omega) _ (by omega) (by first | (simp; done) | (simp; omega)) (by first | (simp; done) | (simp; omega)) (by first | (simp; done) | (simp; omega)) (bN.alloc _).cell bG.cell) KpU.trans (kpU_b (by first | (simp; done) | (simp; omega)) (by first | (simp; done) | (simp; omega)) (by first | (simp; done) | (simp; omega))) (Below.refl _ _) (fun _ => rfl)
    (fun pre W => (∃ u v, TwoRows W w.heap.size w.heap.size (w.heap.size + 1) (badI pre) (fixI pre) u v) ∧ Boxed W (w.heap.size + 1 + 1) 9 (.string s) ∧ Boxed W (w.heap.size + 1 + 1 + 1) 4 (.bool big) ∧ Below w.heap.size w W)
    (fun _ _ _ => False)
    (OwnFrom.and (Own.from (two_own w.heap.size w.heap.size (w.heap.size + 1) badI fixI) _) (OwnFrom.and (Own.from (boxed_own _ _ _) _) (OwnFrom.and (Own.from (boxed_own _ _ _) _) (ownFrom_below (Nat.le_refl _) (by simp; omega)))))
    (fun _ _ _ _ _ hs _ _ => hs)
    ⟨⟨_, _, ⟨((bR.alloc _).alloc _).alloc _, (bL.alloc _).alloc _, World.ownsRow_nil _ _ _ _, World.ownsRow_nil _ _ _ _, fun g e => by cases e⟩⟩, bN.alloc _, bG, hB0⟩
    (fun x => { tmps := #[.string s, .bool big, undef, undef, .string { data := #[] }, .pointer (some ⟨w.heap.size, 0, none⟩), .pointer (some ⟨w.heap.size + 1, 0, none⟩), .int .i64 (x.1.1 : Int), .int .i64 x.1.2, .string s, .bool big, .func (.func 158) #[] #[.pointer (some ⟨w.heap.size + 1 + 1, 0, none⟩), .pointer (some ⟨w.heap.size + 1 + 1 + 1, 0, none⟩)], .int .i64 (x.1.1 : Int), .int .i64 x.1.2, undef, undef, undef, undef, undef, undef, undef, undef, undef, undef, undef, undef, undef, undef, undef, undef, undef], defers := [] }) ?assign ?body ?done ?stop
  case assign =>
    intro l x W K hK
    simp only [encI]
    gi_wp2
    exact hK
  case body =>
    rintro l pre x W ⟨⟨u, v, hT⟩, hN, hG, hB⟩ hlt
    have HB := Lib.hid hB
    have hwz := hB.size
    have HT := Lib.hid hT
    have HN := Lib.hid hN
    have HG := Lib.hid hG
    have ca := hT.ba.cell
    have cb := hT.bb.cell
    have hbl := badI_len pre
    have hfl : (fixI pre).length ≤ pre.length := Nat.le_of_eq (fixI_len pre)
    clear hB hT hN hG
    by_cases hx : x.1.2 = -1
    · have hxb : (x.1.2 == -1) = true := by simpa using hx
      have HX := Lib.hid (badI_bad pre x hx)
      have HF : Hid (fixI (pre ++ [x]) = fixI pre ++ [65533]) := Lib.hid (by rw [fixI_snoc, hx]; rfl)
      clear hx
      gi_wp2_with (first
        | (gi_at_builtin; refine wpListIn_append_lies _ rfl _ _ 74 rfl w.heap.size 3 i0 (.int .i64 0) 1 8 Tryz.underlying74 hi hz0 hz1 hz2 rfl (by decide) u (badI pre).length ((badI pre).map (Value.int .i64)) rfl (HT.out.ra.alloc _) ⟨W.heap.size, 0, none⟩ 1 1 [.int .i64 (x.1.1 : Int)] rfl rfl (cell_one_new _ _ _) (by simp [Value.oneCell']) (by omega) (by unfold maxLen; omega) (by omega) (by simp; omega) (W.heap.size + 1) (by simp) ?_; intro g1 cap1 w1 hown1 hgrow1 hat1 hlt1; obtain ⟨⟨c1, f1⟩, t1, k1, b1, o1⟩ := HT.out.symm.app (by omega) (by omega) (by omega) hown1 hgrow1 hat1; have HT1 := Lib.hid t1.symm; have K1 := Lib.hid k1; have B1 := Lib.hid b1; have O1 := Lib.hid o1; have cb1 := t1.ba.cell; have hwz1 : W.heap.size ≤ w1.heap.size := (by have := b1.size; simpa using this); clear hown1 hgrow1 hat1 t1 k1 b1 o1)
        | (gi_at_builtin; refine wpListIn_append_lies _ rfl _ _ 74 rfl w.heap.size 3 i0 (.int .i64 0) 1 8 Tryz.underlying74 hi hz0 hz1 hz2 rfl (by decide) v (fixI pre).length ((fixI pre).map (Value.int .i64)) rfl (HT1.out.rb.alloc _) ⟨w1.heap.size, 0, none⟩ 1 1 [.int .i64 65533] rfl rfl (cell_one_at _ _ _ _ (by simp)) (by simp [Value.oneCell']) (by omega) (by unfold maxLen; omega) (by omega) (by simp; omega) (w1.heap.size + 1) (by simp) ?_; intro g2 cap2 w2 hown2 hgrow2 hat2 hlt2; obtain ⟨⟨c2, f2⟩, t2, k2, b2, o2⟩ := HT1.out.app (by simp; omega) (by omega) (by omega) hown2 hgrow2 (by simpa using hat2); have HT2 := Lib.hid t2; have K2 := Lib.hid k2; have B2 := Lib.hid b2; have O2 := Lib.hid o2; clear hown2 hgrow2 hat2 t2 k2 b2 o2))
      have KN := Lib.hid (O2.out _ 9 _ (by decide) (by omega) (O1.out (w.heap.size + 1 + 1) 9 _ (by decide) (by omega) HN.out))
      have KG := Lib.hid (O2.out _ 4 _ (by decide) (by omega) (O1.out (w.heap.size + 1 + 1 + 1) 4 _ (by decide) (by omega) HG.out))
      refine ⟨(K1.out.trans K2.out).from _, ⟨B1.out.trans B2.out, KN.out.trans HN.out.symm, KG.out.trans HG.out.symm⟩, ⟨_, _, by rw [HX.out, HF.out]; exact HT2.out⟩, KN.out, KG.out, (HB.out.trans B1.out).trans B2.out⟩
    · have hxb : (x.1.2 == -1) = false := by simpa using hx
      have HX := Lib.hid (badI_good pre x hx)
      have HF : Hid (fixI (pre ++ [x]) = fixI pre ++ [x.1.2]) := Lib.hid (by rw [fixI_snoc]; unfold fixR; rw [if_neg hx])
      clear hx
      gi_wp2_with (gi_at_builtin; refine wpListIn_append_lies _ rfl _ _ 74 rfl w.heap.size 3 i0 (.int .i64 0) 1 8 Tryz.underlying74 hi hz0 hz1 hz2 rfl (by decide) v (fixI pre).length ((fixI pre).map (Value.int .i64)) rfl (HT.out.rb.alloc _) ⟨W.heap.size, 0, none⟩ 1 1 [.int .i64 x.1.2] rfl rfl (cell_one_new _ _ _) (by simp [Value.oneCell']) (by omega) (by unfold maxLen; omega) (by omega) (by simp; omega) (W.heap.size + 1) (by simp) ?_; intro g2 cap2 w2 hown2 hgrow2 hat2 hlt2; obtain ⟨⟨c2, f2⟩, t2, k2, b2, o2⟩ := HT.out.app (by omega) (by omega) (by omega) hown2 hgrow2 hat2; have HT2 := Lib.hid t2; have K2 := Lib.hid k2; have B2 := Lib.hid b2; have O2 := Lib.hid o2; clear hown2 hgrow2 hat2 t2 k2 b2 o2)
      have KN := Lib.hid (O2.out (w.heap.size + 1 + 1) 9 _ (by decide) (by omega) HN.out)
      have KG := Lib.hid (O2.out (w.heap.size + 1 + 1 + 1) 4 _ (by decide) (by omega) HG.out)
      refine ⟨K2.out.from _, ⟨B2.out, KN.out.trans HN.out.symm, KG.out.trans HG.out.symm⟩, ⟨_, _, by rw [HX.out, HF.out]; exact HT2.out⟩, KN.out, KG.out, HB.out.trans B2.out⟩
  case done =>
    rintro D ys W hD hy ⟨⟨u, v, hT⟩, hN, hG, hB⟩ hK
    have HBI := Lib.hid (bad_items hy)
    have HFI := Lib.hid (fix_items hy)
    have hwz := hB.size
    have hDl : D < W.heap.size := (Array.getElem?_eq_some_iff.1 hK).1
    have HK := Lib.hid hK
    have HT := Lib.hid hT
    have HB := Lib.hid hB
    obtain ⟨p, cap, rfl⟩ := own_form hT.rb
    obtain ⟨p2, cap2, rfl⟩ := own_form hT.ra
    have ca := hT.ba.cell
    have cb := hT.bb.cell
    have hd1 : w.heap.size + 1 < D := by simp at hD; omega
    have hdl : w.heap.size ≤ D := by omega
    have hx : allB (fixI ys) = true := by rw [fix_items hy]; exact x16_all _ _
    have hfl : (fixI ys).length ≤ 10000 := by rw [fix_items hy]; have := hfew.out; have e : s.data.toList.length = s.size := by simp
                                              omega
    have hTx := text_any _ (fixI ys) W (HGw.out.below' hB) (ints_of_own hT.rb) hfl
    unfold TextS at hTx
    rw [hx, if_pos rfl] at hTx
    have HTx := Lib.hid hTx
    clear hy hB hT hN hG hK hx hfl hTx
    gi_wp2_with (refine ⟨trivial, ?_⟩; gi_at_call 129; refine (callsIn_wide.2 HTx.out).mono ?_; rintro e w1 ⟨rfl, hb1⟩; have HB1 := Lib.hid hb1; have ca1 := (hb1.cell (p := ⟨w.heap.size, 0, none⟩) HT.out.ba.lt).trans ca; have HT1 : Hid (Boxed w1 w.heap.size 74 (.slice p2 (badI ys).length cap2)) := Lib.hid ((hb1.block _ HT.out.ba.lt).trans HT.out.ba); have cf1 := HT1.out.frozen; clear hb1)
    gi_region
    all_goals gi_wp2
    have hKw1 : w1.heap[D]? = some (.deferred (some [])) := (HB1.out.block _ hDl).trans HK.out
    have hrow1 : w1.ownsRow w.heap.size 3 1 (.slice p2 (badI ys).length cap2) (badI ys).length ((badI ys).map (Value.int .i64)) := World.ownsRow.kept HT.out.ra (row := none) ⟨HB1.out.os, HB1.out.tape, HB1.out.output, HB1.out.size, fun j hj _ => HB1.out.block j hj⟩ (by cases (Value.slice p2 (badI ys).length cap2).ownBlock <;> simp)
    have hrow2 : ((w1.setCell ⟨w.heap.size, 0, none⟩ (.slice p2 (badI ys).length cap2)).drew).ownsRow w.heap.size 3 1 (.slice p2 (badI ys).length cap2) (badI ys).length ((badI ys).map (Value.int .i64)) := (ownsRow_setCell hrow1 HT1.out (by decide) _).drew
    have hK' : ((w1.setCell ⟨w.heap.size, 0, none⟩ (.slice p2 (badI ys).length cap2)).drew).heap[D]? = some (.deferred (some [])) := (KeepsOthers.setCell w1 ⟨w.heap.size, 0, none⟩ (.slice p2 (badI ys).length cap2)).same D _ hKw1 rfl
    refine ⟨by simp, .inl ⟨_, _, rfl, run_takeDeferred hK', ?_⟩⟩
    have h0 := (boxed_putObj (W := (w1.setCell ⟨w.heap.size, 0, none⟩ (.slice p2 (badI ys).length cap2)).drew) (HT1.out.set (.slice p2 (badI ys).length cap2)) (.deferred none) (show w.heap.size ≠ D by omega)).cell
    refine ⟨.tuple #[.string (str (encs (fixI ys))), .slice p2 (badI ys).length cap2], ?_, ⟨_, by rw [HFI.out]; rfl, ?_, ?_⟩⟩
    · simp [results, Tryz.f96, go_sem, h0]
    · rw [← HBI.out]; exact ownsRow_putObj hrow2 (.deferred none) hK' rfl
    · exact (((HB.out.trans (HB1.out.mono hwz)).setCell (p := ⟨w.heap.size, 0, none⟩) (Nat.le_refl _) _).drew).trans (belowK_b (w := w) (Nat.le_refl _) _ D _ _ hdl hK' rfl rfl)
  case stop =>
    rintro D c pre W _ _ h _
    exact h.elim
end Go.Proofs.YtppabkllconkjaaGreatDoor.U
/- The contracts of the document's own Valid, put, Encode, Units of layer 3. -/
namespace Go.Proofs.YtppabkllconkjaaGreatDoor.U
open Go.RowKit
set_option linter.unusedVariables false
set_option linter.unusedSimpArgs false
set_option maxRecDepth 100000
theorem Ints.form {w : World} {v : Value} {xs : List Int} (h : Ints w v xs) : ∃ p cap, v = .slice p xs.length cap := by
  rcases h with ⟨rfl, p, cap, rfl⟩ | ⟨b, off, cap, rfl, _⟩
  · exact ⟨p, cap, rfl⟩
  · exact ⟨_, cap, rfl⟩
theorem ok_or_len (l : List UInt8) (b : Bool) (h : okB l = b) : (if b = true then scl l else []).length ≤ l.length := by
  cases b with
  | false => simp
  | true =>
    obtain ⟨h1, h2⟩ := ok_back _ l (Nat.le_refl _) h
    rw [if_pos rfl]
    have : ∀ xs : List Int, allB xs = true → xs.length ≤ (encs xs).length := by
      intro xs
      induction xs with
      | nil => simp
      | cons x xs ih =>
        intro hx
        obtain ⟨a, b⟩ := (allB_cons x xs).1 hx
        rw [encs_cons]
        have := enc_pos a
        have := ih b
        simp only [List.length_append, List.length_cons]
        omega
    have := this _ h1
    rwa [h2] at this
theorem own8_app {w : World} {base : Nat} {v : Value} {xs : List UInt8} {a b : Int} {n : Nat} (h : w.ownsRow base 5 1 v n (xs.map u8v ++ [.int .u8 a, .int .u8 b])) (hn : n = xs.length + 2) (ha : 0 ≤ a) (ha1 : a < 256) (hb : 0 ≤ b) (hb1 : b < 256) : Own8 w base v (xs ++ [by8 a, by8 b]) := by
  unfold Own8
  rw [List.length_append, List.map_append]
  simp only [List.map_cons, List.map_nil, u8v]
  rw [by8_val ha ha1, by8_val hb hb1]
  subst hn
  exact h
def Put16S (w : World) (base : Nat) (v : Value) (ys : List UInt8) (e : Ending) (w' : World) : Prop :=
  ∃ v', e = .returned v' ∧ Own8 w' base v' ys ∧ w.grownBy w' v.ownBlock
theorem rput16_lo (v : Value) (base : Nat) (xs : List UInt8) (u : Int) (w : World) (hbase : base ≤ w.heap.size) (hown : Own8 w base v xs) (hlen : xs.length ≤ 100000) (h0 : 0 ≤ u) (h1 : u < 65536) :
    Calls Tryz.prog 69 #[v, .int .i64 u, .bool false] w fun e w' => Put16S w base v (xs ++ two false u) e w' := by
  obtain ⟨i0, hi, hz0, hz1, hz2⟩ := info_parts info5
  have HO := Lib.hid hown; clear hown
  have hw0 : IntKind.u8.wrap (u / 256) = u / 256 := by rw [IntKind.wrap_u8]; omega
  have hw1 : IntKind.u8.wrap (u % 256) = u % 256 := by rw [IntKind.wrap_u8]; omega
  go_enter Tryz.func69, Tryz.ntmps69
  go_wp2_with (at_builtin; refine wpList_append_lies _ rfl _ _ _ rfl base 5 i0 _ 1 1 Tryz.underlying99 hi hz0 hz1 hz2 rfl (by omega) v xs.length (xs.map u8v) rfl (World.ownsRow.alloc HO.out _) ⟨w.heap.size, 0, none⟩ 2 2 [_, _] rfl rfl (World.news_of_block (t := 5) (fr := (0, 0)) (heap_alloc_new w _)) (by simp [Value.oneCell']) (by omega) (by unfold maxLen; omega) (by omega) (by simp; omega) (w.heap.size + 1) (by simp) ?_; intro g1 cap1 w1 hown1 hgrow1 hat1 hlt1; have O1 := Lib.hid hown1; have G1 := Lib.hid hgrow1; clear hown1 hgrow1 hat1 hlt1)
  go_ret
  exact ⟨_, rfl, own8_app O1.out rfl (by omega) (by omega) (by omega) (by omega), grown_trans (World.grownBy_alloc w _ _) G1.out (.inl rfl)⟩
theorem rput16_hi (v : Value) (base : Nat) (xs : List UInt8) (u : Int) (w : World) (hbase : base ≤ w.heap.size) (hown : Own8 w base v xs) (hlen : xs.length ≤ 100000) (h0 : 0 ≤ u) (h1 : u < 65536) :
    Calls Tryz.prog 69 #[v, .int .i64 u, .bool true] w fun e w' => Put16S w base v (xs ++ two true u) e w' := by
  obtain ⟨i0, hi, hz0, hz1, hz2⟩ := info_parts info5
  have HO := Lib.hid hown; clear hown
  have hw0 : IntKind.u8.wrap (u / 256) = u / 256 := by rw [IntKind.wrap_u8]; omega
  have hw1 : IntKind.u8.wrap (u % 256) = u % 256 := by rw [IntKind.wrap_u8]; omega
  go_enter Tryz.func69, Tryz.ntmps69
  go_wp2_with (at_builtin; refine wpList_append_lies _ rfl _ _ _ rfl base 5 i0 _ 1 1 Tryz.underlying99 hi hz0 hz1 hz2 rfl (by omega) v xs.length (xs.map u8v) rfl (World.ownsRow.alloc HO.out _) ⟨w.heap.size, 0, none⟩ 2 2 [_, _] rfl rfl (World.news_of_block (t := 5) (fr := (0, 0)) (heap_alloc_new w _)) (by simp [Value.oneCell']) (by omega) (by unfold maxLen; omega) (by omega) (by simp; omega) (w.heap.size + 1) (by simp) ?_; intro g1 cap1 w1 hown1 hgrow1 hat1 hlt1; have O1 := Lib.hid hown1; have G1 := Lib.hid hgrow1; clear hown1 hgrow1 hat1 hlt1)
  go_ret
  exact ⟨_, rfl, own8_app O1.out rfl (by omega) (by omega) (by omega) (by omega), grown_trans (World.grownBy_alloc w _ _) G1.out (.inl rfl)⟩
theorem rput16_any (v : Value) (base : Nat) (xs : List UInt8) (u : Int) (big : Bool) (w : World) (hbase : base ≤ w.heap.size) (hown : Own8 w base v xs) (hlen : xs.length ≤ 100000) (h0 : 0 ≤ u) (h1 : u < 65536) :
    Calls Tryz.prog 69 #[v, .int .i64 u, .bool big] w fun e w' => Put16S w base v (xs ++ two big u) e w' := by
  cases big
  · exact rput16_lo v base xs u w hbase hown hlen h0 h1
  · exact rput16_hi v base xs u w hbase hown hlen h0 h1
def Enc16S (w : World) (big : Bool) (l : List UInt8) (e : Ending) (w' : World) : Prop :=
  e = .returned (.tuple #[.string (str (if okB l = true then es16 big (scl l) else [])), .int .i64 (if okB l = true then 0 else 70)]) ∧ Below w.heap.size w w'
theorem enc16_bad {w w' : World} {big : Bool} {l : List UInt8} (h : okB l = false) (hb : Below w.heap.size w w') : Enc16S w big l (.returned (.tuple #[.string ⟨#[]⟩, .int .i64 70])) w' := by
  refine ⟨?_, hb⟩; rw [h]; rfl
theorem enc16_good {w w' : World} {big : Bool} {l : List UInt8} (h : okB l = true) (hb : Below w.heap.size w w') : Enc16S w big l (.returned (.tuple #[.string (str (es16 big (scl l))), .int .i64 0])) w' := by
  refine ⟨?_, hb⟩; rw [h]; rfl
theorem own_cells {w : World} {base g n cap : Nat} {xs : List Int} (h : OwnI w base (.slice (some ⟨g, 0, none⟩) n cap) xs) : g < w.heap.size ∧ ∀ k (hk : k < xs.length), w.cell? ⟨g, k, none⟩ = some (.int .i64 xs[k]) := by
  refine ⟨(World.ownsRow.lt h g rfl).2, fun k hk => ?_⟩
  have hc := (World.ownsRow.cells (g := g) h rfl) k (.int .i64 xs[k]) (by simp [hk])
  have hadd : (⟨g, 0, none⟩ : Addr).add k = ⟨g, k, none⟩ := by unfold Addr.add; split <;> simp_all
  rwa [hadd] at hc
theorem es16_few (big : Bool) (xs : List Int) : (es16 big xs).length ≤ 4 * xs.length := by
  rw [es16_len]; have := (ns16_le xs).2; omega
theorem es16_take (big : Bool) {xs : List Int} {k : Nat} (h : k < xs.length) : es16 big (xs.take (k + 1)) = es16 big (xs.take k) ++ e16 big xs[k] := by
  rw [List.take_succ_eq_append_getElem h, es16_app]; simp [es16]
theorem all_get {xs : List Int} (h : allB xs = true) {k : Nat} (hk : k < xs.length) : isB xs[k] = true := by
  simp only [allB, List.all_eq_true] at h
  exact h _ (List.getElem_mem hk)
set_option maxRecDepth 100000 in
set_option maxHeartbeats 2000000 in
theorem renc_any (s : ByteArray) (big : Bool) (w : World) (hs : s.size ≤ 10000) : Calls Tryz.prog 37 #[.string s, .bool big] w fun e w' => Enc16S w big s.data.toList e w' := by
  have hsz : s.data.toList.length = s.size := by simp
  have hv := rvalid_any s w (by omega)
  have hsc := fun w1 => rscal_any s w1 (by omega)
  obtain ⟨l, hl⟩ : ∃ l, s.data.toList = l := ⟨_, rfl⟩
  rw [hl] at hv hsz ⊢
  simp only [hl] at hsc
  clear hl
  cases hok : okB l
  · rw [hok] at hv
    have HV := Lib.hid hv
    have HE : Hid (∀ w1, Below w.heap.size w w1 → Enc16S w big l (.returned (.tuple #[.string ⟨#[]⟩, .int .i64 70])) w1) := Lib.hid (fun w1 hb => enc16_bad hok hb)
    clear hv hsc hok
    go_enter Tryz.func37, Tryz.ntmps37
    go_wp2_with (go_at_call 19; refine HV.out.mono ?_; rintro e w1 ⟨rfl, hb1⟩; have HB1 := Lib.hid hb1; clear hb1)
    go_ret2
    exact HE.out _ HB1.out
  · rw [hok] at hv
    have HV := Lib.hid hv
    have hlen := ok_or_len l true hok
    rw [if_pos rfl] at hlen
    have hall := (ok_back _ l (Nat.le_refl _) hok).1
    have HE : Hid (∀ w1, Below w.heap.size w w1 → Enc16S w big l (.returned (.tuple #[.string (str (es16 big (scl l))), .int .i64 0])) w1) := Lib.hid (fun w1 hb => enc16_good hok hb)
    unfold ScalS at hsc
    simp only [hok, reduceIte] at hsc
    obtain ⟨xs, hxs⟩ : ∃ xs, scl l = xs := ⟨_, rfl⟩
    simp only [hxs] at hsc hlen hall HE
    have HSC := Lib.hid hsc
    clear hv hsc hok hxs
    by_cases hx : xs = []
    · subst hx
      go_enter Tryz.func37, Tryz.ntmps37
      go_wp2_with (first
        | (go_at_call 19; refine HV.out.mono ?_; rintro e w1 ⟨rfl, hb1⟩; have HB1 := Lib.hid hb1; clear hb1)
        | (go_at_call 39; refine (HSC.out _).mono ?_; rintro e w2 ⟨u2, rfl, ho2, hb2⟩; have HB2 : Hid (Below w.heap.size w w2) := Lib.hid (below_call HB1.out hb2); obtain ⟨p2, cap2, rfl⟩ := (ints_of_own ho2).form; have hconv := conv_own (own_nil w2 0); clear ho2 hb2))
      refine wp_loop_rounds 1 ?_; rw [rounds_succ]
      go_wp2_with fail
      go_ret2
      exact HE.out _ HB2.out
    · have hN0 : 0 < xs.length := List.length_pos_iff.2 hx
      obtain ⟨N, HN⟩ : ∃ N, Hid (xs.length = N) := ⟨_, Lib.hid rfl⟩
      have hN1 : 0 < N := by rw [← HN.out]; exact hN0
      have hN : N ≤ 10000 := by rw [← HN.out]; omega
      have HALL := Lib.hid hall
      have HSC2 : Hid (∀ w1, Calls Tryz.prog 39 #[.string s] w1 fun e w' => ∃ g cap, e = .returned (.tuple #[.slice (some ⟨g, 0, none⟩) N cap, .bool true]) ∧ OwnI w' w1.heap.size (.slice (some ⟨g, 0, none⟩) N cap) xs ∧ Below w1.heap.size w1 w') := Lib.hid (fun w1 => (HSC.out w1).mono (by
        rintro e w' ⟨v, he, ho, hb⟩
        obtain ⟨g, cap, rfl, _⟩ := World.ownsRow.form ho hN0
        rw [HN.out] at he ho
        exact ⟨g, cap, he, ho, hb⟩))
      clear hx hN0 hlen hall HSC
      go_enter Tryz.func37, Tryz.ntmps37
      go_wp2_with (first
        | (go_at_call 19; refine HV.out.mono ?_; rintro e w1 ⟨rfl, hb1⟩; have HB1 := Lib.hid hb1; clear hb1)
        | (go_at_call 39; refine (HSC2.out _).mono ?_; rintro e w2 ⟨g, cap, rfl, ho2, hb2⟩; have HB2 : Hid (Below w.heap.size w w2) := Lib.hid (below_call HB1.out hb2); have HC := Lib.hid (own_cells ho2); clear ho2 hb2))
      go_loopg [6, 9] (N + 1) (fun gg q6 q9 wr => ∃ (u : Value) (k : Nat), u = q6 ∧ k + gg = N + 1 ∧ q9 = .int .i64 k ∧ k ≤ N ∧ Hid (Own8 wr w2.heap.size q6 (es16 big (xs.take k))) ∧ Hid (Below w2.heap.size w2 wr))
      case atStart => exact ⟨_, 0, rfl, by omega, rfl, by omega, Lib.hid (own_nil _ _), Lib.hid (Below.refl _ _)⟩
      case round =>
        obtain ⟨u, k, rfl, hkg, rfl, hkN, HO, HB⟩ := hrel
        have hwz := HB.out.size
        by_cases hk : k < N
        · have hk' : k < xs.length := by rw [HN.out]; exact hk
          have hcell : wr.cell? ⟨g, k, none⟩ = some (.int .i64 xs[k]) := (HB.out.cell (p := ⟨g, k, none⟩) HC.out.1).trans (HC.out.2 k hk')
          have hf : (es16 big (xs.take k)).length ≤ 4 * k := by
            have := es16_few big (xs.take k); have := List.length_take_le k xs; omega
          have HX : Hid (es16 big (xs.take (k + 1)) = es16 big (xs.take k) ++ e16 big xs[k]) := Lib.hid (es16_take big hk')
          have hb := isB_iff.1 (all_get HALL.out hk')
          obtain ⟨r, hr⟩ : ∃ r, xs[k] = r := ⟨_, rfl⟩
          rw [hr] at hcell hb
          have HX2 : Hid (es16 big (xs.take (k + 1)) = es16 big (xs.take k) ++ e16 big r) := Lib.hid (by rw [HX.out, hr])
          clear HX hr hk'
          by_cases hr : r < 65536
          · have HP := Lib.hid (rput16_any u w2.heap.size (es16 big (xs.take k)) r big wr hwz HO.out (by omega) hb.1 hr)
            have HY : Hid (es16 big (xs.take (k + 1)) = es16 big (xs.take k) ++ two big r) := Lib.hid (by rw [HX2.out, e16_1 big hr])
            clear HX2
            go_wp2_with (go_at_call 69; refine HP.out.mono ?_; rintro e w3 ⟨v3, rfl, ho3, hg3⟩; have HO3 : Hid (Own8 w3 w2.heap.size v3 (es16 big (xs.take (k + 1)))) := Lib.hid (by rw [HY.out]; exact ho3); have HB3 : Hid (Below w2.heap.size w2 w3) := Lib.hid (HB.out.grown hg3 hwz (fun j e => (World.ownsRow.lt HO.out j e).1)); clear ho3 hg3)
            go_roundg (gk - 1)
            case measure => omega
            case rel => exact ⟨_, k + 1, rfl, by omega, by go_num, by omega, HO3, HB3⟩
          · have HP := Lib.hid (rput16_any u w2.heap.size (es16 big (xs.take k)) (55296 + (r - 65536) / 1024) big wr hwz HO.out (by omega) (by omega) (by omega))
            have HY : Hid (es16 big (xs.take (k + 1)) = (es16 big (xs.take k) ++ two big (55296 + (r - 65536) / 1024)) ++ two big (56320 + (r - 65536) % 1024)) := Lib.hid (by rw [HX2.out, e16_2 big (by omega), List.append_assoc])
            have HL1 : Hid ((es16 big (xs.take k) ++ two big (55296 + (r - 65536) / 1024)).length ≤ 100000) := Lib.hid (by rw [List.length_append, two_len]; omega)
            have HP2 : Hid (∀ v3 w3, w2.heap.size ≤ w3.heap.size → Own8 w3 w2.heap.size v3 (es16 big (xs.take k) ++ two big (55296 + (r - 65536) / 1024)) → Calls Tryz.prog 69 #[v3, .int .i64 (56320 + (r - 65536) % 1024), .bool big] w3 fun e w' => Put16S w3 w2.heap.size v3 (es16 big (xs.take (k + 1))) e w') := Lib.hid (fun v3 w3 h1 h2 => by
              rw [HY.out]; exact rput16_any v3 w2.heap.size _ _ big w3 h1 h2 HL1.out (by omega) (by omega))
            clear HX2 HY HL1
            go_wp2_with (first
              | (go_at_call 69; refine HP.out.mono ?_; rintro e w3 ⟨v3, rfl, ho3, hg3⟩; have HO3 := Lib.hid ho3; have HB3 : Hid (Below w2.heap.size w2 w3) := Lib.hid (HB.out.grown hg3 hwz (fun j e => (World.ownsRow.lt HO.out j e).1)); have hwz3 := hg3.size; clear ho3 hg3 HP)
              | (go_at_call 69; refine (HP2.out _ _ (by omega) HO3.out).mono ?_; rintro e w4 ⟨v4, rfl, ho4, hg4⟩; have HO4 := Lib.hid ho4; have HB4 : Hid (Below w2.heap.size w2 w4) := Lib.hid (HB3.out.grown hg4 (by omega) (fun j e => (World.ownsRow.lt HO3.out j e).1)); clear ho4 hg4))
            go_roundg (gk - 1)
            case measure => omega
            case rel => exact ⟨_, k + 1, rfl, by omega, by go_num, by omega, HO4, HB4⟩
        · have hO : Own8 wr w2.heap.size u (es16 big xs) := by
            have := HO.out
            rwa [List.take_of_length_le (by rw [HN.out]; omega)] at this
          have hconv := conv_own hO
          have HBx : Hid (Below w.heap.size w wr) := Lib.hid (HB2.out.trans (HB.out.mono HB2.out.size))
          clear hO
          go_wp2_with fail
          go_ret2
          exact HE.out _ HBx.out
end Go.Proofs.YtppabkllconkjaaGreatDoor.U
/- General lemmas on blocks of cells and on slices of numbers; nothing of the program. -/
namespace Go.Proofs.YtppabkllconkjaaGreatDoor
open Go.RowKit
set_option linter.unusedVariables false
set_option linter.unusedSimpArgs false
set_option maxRecDepth 100000
/-- Block b of the world is a row of cells of its own, none of them frozen. -/
def Blk (w : World) (b : Nat) (xs : Array Value) (T : TypeId) : Prop := w.heap[b]? = some (.cells xs T (0, 0))
namespace Blk
variable {w w' W : World} {b : Nat} {xs ys : Array Value} {T : TypeId}
theorem lt (h : Blk w b xs T) : b < w.heap.size := by
  unfold Blk at h
  exact (Array.getElem?_eq_some_iff.1 h).1
theorem new (w : World) (xs : Array Value) (T : TypeId) : Blk (w.alloc (.cells xs T)) w.heap.size xs T := by
  unfold Blk World.alloc; simp
theorem new' {n : Nat} (w : World) (xs : Array Value) (T : TypeId) (h : n = w.heap.size) : Blk (w.alloc (.cells xs T)) n xs T := by
  subst h; exact new w xs T
theorem alloc (h : Blk w b xs T) (o : Obj) : Blk (w.alloc o) b xs T := by
  unfold Blk at *
  rw [Below.heap_alloc _ _ _ (Blk.lt h)]; exact h
theorem below (h : Blk W b xs T) (hb : Below W.heap.size W w) : Blk w b xs T := by
  unfold Blk at *
  rw [hb.block _ (Blk.lt h)]; exact h
theorem drew (h : Blk w b xs T) : Blk w.drew b xs T := h
theorem drewN (h : Blk w b xs T) (n : Nat) : Blk (w.drewN n) b xs T := h
theorem set {o : Nat} {v : Value} (h : Blk w b xs T) (hy : ys = xs.setIfInBounds o v) : Blk (w.setCell ⟨b, o, none⟩ v) b ys T := by
  unfold Blk at *
  simp [World.setCell, Array.getElem?_modify, h, hy]
theorem set' {a : Addr} {v : Value} (h : Blk w b xs T) (hn : b ≠ a.block) : Blk (w.setCell a v) b xs T := by
  unfold Blk at *
  rw [Below.heap_setCell _ _ _ _ hn]; exact h
theorem cell (h : Blk w b xs T) (o : Nat) : w.cell? ⟨b, o, none⟩ = xs[o]? := by
  unfold Blk at h
  simp [World.cell?, h]
theorem froz (h : Blk w b xs T) (o : Nat) : w.frozen? ⟨b, o, none⟩ = false := by
  unfold Blk at h
  simp [World.frozen?, h]
end Blk
theorem below_call {a w1 w2 : World} (h : Below a.heap.size a w1) (hb : Below w1.heap.size w1 w2) : Below a.heap.size a w2 := h.trans (hb.mono h.size)
theorem below_draws {B : Nat} {a w : World} (h : Below B a w) (n : Nat) : Below B a (w.drewN n) := h.trans ⟨rfl, rfl, rfl, Nat.le_refl _, fun _ _ => rfl⟩
def RetB (n : Bool) (w : World) (e : Ending) (w' : World) : Prop := e = .returned (.bool n) ∧ Below w.heap.size w w'
theorem ret_int {k : IntKind} {a b : Int} (h : a = b) : Ending.returned (.int k a) = .returned (.int k b) := by rw [h]
theorem ret_bool {a b : Bool} (h : a = b) : Ending.returned (.bool a) = .returned (.bool b) := by rw [h]
def OwnI (w : World) (base : Nat) (v : Value) (xs : List Int) : Prop := w.ownsRow base 3 1 v xs.length (xs.map (Value.int .i64))
/-- v is a slice of numbers that reads as xs. -/
def Ints (w : World) (v : Value) (xs : List Int) : Prop :=
  (xs = [] ∧ ∃ p cap, v = .slice p 0 cap) ∨ (∃ b off cap, v = .slice (some ⟨b, off, none⟩) xs.length cap ∧ b < w.heap.size ∧ ∀ i (h : i < xs.length), w.cell? ⟨b, off + i, none⟩ = some (.int .i64 xs[i]))
theorem Ints.below {w w' : World} {v : Value} {xs : List Int} (h : Ints w v xs) (hb : Below w.heap.size w w') : Ints w' v xs := by
  rcases h with h | ⟨b, off, cap, e, hl, hc⟩
  · exact .inl h
  · exact .inr ⟨b, off, cap, e, by have := hb.size; omega, fun i hi => (hb.cell (p := ⟨b, off + i, none⟩) hl).trans (hc i hi)⟩
theorem ints_of_own {w : World} {base : Nat} {v : Value} {xs : List Int} (h : OwnI w base v xs) : Ints w v xs := by
  have h' := h
  rcases h.2 with ⟨rfl, h0⟩ | ⟨g, cap, cur, rfl, hb, hg, _⟩
  · exact .inl ⟨List.eq_nil_of_length_eq_zero h0, none, 0, rfl⟩
  · refine .inr ⟨g, 0, cap, rfl, (Array.getElem?_eq_some_iff.1 hg).1, fun i hi => ?_⟩
    have hc := (World.ownsRow.cells (g := g) h' rfl) i (.int .i64 xs[i]) (by simp [hi])
    have hadd : (⟨g, 0, none⟩ : Addr).add i = ⟨g, 0 + i, none⟩ := by unfold Addr.add; split <;> simp_all
    rwa [hadd] at hc
theorem Ints.form {w : World} {v : Value} {xs : List Int} (h : Ints w v xs) : ∃ p cap, v = .slice p xs.length cap := by
  rcases h with ⟨rfl, p, cap, rfl⟩ | ⟨b, off, cap, rfl, _⟩
  · exact ⟨p, cap, rfl⟩
  · exact ⟨_, cap, rfl⟩
end Go.Proofs.YtppabkllconkjaaGreatDoor
/- The contracts of utf8.Valid, Scalars, Loose: ranges over the iterator. -/
namespace Go.Proofs.YtppabkllconkjaaGreatDoor.U
open Go.RowKit Go.Shelf
set_option linter.unusedVariables false
set_option linter.unusedSimpArgs false
set_option maxRecDepth 100000
attribute [local go_sem] Oper.semAt_some
def looseI (pre : List Item) : List UInt8 := encs (pre.map fun x => fixR x.1.2)
theorem looseI_snoc (pre : List Item) (x : Item) : looseI (pre ++ [x]) = looseI pre ++ enc (fixR x.1.2) := by
  unfold looseI; rw [List.map_append, encs_app]; simp [encs]
theorem looseI_len (pre : List Item) : (looseI pre).length ≤ 4 * pre.length := by
  have := encs_len (pre.map fun x => fixR x.1.2)
  rw [List.length_map] at this; exact this
theorem loose_items {l : List UInt8} {ys : List Item} (h : ys.map (·.1) = its (prt l) 0) : looseI ys = loose l := by
  unfold looseI loose
  rw [← scl_items h, List.map_map]; rfl
theorem wrgI_ge : ∀ ps : List (Nat × Int), wrgI ps = -1 ∨ 0 ≤ wrgI ps
  | [] => .inl rfl
  | p :: t => by
    by_cases h : p.2 = -1
    · simp only [wrgI]; rw [if_pos h]; omega
    · simp only [wrgI]; rw [if_neg h]; exact wrgI_ge t
theorem wrgI_bad {p : Nat × Int} (h : p.2 = -1) (t : List (Nat × Int)) : wrgI (p :: t) = (p.1 : Int) := by simp only [wrgI]; rw [if_pos h]
theorem wrgI_good {p : Nat × Int} (h : ¬ p.2 = -1) (t : List (Nat × Int)) : wrgI (p :: t) = wrgI t := by simp only [wrgI]; rw [if_neg h]
theorem wrgI_snoc : ∀ (ps : List (Nat × Int)) (p : Nat × Int), wrgI (ps ++ [p]) = if wrgI ps < 0 then (if p.2 = -1 then (p.1 : Int) else -1) else wrgI ps
  | [], p => by simp [wrgI]
  | q :: t, p => by
    rw [List.cons_append]
    by_cases h : q.2 = -1
    · rw [wrgI_bad h, wrgI_bad h, if_neg (by omega)]
    · rw [wrgI_good h, wrgI_good h, wrgI_snoc t p]
def wrgP (pre : List Item) : Int := wrgI (pre.map (·.1))
theorem wrgP_snoc (pre : List Item) (x : Item) : wrgP (pre ++ [x]) = if wrgP pre < 0 then (if x.1.2 = -1 then (x.1.1 : Int) else -1) else wrgP pre := by
  unfold wrgP; rw [List.map_append]; exact wrgI_snoc _ _
theorem wrgP_neg {pre : List Item} (h : wrgP pre < 0) : wrgP pre = -1 := by
  rcases wrgI_ge (pre.map (·.1)) with e | e
  · exact e
  · unfold wrgP at h; omega
theorem keeps_grown {W W' : World} {base k size : Nat} {e : TypeId} {v : Value} {xs : List Value} (h : W.ownsRow base e size v k xs) (hg : W.grownBy W' v.ownBlock) : KeepsOthers W W' :=
  KeepsOthers.of_grownBy hg fun j o ej hj => by
    rcases h.2 with ⟨rfl, _⟩ | ⟨g, cap, cur, rfl, _, hgb, _⟩
    · simp [Value.ownBlock] at ej
    · obtain rfl : g = j := by simpa [Value.ownBlock] using ej
      rw [hgb] at hj; cases hj; rfl
set_option maxRecDepth 100000 in
set_option maxHeartbeats 4000000 in
theorem loose_any (s : ByteArray) (w : World) (hg : Gl w) (hs : s.size ≤ 20000) : Calls Tryz.prog 94 #[.string s] w fun e w' => LooseS w s.data.toList e w' := by
  refine (callsIn_wide (n := 5)).1 ?_
  have h2 := hg.size
  have HGw := Lib.hid hg
  refine callsIn_of_wp_marks Tryz.func94 rfl trivial ?_ rfl
  simp only [Tryz.ntmps94, List.size_toArray, List.length_cons, List.length_nil, Nat.reduceAdd, Nat.reduceSub, Array.replicate_succ, Array.replicate_zero, List.push_toArray, List.append_toArray, List.nil_append, List.cons_append]
  gi_wp2_with (refine ⟨trivial, ?_⟩; gi_at_call 126; refine (scalars_in _ s _).mono ?_; rintro e w' ⟨rfl, rfl⟩)
  have bR := Boxed.new w 3 (.int .i64 (-1))
  have bL := Boxed.new (w.alloc (.cells #[.int .i64 (-1)] 3)) 99 (.slice none 0 0)
  rw [World.size_alloc] at bL
  have bN := Boxed.new ((w.alloc (.cells #[.int .i64 (-1)] 3)).alloc (.cells #[.slice none 0 0] 99)) 9 (.string s)
  rw [World.size_alloc, World.size_alloc] at bN
  have hB0 : Below w.heap.size w (((w.alloc (.cells #[.int .i64 (-1)] 3)).alloc (.cells #[.slice none 0 0] 99)).alloc (.cells #[.string s] 9)) := (((Below.refl _ w).alloc (Nat.le_refl _) _).alloc (by simp) _).alloc (by simp; omega) _
  refine wpIn_rangeFunc_ownG rfl (by omega) (gf := 155) (lb := #[.pointer (some ⟨w.heap.size + 1 + 1, 0, none⟩)]) rfl trivial (enters_of Tryz.func155 (by kernel_rfl) rfl)
    (scalars_stops 4 (by omega) (w.heap.size + 1 + 1) w.heap.size s (by omega) _ (hg.below' hB0) (by omega) (by simp) (by simp; omega) bN.cell) KpS.trans (kpS_b (by simp; omega) (by simp)) (Below.refl _ _) (fun _ => rfl)
    (fun pre W => (∃ v, Boxed W (w.heap.size + 1) 99 v ∧ W.ownsRow w.heap.size 5 1 v (looseI pre).length ((looseI pre).map u8v) ∧ True) ∧ Boxed W w.heap.size 3 (.int .i64 (wrgP pre)) ∧ Boxed W (w.heap.size + 1 + 1) 9 (.string s) ∧ Below w.heap.size w W)
    (fun _ _ _ => False)
    (OwnFrom.and (Own.from (holdsRow_own w.heap.size (w.heap.size + 1) 99 5 1 (fun (pre : List Item) => (looseI pre).length) (fun pre => (looseI pre).map u8v) (fun _ _ => True)) _) (OwnFrom.and (Own.from (boxed_own _ _ _) _) (OwnFrom.and (Own.from (boxed_own _ _ _) _) (ownFrom_below (Nat.le_refl _) (by simp; omega)))))
    (fun _ _ _ _ _ hs _ _ => hs)
    ⟨⟨_, bL.alloc _, World.ownsRow_nil _ _ _ _, trivial⟩, (bR.alloc _).alloc _, bN, hB0⟩
    (fun x => { tmps := #[.string s, undef, .string { data := #[] }, .pointer (some ⟨w.heap.size, 0, none⟩), .pointer (some ⟨w.heap.size + 1, 0, none⟩), .int .i64 (x.1.1 : Int), .int .i64 x.1.2, .string s, .func (.func 155) #[] #[.pointer (some ⟨w.heap.size + 1 + 1, 0, none⟩)], .int .i64 (x.1.1 : Int), .int .i64 x.1.2, undef, undef, undef, undef, undef, undef, undef, undef, undef, undef, undef], defers := [] }) ?assign ?body ?done ?stop
  case assign =>
    intro l x W K hK
    simp only [encI]
    gi_wp2
    exact hK
  case body =>
    rintro l pre x W ⟨⟨v, hv, hrow, _⟩, hR, hN, hB⟩ hlt
    have HB := Lib.hid hB
    have hwz := hB.size
    have HV := Lib.hid hv
    have HRow : Hid (Own8 W w.heap.size v (looseI pre)) := Lib.hid hrow
    have H0 := Lib.hid hR
    have HN := Lib.hid hN
    have hc := hv.cell
    have c0 := hR.cell
    have f0 := hR.frozen
    have hpl := looseI_len pre
    have HGW : Hid (Gl W) := Lib.hid (HGw.out.below' HB.out)
    obtain ⟨y, hy⟩ : ∃ y, wrgP pre = y := ⟨_, rfl⟩
    have HS := Lib.hid (wrgP_snoc pre x)
    have HSn := Lib.hid (looseI_snoc pre x)
    have HXp := Lib.hid x.2.2
    rw [hy] at c0
    have HY := Lib.hid hy
    clear hB hv hrow hR hN hy
    by_cases hx : x.1.2 = -1
    · have hxb : (x.1.2 == -1) = true := by simpa using hx
      have HX := Lib.hid hx
      have HR : Hid (isB 65533 = true) := Lib.hid (by decide +kernel)
      have HF : Hid (fixR x.1.2 = 65533) := Lib.hid (by rw [hx]; rfl)
      clear hx
      by_cases hyn : y < 0
      · have HW : Hid (wrgP (pre ++ [x]) = (x.1.1 : Int)) := Lib.hid (by rw [HS.out, HY.out, if_pos hyn, if_pos HX.out])
        have D0 := Lib.hid ((H0.out.set (.int .i64 (x.1.1 : Int))))
        have DL := Lib.hid (HV.out.other (B' := w.heap.size) (by omega) (.int .i64 (x.1.1 : Int)))
        have DN := Lib.hid (HN.out.other (B' := w.heap.size) (by omega) (.int .i64 (x.1.1 : Int)))
        have DO : Hid (Own8 (W.setCell ⟨w.heap.size, 0, none⟩ (.int .i64 (x.1.1 : Int))) w.heap.size v (looseI pre)) := Lib.hid (ownsRow_setCell HRow.out H0.out (by decide) _)
        have DB : Hid (Below w.heap.size w (W.setCell ⟨w.heap.size, 0, none⟩ (.int .i64 (x.1.1 : Int)))) := Lib.hid (HB.out.setCell (p := ⟨w.heap.size, 0, none⟩) (Nat.le_refl _) _)
        have DG : Hid (Gl (W.setCell ⟨w.heap.size, 0, none⟩ (.int .i64 (x.1.1 : Int)))) := Lib.hid (HGw.out.below' DB.out)
        have cL := DL.out.cell
        have hwz2 := DB.out.size
        gi_wp2_with (refine ⟨trivial, ?_⟩; gi_at_call 127; refine (CallsIn.inRound l (callsIn_wide.2 (add_any v w.heap.size (looseI pre) 65533 _ DG.out h2 hwz2 DO.out (by omega) HR.out))).mono ?_; rintro e w1 ⟨v1, rfl, hown1, hgrow1⟩; obtain ⟨p1, cap1, rfl⟩ := own_form hown1; have K9 := Lib.hid (D0.out.kept hgrow1 (D0.out.not_row (by decide) DO.out)); have KL := Lib.hid (DL.out.kept hgrow1 (DL.out.not_row (by decide) DO.out)); have KN := Lib.hid (DN.out.kept hgrow1 (DN.out.not_row (by decide) DO.out)); have O1 := Lib.hid hown1; have G1 := Lib.hid hgrow1; have hc1 := KL.out.cell; have hf1 := KL.out.frozen; clear hown1 hgrow1)
        refine ⟨(((KeepsOthers.setCell _ _ _).trans (keeps_grown DO.out G1.out)).trans (KeepsOthers.setCell _ _ _)).from _, ⟨?_, (KN.out.other (B' := w.heap.size + 1) (by omega) _).trans HN.out.symm⟩, ⟨_, KL.out.set _, ?_, trivial⟩, ?_, KN.out.other (by omega) _, ?_⟩
        · exact (((Below.refl w.heap.size W).setCell (p := ⟨w.heap.size, 0, none⟩) (Nat.le_refl _) _).grown G1.out hwz2 (fun j e => (World.ownsRow.lt DO.out j e).1)).setCell (p := ⟨w.heap.size + 1, 0, none⟩) (by simp) _
        · rw [HSn.out, HF.out]; refine ownsRow_setCell ?_ KL.out (by decide) _; have := O1.out; unfold Own8 at this; rw [List.length_append] at this ⊢; exact this
        · rw [HW.out]; exact K9.out.other (by omega) _
        · exact (DB.out.grown G1.out hwz2 (fun j e => (World.ownsRow.lt DO.out j e).1)).setCell (p := ⟨w.heap.size + 1, 0, none⟩) (by simp) _
      · have HW : Hid (wrgP (pre ++ [x]) = wrgP pre) := Lib.hid (by rw [HS.out, HY.out, if_neg hyn])
        have cL := HV.out.cell
        gi_wp2_with (refine ⟨trivial, ?_⟩; gi_at_call 127; refine (CallsIn.inRound l (callsIn_wide.2 (add_any v w.heap.size (looseI pre) 65533 _ HGW.out h2 hwz HRow.out (by omega) HR.out))).mono ?_; rintro e w1 ⟨v1, rfl, hown1, hgrow1⟩; obtain ⟨p1, cap1, rfl⟩ := own_form hown1; have K9 := Lib.hid (H0.out.kept hgrow1 (H0.out.not_row (by decide) HRow.out)); have KL := Lib.hid (HV.out.kept hgrow1 (HV.out.not_row (by decide) HRow.out)); have KN := Lib.hid (HN.out.kept hgrow1 (HN.out.not_row (by decide) HRow.out)); have O1 := Lib.hid hown1; have G1 := Lib.hid hgrow1; have hc1 := KL.out.cell; have hf1 := KL.out.frozen; clear hown1 hgrow1)
        refine ⟨((keeps_grown HRow.out G1.out).trans (KeepsOthers.setCell _ _ _)).from _, ⟨?_, (KN.out.other (B' := w.heap.size + 1) (by omega) _).trans HN.out.symm⟩, ⟨_, KL.out.set _, ?_, trivial⟩, ?_, KN.out.other (by omega) _, ?_⟩
        · exact ((Below.refl w.heap.size W).grown G1.out hwz (fun j e => (World.ownsRow.lt HRow.out j e).1)).setCell (p := ⟨w.heap.size + 1, 0, none⟩) (by simp) _
        · rw [HSn.out, HF.out]; refine ownsRow_setCell ?_ KL.out (by decide) _; have := O1.out; unfold Own8 at this; rw [List.length_append] at this ⊢; exact this
        · rw [HW.out]; exact K9.out.other (by omega) _
        · exact (HB.out.grown G1.out hwz (fun j e => (World.ownsRow.lt HRow.out j e).1)).setCell (p := ⟨w.heap.size + 1, 0, none⟩) (by simp) _
    · have hxb : (x.1.2 == -1) = false := by simpa using hx
      have HR : Hid (isB x.1.2 = true) := Lib.hid (by
        rcases HXp.out with e | e
        · exact absurd e hx
        · exact e)
      have HF : Hid (fixR x.1.2 = x.1.2) := Lib.hid (by unfold fixR; rw [if_neg hx])
      have HW : Hid (wrgP (pre ++ [x]) = wrgP pre) := Lib.hid (by
        rw [HS.out, if_neg hx]
        by_cases g : wrgP pre < 0
        · rw [if_pos g, wrgP_neg g]
        · rw [if_neg g])
      clear hx
      have cL := HV.out.cell
      gi_wp2_with (refine ⟨trivial, ?_⟩; gi_at_call 127; refine (CallsIn.inRound l (callsIn_wide.2 (add_any v w.heap.size (looseI pre) x.1.2 _ HGW.out h2 hwz HRow.out (by omega) HR.out))).mono ?_; rintro e w1 ⟨v1, rfl, hown1, hgrow1⟩; obtain ⟨p1, cap1, rfl⟩ := own_form hown1; have K9 := Lib.hid (H0.out.kept hgrow1 (H0.out.not_row (by decide) HRow.out)); have KL := Lib.hid (HV.out.kept hgrow1 (HV.out.not_row (by decide) HRow.out)); have KN := Lib.hid (HN.out.kept hgrow1 (HN.out.not_row (by decide) HRow.out)); have O1 := Lib.hid hown1; have G1 := Lib.hid hgrow1; have hc1 := KL.out.cell; have hf1 := KL.out.frozen; clear hown1 hgrow1)
      refine ⟨((keeps_grown HRow.out G1.out).trans (KeepsOthers.setCell _ _ _)).from _, ⟨?_, (KN.out.other (B' := w.heap.size + 1) (by omega) _).trans HN.out.symm⟩, ⟨_, KL.out.set _, ?_, trivial⟩, ?_, KN.out.other (by omega) _, ?_⟩
      · exact ((Below.refl w.heap.size W).grown G1.out hwz (fun j e => (World.ownsRow.lt HRow.out j e).1)).setCell (p := ⟨w.heap.size + 1, 0, none⟩) (by simp) _
      · rw [HSn.out, HF.out]; refine ownsRow_setCell ?_ KL.out (by decide) _; have := O1.out; unfold Own8 at this; rw [List.length_append] at this ⊢; exact this
      · rw [HW.out]; exact K9.out.other (by omega) _
      · exact (HB.out.grown G1.out hwz (fun j e => (World.ownsRow.lt HRow.out j e).1)).setCell (p := ⟨w.heap.size + 1, 0, none⟩) (by simp) _
  case done =>
    rintro D ys W hD hy ⟨⟨v, hv, hrow, _⟩, hR, hN, hB⟩ hK
    have HLo := Lib.hid (loose_items hy)
    have HWr : Hid (wrg (prt s.data.toList) 0 = wrgP ys) := Lib.hid (by rw [wrg_its, ← hy]; rfl)
    have HRow : Hid (Own8 W w.heap.size v (looseI ys)) := Lib.hid hrow
    have hc := hv.cell
    have c0 := hR.cell
    have f0 := hR.frozen
    have HV := Lib.hid hv
    have H0 := Lib.hid hR
    have HB := Lib.hid hB
    have hd1 : w.heap.size + 1 < D := by simp at hD; omega
    have hconv := conv_own hrow
    have hconvd : (convert 99 9 v).run Tryz.prog W.drew = .ok (.string (str (looseI ys))) W.drew := conv_own (w := W.drew) (by exact hrow.drew)
    clear hy hB hv hrow hR hN
    gi_wp2
    gi_region
    all_goals gi_wp2
    have hdl : w.heap.size ≤ D := by omega
    have hK' : ((W.setCell ⟨w.heap.size, 0, none⟩ (.int .i64 (wrgP ys))).drew).heap[D]? = some (.deferred (some [])) := (KeepsOthers.setCell W ⟨w.heap.size, 0, none⟩ (.int .i64 (wrgP ys))).same D _ hK rfl
    refine ⟨by simp, .inl ⟨_, _, rfl, run_takeDeferred hK', ?_⟩⟩
    have h0 := (boxed_putObj (W := (W.setCell ⟨w.heap.size, 0, none⟩ (.int .i64 (wrgP ys))).drew) (H0.out.set (.int .i64 (wrgP ys))) (.deferred none) (show w.heap.size ≠ D by omega)).cell
    refine ⟨.tuple #[.string (str (looseI ys)), .int .i64 (wrgP ys)], ?_, ⟨by rw [HLo.out, HWr.out], ?_⟩⟩
    · simp [results, Tryz.f94, go_sem, h0]
    · exact ((HB.out.setCell (p := ⟨w.heap.size, 0, none⟩) (Nat.le_refl _) _).drew).trans (belowK_b (w := w) (Nat.le_refl _) _ D _ _ hdl hK' rfl rfl)
  case stop =>
    rintro D c pre W _ _ h _
    exact h.elim
end Go.Proofs.YtppabkllconkjaaGreatDoor.U
