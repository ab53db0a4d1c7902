/- The contracts of Scalar, table, Table and Byte. -/
import Derived.Test.YtgahaehnlbkihaaDoorF
import Derived.Maps.Own
import Derived.Maps.OwnSet
import Derived.Deep.WholeRow
namespace Go.Proofs.YtgahaehnlbkihaaDoor
open Go.RowKit Go.Maps
set_option linter.unusedVariables false
set_option linter.unusedSimpArgs false
theorem put3 : ((((DataW.map []).put (.int .i8 3) (.held (fval 3))).put (.int .i8 4) (.held (fval 4))).put (.int .i8 5) (.held (fval 5)) : DataW Value) = .map [(.int .i8 3, .held (fval 3)), (.int .i8 4, .held (fval 4)), (.int .i8 5, .held (fval 5))] := rfl
theorem put3_at (x : Int) : (DataW.map [(.int .i8 3, .held (fval 3)), (.int .i8 4, .held (fval 4)), (.int .i8 5, .held (fval 5))] : DataW Value).atKey (.int .i8 x) (.held .nilFunc) = .held (fval x) := by
  by_cases h3 : x = 3
  · subst h3; rfl
  by_cases h4 : x = 4
  · subst h4; rfl
  by_cases h5 : x = 5
  · subst h5; rfl
  have e : fval x = .nilFunc := by unfold fval; rw [if_neg h3, if_neg h4, if_neg h5]
  rw [e]
  have g3 : ¬ 3 = x := fun h => h3 h.symm
  have g4 : ¬ 4 = x := fun h => h4 h.symm
  have g5 : ¬ 5 = x := fun h => h5 h.symm
  simp [DataW.atKey, Lit.sameKey, g3, g4, g5]
theorem put3_has (x : Int) : Maps.has (DataW.map [(.int .i8 3, .held (fval 3)), (.int .i8 4, .held (fval 4)), (.int .i8 5, .held (fval 5))] : DataW Value) (.int .i8 x) = isE x := by
  rw [Bool.eq_iff_iff]
  simp [Maps.has, Lit.sameKey, isE]
  omega
theorem zeroFn (w : World) : (zeroValue 38).run Tryd.prog w = .ok .nilFunc w := by kernel_rfl
/-- What scalars() hands back: it is looked up as the encodings are told. -/
def ScalarsS (w : World) (e : Ending) (w' : World) : Prop :=
  ∃ g, e = .returned (.map (some g)) ∧ (∀ x : Int, (Lit.int .i8 x).wf = true → (Instr.lookup 40 (.map (some g)) (.int .i8 x) true).run Tryd.prog w' = .ok (.tuple #[fval x, .bool (isE x)]) w') ∧ Below w.heap.size w w'
theorem scalars_any (w : World) : Calls Tryd.prog 13 #[] w fun e w' => ScalarsS w e w' := by
  refine (scalars_own w).mono ?_
  rintro e w' ⟨g, rfl, hg, hown, hb⟩
  refine ⟨g, rfl, fun x hx => ?_, hb⟩
  obtain ⟨v, ps, hrun, hv⟩ := hown.look_ok lawI8 Tryd.underlying40 (zeroFn w') (zd := .held .nilFunc) (zp := []) rfl (keyOf_int_mk Tryd.underlying22 hx)
  rw [put3, put3_at] at hv
  rw [put3, put3_has] at hrun
  unfold fnR at hv
  simp at hv
  obtain ⟨rfl, _⟩ := hv
  exact hrun
theorem fval_3 : fval 3 = .func (.func 21) #[blkV] #[] := rfl
theorem fval_4 : fval 4 = .func (.func 22) #[runV r5] #[] := rfl
theorem fval_5 : fval 5 = .func (.func 22) #[runV r15] #[] := rfl
theorem fval_no {x : Int} (h : isE x = false) : fval x = .nilFunc := by
  obtain ⟨h3, h4, h5⟩ := isE_no.1 h
  unfold fval; rw [if_neg h3, if_neg h4, if_neg h5]
/-- The function and its receiver that tell an encoding's scalars. -/
def rval (e : Int) : Value := if e = 3 then blkV else if e = 4 then runV r5 else runV r15
theorem scalar3 (b : Nat) (hb : b < 256) (w : World) : Calls Tryd.prog 21 #[rval 3, .int .u8 (b : Int)] w fun e w' => RetI (scE 3 b) w e w' := by
  rw [scE_3]; exact blk_scalar b hb w
theorem scalar4 (b : Nat) (hb : b < 256) (w : World) : Calls Tryd.prog 22 #[rval 4, .int .u8 (b : Int)] w fun e w' => RetI (scE 4 b) w e w' := by
  rw [scE_4]; exact runs_5 b hb w
theorem scalar5 (b : Nat) (hb : b < 256) (w : World) : Calls Tryd.prog 22 #[rval 5, .int .u8 (b : Int)] w fun e w' => RetI (scE 5 b) w e w' := by
  rw [scE_5]; exact runs_15 b hb w
theorem fvr_3 : fval 3 = .func (.func 21) #[rval 3] #[] := rfl
theorem fvr_4 : fval 4 = .func (.func 22) #[rval 4] #[] := rfl
theorem fvr_5 : fval 5 = .func (.func 22) #[rval 5] #[] := rfl
end Go.Proofs.YtgahaehnlbkihaaDoor
