/- Joined: MO, MT, MLO, MQQ, MPM. -/
import Derived.BigQuiet
import Derived.Deep.AppendLies
import Derived.Deep.DeepCutAuto
import Derived.Deep.LoopGhost
import Derived.Deep.QuietTactic
import Derived.Deep.RegionHeld3
import Derived.Deep.RegionLaw
import Derived.Deep.WholeRow
import Derived.Laws.AppendOwn
import Derived.Laws.BytesArg
import Derived.Laws.DeepStrings4
import Derived.Laws.Externs
import Derived.Laws.IdiomStrings
import Derived.Laws.ResultCell
import Derived.Laws.Rows
import Derived.Laws.StructEq
import Derived.Lib.Bytealg
import Derived.Lib.Hide
import Derived.LoopN
import Derived.Maps.AppendAt
import Derived.Maps.Own
import Derived.Maps.OwnSet
import Derived.OpenShut
import Derived.Outline
import Derived.OwnWalk
import Derived.ProofKit
import Derived.StillTailTactics
import Derived.Test.YtppabkllconkjaaGreatDoorRows
import Derived.WalkKit
import Derived.WalkMore
import Derived.Test.YtppabkllconkjaaGreatDoorK05
import Derived.Test.YtppabkllconkjaaGreatDoorK09
import Derived.Test.YtppabkllconkjaaGreatDoorK11
import Derived.Test.YtppabkllconkjaaGreatDoorK12
import Derived.Test.YtppabkllconkjaaGreatDoorK13
import Derived.Test.YtppabkllconkjaaGreatDoorK14
/- The contracts of the document's own sign, within, token, blanks. -/
namespace Go.Proofs.YtppabkllconkjaaGreatDoor.Med
open Go.RowKit
set_option linter.unusedVariables false
set_option linter.unusedSimpArgs false
set_option maxRecDepth 100000
/-- One of a token, by its number. -/
def sI (x : Int) : Bool := (decide (65 ≤ x) && decide (x ≤ 90)) || (decide (97 ≤ x) && decide (x ≤ 122)) || (decide (48 ≤ x) && decide (x ≤ 57)) || decide (x = 33) || decide (x = 35) || decide (x = 36) || decide (x = 37) || decide (x = 38) || decide (x = 39) || decide (x = 42) || decide (x = 43) || decide (x = 45) || decide (x = 46) || decide (x = 94) || decide (x = 95) || decide (x = 96) || decide (x = 124) || decide (x = 126)
theorem sgn_sI (c : UInt8) : sgn c = sI (c.toNat : Int) := by
  have : ∀ c : Fin 256, sgn (UInt8.ofNat c) = sI (c.val : Int) := by decide +kernel
  have k := this ⟨c.toNat, c.toNat_lt⟩
  simpa using k
theorem sign_33 (x : Int) (hx : x = 33) (w : World) : Calls Tryz.prog 89 #[.int .u8 x] w fun e w' => e = .returned (.bool (sI x)) ∧ w' = w := by
  subst hx
  have HK : Hid (sI 33 = true) := Lib.hid (by decide)
  go_enter Tryz.func89, Tryz.ntmps89
  go_wp2_with fail
  refine wp_loop_rounds 16 ?_
  rw [rounds_succ]
  go_wp2_with fail
  go_ret
  exact ⟨ret_bool HK.out.symm, rfl⟩
theorem sign_35 (x : Int) (hx : x = 35) (w : World) : Calls Tryz.prog 89 #[.int .u8 x] w fun e w' => e = .returned (.bool (sI x)) ∧ w' = w := by
  subst hx
  have HK : Hid (sI 35 = true) := Lib.hid (by decide)
  go_enter Tryz.func89, Tryz.ntmps89
  go_wp2_with fail
  refine wp_loop_rounds 16 ?_
  rw [rounds_succ]
  go_wp2_with fail
  rw [rounds_succ]
  go_wp2_with fail
  go_ret
  exact ⟨ret_bool HK.out.symm, rfl⟩
theorem sign_36 (x : Int) (hx : x = 36) (w : World) : Calls Tryz.prog 89 #[.int .u8 x] w fun e w' => e = .returned (.bool (sI x)) ∧ w' = w := by
  subst hx
  have HK : Hid (sI 36 = true) := Lib.hid (by decide)
  go_enter Tryz.func89, Tryz.ntmps89
  go_wp2_with fail
  refine wp_loop_rounds 16 ?_
  rw [rounds_succ]
  go_wp2_with fail
  rw [rounds_succ]
  go_wp2_with fail
  rw [rounds_succ]
  go_wp2_with fail
  go_ret
  exact ⟨ret_bool HK.out.symm, rfl⟩
theorem sign_37 (x : Int) (hx : x = 37) (w : World) : Calls Tryz.prog 89 #[.int .u8 x] w fun e w' => e = .returned (.bool (sI x)) ∧ w' = w := by
  subst hx
  have HK : Hid (sI 37 = true) := Lib.hid (by decide)
  go_enter Tryz.func89, Tryz.ntmps89
  go_wp2_with fail
  refine wp_loop_rounds 16 ?_
  rw [rounds_succ]
  go_wp2_with fail
  rw [rounds_succ]
  go_wp2_with fail
  rw [rounds_succ]
  go_wp2_with fail
  rw [rounds_succ]
  go_wp2_with fail
  go_ret
  exact ⟨ret_bool HK.out.symm, rfl⟩
theorem sign_38 (x : Int) (hx : x = 38) (w : World) : Calls Tryz.prog 89 #[.int .u8 x] w fun e w' => e = .returned (.bool (sI x)) ∧ w' = w := by
  subst hx
  have HK : Hid (sI 38 = true) := Lib.hid (by decide)
  go_enter Tryz.func89, Tryz.ntmps89
  go_wp2_with fail
  refine wp_loop_rounds 16 ?_
  rw [rounds_succ]
  go_wp2_with fail
  rw [rounds_succ]
  go_wp2_with fail
  rw [rounds_succ]
  go_wp2_with fail
  rw [rounds_succ]
  go_wp2_with fail
  rw [rounds_succ]
  go_wp2_with fail
  go_ret
  exact ⟨ret_bool HK.out.symm, rfl⟩
theorem sign_39 (x : Int) (hx : x = 39) (w : World) : Calls Tryz.prog 89 #[.int .u8 x] w fun e w' => e = .returned (.bool (sI x)) ∧ w' = w := by
  subst hx
  have HK : Hid (sI 39 = true) := Lib.hid (by decide)
  go_enter Tryz.func89, Tryz.ntmps89
  go_wp2_with fail
  refine wp_loop_rounds 16 ?_
  rw [rounds_succ]
  go_wp2_with fail
  rw [rounds_succ]
  go_wp2_with fail
  rw [rounds_succ]
  go_wp2_with fail
  rw [rounds_succ]
  go_wp2_with fail
  rw [rounds_succ]
  go_wp2_with fail
  rw [rounds_succ]
  go_wp2_with fail
  go_ret
  exact ⟨ret_bool HK.out.symm, rfl⟩
theorem sign_42 (x : Int) (hx : x = 42) (w : World) : Calls Tryz.prog 89 #[.int .u8 x] w fun e w' => e = .returned (.bool (sI x)) ∧ w' = w := by
  subst hx
  have HK : Hid (sI 42 = true) := Lib.hid (by decide)
  go_enter Tryz.func89, Tryz.ntmps89
  go_wp2_with fail
  refine wp_loop_rounds 16 ?_
  rw [rounds_succ]
  go_wp2_with fail
  rw [rounds_succ]
  go_wp2_with fail
  rw [rounds_succ]
  go_wp2_with fail
  rw [rounds_succ]
  go_wp2_with fail
  rw [rounds_succ]
  go_wp2_with fail
  rw [rounds_succ]
  go_wp2_with fail
  rw [rounds_succ]
  go_wp2_with fail
  go_ret
  exact ⟨ret_bool HK.out.symm, rfl⟩
theorem sign_43 (x : Int) (hx : x = 43) (w : World) : Calls Tryz.prog 89 #[.int .u8 x] w fun e w' => e = .returned (.bool (sI x)) ∧ w' = w := by
  subst hx
  have HK : Hid (sI 43 = true) := Lib.hid (by decide)
  go_enter Tryz.func89, Tryz.ntmps89
  go_wp2_with fail
  refine wp_loop_rounds 16 ?_
  rw [rounds_succ]
  go_wp2_with fail
  rw [rounds_succ]
  go_wp2_with fail
  rw [rounds_succ]
  go_wp2_with fail
  rw [rounds_succ]
  go_wp2_with fail
  rw [rounds_succ]
  go_wp2_with fail
  rw [rounds_succ]
  go_wp2_with fail
  rw [rounds_succ]
  go_wp2_with fail
  rw [rounds_succ]
  go_wp2_with fail
  go_ret
  exact ⟨ret_bool HK.out.symm, rfl⟩
theorem sign_45 (x : Int) (hx : x = 45) (w : World) : Calls Tryz.prog 89 #[.int .u8 x] w fun e w' => e = .returned (.bool (sI x)) ∧ w' = w := by
  subst hx
  have HK : Hid (sI 45 = true) := Lib.hid (by decide)
  go_enter Tryz.func89, Tryz.ntmps89
  go_wp2_with fail
  refine wp_loop_rounds 16 ?_
  rw [rounds_succ]
  go_wp2_with fail
  rw [rounds_succ]
  go_wp2_with fail
  rw [rounds_succ]
  go_wp2_with fail
  rw [rounds_succ]
  go_wp2_with fail
  rw [rounds_succ]
  go_wp2_with fail
  rw [rounds_succ]
  go_wp2_with fail
  rw [rounds_succ]
  go_wp2_with fail
  rw [rounds_succ]
  go_wp2_with fail
  rw [rounds_succ]
  go_wp2_with fail
  go_ret
  exact ⟨ret_bool HK.out.symm, rfl⟩
theorem sign_46 (x : Int) (hx : x = 46) (w : World) : Calls Tryz.prog 89 #[.int .u8 x] w fun e w' => e = .returned (.bool (sI x)) ∧ w' = w := by
  subst hx
  have HK : Hid (sI 46 = true) := Lib.hid (by decide)
  go_enter Tryz.func89, Tryz.ntmps89
  go_wp2_with fail
  refine wp_loop_rounds 16 ?_
  rw [rounds_succ]
  go_wp2_with fail
  rw [rounds_succ]
  go_wp2_with fail
  rw [rounds_succ]
  go_wp2_with fail
  rw [rounds_succ]
  go_wp2_with fail
  rw [rounds_succ]
  go_wp2_with fail
  rw [rounds_succ]
  go_wp2_with fail
  rw [rounds_succ]
  go_wp2_with fail
  rw [rounds_succ]
  go_wp2_with fail
  rw [rounds_succ]
  go_wp2_with fail
  rw [rounds_succ]
  go_wp2_with fail
  go_ret
  exact ⟨ret_bool HK.out.symm, rfl⟩
theorem sign_94 (x : Int) (hx : x = 94) (w : World) : Calls Tryz.prog 89 #[.int .u8 x] w fun e w' => e = .returned (.bool (sI x)) ∧ w' = w := by
  subst hx
  have HK : Hid (sI 94 = true) := Lib.hid (by decide)
  go_enter Tryz.func89, Tryz.ntmps89
  go_wp2_with fail
  refine wp_loop_rounds 16 ?_
  rw [rounds_succ]
  go_wp2_with fail
  rw [rounds_succ]
  go_wp2_with fail
  rw [rounds_succ]
  go_wp2_with fail
  rw [rounds_succ]
  go_wp2_with fail
  rw [rounds_succ]
  go_wp2_with fail
  rw [rounds_succ]
  go_wp2_with fail
  rw [rounds_succ]
  go_wp2_with fail
  rw [rounds_succ]
  go_wp2_with fail
  rw [rounds_succ]
  go_wp2_with fail
  rw [rounds_succ]
  go_wp2_with fail
  rw [rounds_succ]
  go_wp2_with fail
  go_ret
  exact ⟨ret_bool HK.out.symm, rfl⟩
theorem sign_95 (x : Int) (hx : x = 95) (w : World) : Calls Tryz.prog 89 #[.int .u8 x] w fun e w' => e = .returned (.bool (sI x)) ∧ w' = w := by
  subst hx
  have HK : Hid (sI 95 = true) := Lib.hid (by decide)
  go_enter Tryz.func89, Tryz.ntmps89
  go_wp2_with fail
  refine wp_loop_rounds 16 ?_
  rw [rounds_succ]
  go_wp2_with fail
  rw [rounds_succ]
  go_wp2_with fail
  rw [rounds_succ]
  go_wp2_with fail
  rw [rounds_succ]
  go_wp2_with fail
  rw [rounds_succ]
  go_wp2_with fail
  rw [rounds_succ]
  go_wp2_with fail
  rw [rounds_succ]
  go_wp2_with fail
  rw [rounds_succ]
  go_wp2_with fail
  rw [rounds_succ]
  go_wp2_with fail
  rw [rounds_succ]
  go_wp2_with fail
  rw [rounds_succ]
  go_wp2_with fail
  rw [rounds_succ]
  go_wp2_with fail
  go_ret
  exact ⟨ret_bool HK.out.symm, rfl⟩
theorem sign_96 (x : Int) (hx : x = 96) (w : World) : Calls Tryz.prog 89 #[.int .u8 x] w fun e w' => e = .returned (.bool (sI x)) ∧ w' = w := by
  subst hx
  have HK : Hid (sI 96 = true) := Lib.hid (by decide)
  go_enter Tryz.func89, Tryz.ntmps89
  go_wp2_with fail
  refine wp_loop_rounds 16 ?_
  rw [rounds_succ]
  go_wp2_with fail
  rw [rounds_succ]
  go_wp2_with fail
  rw [rounds_succ]
  go_wp2_with fail
  rw [rounds_succ]
  go_wp2_with fail
  rw [rounds_succ]
  go_wp2_with fail
  rw [rounds_succ]
  go_wp2_with fail
  rw [rounds_succ]
  go_wp2_with fail
  rw [rounds_succ]
  go_wp2_with fail
  rw [rounds_succ]
  go_wp2_with fail
  rw [rounds_succ]
  go_wp2_with fail
  rw [rounds_succ]
  go_wp2_with fail
  rw [rounds_succ]
  go_wp2_with fail
  rw [rounds_succ]
  go_wp2_with fail
  go_ret
  exact ⟨ret_bool HK.out.symm, rfl⟩
theorem sign_124 (x : Int) (hx : x = 124) (w : World) : Calls Tryz.prog 89 #[.int .u8 x] w fun e w' => e = .returned (.bool (sI x)) ∧ w' = w := by
  subst hx
  have HK : Hid (sI 124 = true) := Lib.hid (by decide)
  go_enter Tryz.func89, Tryz.ntmps89
  go_wp2_with fail
  refine wp_loop_rounds 16 ?_
  rw [rounds_succ]
  go_wp2_with fail
  rw [rounds_succ]
  go_wp2_with fail
  rw [rounds_succ]
  go_wp2_with fail
  rw [rounds_succ]
  go_wp2_with fail
  rw [rounds_succ]
  go_wp2_with fail
  rw [rounds_succ]
  go_wp2_with fail
  rw [rounds_succ]
  go_wp2_with fail
  rw [rounds_succ]
  go_wp2_with fail
  rw [rounds_succ]
  go_wp2_with fail
  rw [rounds_succ]
  go_wp2_with fail
  rw [rounds_succ]
  go_wp2_with fail
  rw [rounds_succ]
  go_wp2_with fail
  rw [rounds_succ]
  go_wp2_with fail
  rw [rounds_succ]
  go_wp2_with fail
  go_ret
  exact ⟨ret_bool HK.out.symm, rfl⟩
theorem sign_126 (x : Int) (hx : x = 126) (w : World) : Calls Tryz.prog 89 #[.int .u8 x] w fun e w' => e = .returned (.bool (sI x)) ∧ w' = w := by
  subst hx
  have HK : Hid (sI 126 = true) := Lib.hid (by decide)
  go_enter Tryz.func89, Tryz.ntmps89
  go_wp2_with fail
  refine wp_loop_rounds 16 ?_
  rw [rounds_succ]
  go_wp2_with fail
  rw [rounds_succ]
  go_wp2_with fail
  rw [rounds_succ]
  go_wp2_with fail
  rw [rounds_succ]
  go_wp2_with fail
  rw [rounds_succ]
  go_wp2_with fail
  rw [rounds_succ]
  go_wp2_with fail
  rw [rounds_succ]
  go_wp2_with fail
  rw [rounds_succ]
  go_wp2_with fail
  rw [rounds_succ]
  go_wp2_with fail
  rw [rounds_succ]
  go_wp2_with fail
  rw [rounds_succ]
  go_wp2_with fail
  rw [rounds_succ]
  go_wp2_with fail
  rw [rounds_succ]
  go_wp2_with fail
  rw [rounds_succ]
  go_wp2_with fail
  rw [rounds_succ]
  go_wp2_with fail
  go_ret
  exact ⟨ret_bool HK.out.symm, rfl⟩
set_option maxHeartbeats 4000000 in
theorem sign_int (x : Int) (h0 : 0 ≤ x) (h1 : x < 256) (w : World) : Calls Tryz.prog 89 #[.int .u8 x] w fun e w' => e = .returned (.bool (sI x)) ∧ w' = w := by
  by_cases h_g65 : 65 ≤ x
  · have d_g65 : decide (65 ≤ x) = true := by simpa using h_g65
    by_cases h_l90 : x ≤ 90
    · have d_l90 : decide (x ≤ 90) = true := by simpa using h_l90
      have HK : Hid (sI x = true) := Lib.hid (by simp only [sI, Bool.or_eq_true, Bool.and_eq_true, decide_eq_true_eq]; omega)
      clear h_g65 h_l90
      go_enter Tryz.func89, Tryz.ntmps89
      go_wp2_with fail
      go_ret
      exact ⟨ret_bool HK.out.symm, rfl⟩
    · have d_l90 : decide (x ≤ 90) = false := by simpa using h_l90
      by_cases h_g97 : 97 ≤ x
      · have d_g97 : decide (97 ≤ x) = true := by simpa using h_g97
        by_cases h_l122 : x ≤ 122
        · have d_l122 : decide (x ≤ 122) = true := by simpa using h_l122
          have HK : Hid (sI x = true) := Lib.hid (by simp only [sI, Bool.or_eq_true, Bool.and_eq_true, decide_eq_true_eq]; omega)
          clear h_g65 h_l90 h_g97 h_l122
          go_enter Tryz.func89, Tryz.ntmps89
          go_wp2_with fail
          go_ret
          exact ⟨ret_bool HK.out.symm, rfl⟩
        · have d_l122 : decide (x ≤ 122) = false := by simpa using h_l122
          by_cases h_g48 : 48 ≤ x
          · have d_g48 : decide (48 ≤ x) = true := by simpa using h_g48
            by_cases h_l57 : x ≤ 57
            · have d_l57 : decide (x ≤ 57) = true := by simpa using h_l57
              exfalso; omega
            · have d_l57 : decide (x ≤ 57) = false := by simpa using h_l57
              by_cases s33 : x = 33
              · exfalso; omega
              by_cases s35 : x = 35
              · exfalso; omega
              by_cases s36 : x = 36
              · exfalso; omega
              by_cases s37 : x = 37
              · exfalso; omega
              by_cases s38 : x = 38
              · exfalso; omega
              by_cases s39 : x = 39
              · exfalso; omega
              by_cases s42 : x = 42
              · exfalso; omega
              by_cases s43 : x = 43
              · exfalso; omega
              by_cases s45 : x = 45
              · exfalso; omega
              by_cases s46 : x = 46
              · exfalso; omega
              by_cases s94 : x = 94
              · exfalso; omega
              by_cases s95 : x = 95
              · exfalso; omega
              by_cases s96 : x = 96
              · exfalso; omega
              by_cases s124 : x = 124
              · exact sign_124 x s124 w
              by_cases s126 : x = 126
              · exact sign_126 x s126 w
              have HK : Hid (sI x = false) := Lib.hid (by simp [sI]; omega)
              have t33 : (((((⟨#[33, 35, 36, 37, 38, 39, 42, 43, 45, 46, 94, 95, 96, 124, 126]⟩ : ByteArray)[0]'(by decide)).toNat : Nat) : Int) == x) = false := by
                have h : ((33 : Int) == x) = false := by
                  simp
                  omega
                exact h
              have t35 : (((((⟨#[33, 35, 36, 37, 38, 39, 42, 43, 45, 46, 94, 95, 96, 124, 126]⟩ : ByteArray)[1]'(by decide)).toNat : Nat) : Int) == x) = false := by
                have h : ((35 : Int) == x) = false := by
                  simp
                  omega
                exact h
              have t36 : (((((⟨#[33, 35, 36, 37, 38, 39, 42, 43, 45, 46, 94, 95, 96, 124, 126]⟩ : ByteArray)[2]'(by decide)).toNat : Nat) : Int) == x) = false := by
                have h : ((36 : Int) == x) = false := by
                  simp
                  omega
                exact h
              have t37 : (((((⟨#[33, 35, 36, 37, 38, 39, 42, 43, 45, 46, 94, 95, 96, 124, 126]⟩ : ByteArray)[3]'(by decide)).toNat : Nat) : Int) == x) = false := by
                have h : ((37 : Int) == x) = false := by
                  simp
                  omega
                exact h
              have t38 : (((((⟨#[33, 35, 36, 37, 38, 39, 42, 43, 45, 46, 94, 95, 96, 124, 126]⟩ : ByteArray)[4]'(by decide)).toNat : Nat) : Int) == x) = false := by
                have h : ((38 : Int) == x) = false := by
                  simp
                  omega
                exact h
              have t39 : (((((⟨#[33, 35, 36, 37, 38, 39, 42, 43, 45, 46, 94, 95, 96, 124, 126]⟩ : ByteArray)[5]'(by decide)).toNat : Nat) : Int) == x) = false := by
                have h : ((39 : Int) == x) = false := by
                  simp
                  omega
                exact h
              have t42 : (((((⟨#[33, 35, 36, 37, 38, 39, 42, 43, 45, 46, 94, 95, 96, 124, 126]⟩ : ByteArray)[6]'(by decide)).toNat : Nat) : Int) == x) = false := by
                have h : ((42 : Int) == x) = false := by
                  simp
                  omega
                exact h
              have t43 : (((((⟨#[33, 35, 36, 37, 38, 39, 42, 43, 45, 46, 94, 95, 96, 124, 126]⟩ : ByteArray)[7]'(by decide)).toNat : Nat) : Int) == x) = false := by
                have h : ((43 : Int) == x) = false := by
                  simp
                  omega
                exact h
              have t45 : (((((⟨#[33, 35, 36, 37, 38, 39, 42, 43, 45, 46, 94, 95, 96, 124, 126]⟩ : ByteArray)[8]'(by decide)).toNat : Nat) : Int) == x) = false := by
                have h : ((45 : Int) == x) = false := by
                  simp
                  omega
                exact h
              have t46 : (((((⟨#[33, 35, 36, 37, 38, 39, 42, 43, 45, 46, 94, 95, 96, 124, 126]⟩ : ByteArray)[9]'(by decide)).toNat : Nat) : Int) == x) = false := by
                have h : ((46 : Int) == x) = false := by
                  simp
                  omega
                exact h
              have t94 : (((((⟨#[33, 35, 36, 37, 38, 39, 42, 43, 45, 46, 94, 95, 96, 124, 126]⟩ : ByteArray)[10]'(by decide)).toNat : Nat) : Int) == x) = false := by
                have h : ((94 : Int) == x) = false := by
                  simp
                  omega
                exact h
              have t95 : (((((⟨#[33, 35, 36, 37, 38, 39, 42, 43, 45, 46, 94, 95, 96, 124, 126]⟩ : ByteArray)[11]'(by decide)).toNat : Nat) : Int) == x) = false := by
                have h : ((95 : Int) == x) = false := by
                  simp
                  omega
                exact h
              have t96 : (((((⟨#[33, 35, 36, 37, 38, 39, 42, 43, 45, 46, 94, 95, 96, 124, 126]⟩ : ByteArray)[12]'(by decide)).toNat : Nat) : Int) == x) = false := by
                have h : ((96 : Int) == x) = false := by
                  simp
                  omega
                exact h
              have t124 : (((((⟨#[33, 35, 36, 37, 38, 39, 42, 43, 45, 46, 94, 95, 96, 124, 126]⟩ : ByteArray)[13]'(by decide)).toNat : Nat) : Int) == x) = false := by
                have h : ((124 : Int) == x) = false := by
                  simp
                  omega
                exact h
              have t126 : (((((⟨#[33, 35, 36, 37, 38, 39, 42, 43, 45, 46, 94, 95, 96, 124, 126]⟩ : ByteArray)[14]'(by decide)).toNat : Nat) : Int) == x) = false := by
                have h : ((126 : Int) == x) = false := by
                  simp
                  omega
                exact h
              clear h_g65 h_l90 h_g97 h_l122 h_g48 h_l57 s33 s35 s36 s37 s38 s39 s42 s43 s45 s46 s94 s95 s96 s124 s126
              go_enter Tryz.func89, Tryz.ntmps89
              go_wp2_with fail
              refine wp_loop_rounds 16 ?_
              rw [rounds_succ]
              go_wp2_with fail
              rw [rounds_succ]
              go_wp2_with fail
              rw [rounds_succ]
              go_wp2_with fail
              rw [rounds_succ]
              go_wp2_with fail
              rw [rounds_succ]
              go_wp2_with fail
              rw [rounds_succ]
              go_wp2_with fail
              rw [rounds_succ]
              go_wp2_with fail
              rw [rounds_succ]
              go_wp2_with fail
              rw [rounds_succ]
              go_wp2_with fail
              rw [rounds_succ]
              go_wp2_with fail
              rw [rounds_succ]
              go_wp2_with fail
              rw [rounds_succ]
              go_wp2_with fail
              rw [rounds_succ]
              go_wp2_with fail
              rw [rounds_succ]
              go_wp2_with fail
              rw [rounds_succ]
              go_wp2_with fail
              rw [rounds_succ]
              go_wp2_with fail
              go_ret
              exact ⟨ret_bool HK.out.symm, rfl⟩
          · have d_g48 : decide (48 ≤ x) = false := by simpa using h_g48
            exfalso; omega
      · have d_g97 : decide (97 ≤ x) = false := by simpa using h_g97
        by_cases h_g48 : 48 ≤ x
        · have d_g48 : decide (48 ≤ x) = true := by simpa using h_g48
          by_cases h_l57 : x ≤ 57
          · have d_l57 : decide (x ≤ 57) = true := by simpa using h_l57
            exfalso; omega
          · have d_l57 : decide (x ≤ 57) = false := by simpa using h_l57
            by_cases s33 : x = 33
            · exfalso; omega
            by_cases s35 : x = 35
            · exfalso; omega
            by_cases s36 : x = 36
            · exfalso; omega
            by_cases s37 : x = 37
            · exfalso; omega
            by_cases s38 : x = 38
            · exfalso; omega
            by_cases s39 : x = 39
            · exfalso; omega
            by_cases s42 : x = 42
            · exfalso; omega
            by_cases s43 : x = 43
            · exfalso; omega
            by_cases s45 : x = 45
            · exfalso; omega
            by_cases s46 : x = 46
            · exfalso; omega
            by_cases s94 : x = 94
            · exact sign_94 x s94 w
            by_cases s95 : x = 95
            · exact sign_95 x s95 w
            by_cases s96 : x = 96
            · exact sign_96 x s96 w
            by_cases s124 : x = 124
            · exfalso; omega
            by_cases s126 : x = 126
            · exfalso; omega
            have HK : Hid (sI x = false) := Lib.hid (by simp [sI]; omega)
            have t33 : (((((⟨#[33, 35, 36, 37, 38, 39, 42, 43, 45, 46, 94, 95, 96, 124, 126]⟩ : ByteArray)[0]'(by decide)).toNat : Nat) : Int) == x) = false := by
              have h : ((33 : Int) == x) = false := by
                simp
                omega
              exact h
            have t35 : (((((⟨#[33, 35, 36, 37, 38, 39, 42, 43, 45, 46, 94, 95, 96, 124, 126]⟩ : ByteArray)[1]'(by decide)).toNat : Nat) : Int) == x) = false := by
              have h : ((35 : Int) == x) = false := by
                simp
                omega
              exact h
            have t36 : (((((⟨#[33, 35, 36, 37, 38, 39, 42, 43, 45, 46, 94, 95, 96, 124, 126]⟩ : ByteArray)[2]'(by decide)).toNat : Nat) : Int) == x) = false := by
              have h : ((36 : Int) == x) = false := by
                simp
                omega
              exact h
            have t37 : (((((⟨#[33, 35, 36, 37, 38, 39, 42, 43, 45, 46, 94, 95, 96, 124, 126]⟩ : ByteArray)[3]'(by decide)).toNat : Nat) : Int) == x) = false := by
              have h : ((37 : Int) == x) = false := by
                simp
                omega
              exact h
            have t38 : (((((⟨#[33, 35, 36, 37, 38, 39, 42, 43, 45, 46, 94, 95, 96, 124, 126]⟩ : ByteArray)[4]'(by decide)).toNat : Nat) : Int) == x) = false := by
              have h : ((38 : Int) == x) = false := by
                simp
                omega
              exact h
            have t39 : (((((⟨#[33, 35, 36, 37, 38, 39, 42, 43, 45, 46, 94, 95, 96, 124, 126]⟩ : ByteArray)[5]'(by decide)).toNat : Nat) : Int) == x) = false := by
              have h : ((39 : Int) == x) = false := by
                simp
                omega
              exact h
            have t42 : (((((⟨#[33, 35, 36, 37, 38, 39, 42, 43, 45, 46, 94, 95, 96, 124, 126]⟩ : ByteArray)[6]'(by decide)).toNat : Nat) : Int) == x) = false := by
              have h : ((42 : Int) == x) = false := by
                simp
                omega
              exact h
            have t43 : (((((⟨#[33, 35, 36, 37, 38, 39, 42, 43, 45, 46, 94, 95, 96, 124, 126]⟩ : ByteArray)[7]'(by decide)).toNat : Nat) : Int) == x) = false := by
              have h : ((43 : Int) == x) = false := by
                simp
                omega
              exact h
            have t45 : (((((⟨#[33, 35, 36, 37, 38, 39, 42, 43, 45, 46, 94, 95, 96, 124, 126]⟩ : ByteArray)[8]'(by decide)).toNat : Nat) : Int) == x) = false := by
              have h : ((45 : Int) == x) = false := by
                simp
                omega
              exact h
            have t46 : (((((⟨#[33, 35, 36, 37, 38, 39, 42, 43, 45, 46, 94, 95, 96, 124, 126]⟩ : ByteArray)[9]'(by decide)).toNat : Nat) : Int) == x) = false := by
              have h : ((46 : Int) == x) = false := by
                simp
                omega
              exact h
            have t94 : (((((⟨#[33, 35, 36, 37, 38, 39, 42, 43, 45, 46, 94, 95, 96, 124, 126]⟩ : ByteArray)[10]'(by decide)).toNat : Nat) : Int) == x) = false := by
              have h : ((94 : Int) == x) = false := by
                simp
                omega
              exact h
            have t95 : (((((⟨#[33, 35, 36, 37, 38, 39, 42, 43, 45, 46, 94, 95, 96, 124, 126]⟩ : ByteArray)[11]'(by decide)).toNat : Nat) : Int) == x) = false := by
              have h : ((95 : Int) == x) = false := by
                simp
                omega
              exact h
            have t96 : (((((⟨#[33, 35, 36, 37, 38, 39, 42, 43, 45, 46, 94, 95, 96, 124, 126]⟩ : ByteArray)[12]'(by decide)).toNat : Nat) : Int) == x) = false := by
              have h : ((96 : Int) == x) = false := by
                simp
                omega
              exact h
            have t124 : (((((⟨#[33, 35, 36, 37, 38, 39, 42, 43, 45, 46, 94, 95, 96, 124, 126]⟩ : ByteArray)[13]'(by decide)).toNat : Nat) : Int) == x) = false := by
              have h : ((124 : Int) == x) = false := by
                simp
                omega
              exact h
            have t126 : (((((⟨#[33, 35, 36, 37, 38, 39, 42, 43, 45, 46, 94, 95, 96, 124, 126]⟩ : ByteArray)[14]'(by decide)).toNat : Nat) : Int) == x) = false := by
              have h : ((126 : Int) == x) = false := by
                simp
                omega
              exact h
            clear h_g65 h_l90 h_g97 h_g48 h_l57 s33 s35 s36 s37 s38 s39 s42 s43 s45 s46 s94 s95 s96 s124 s126
            go_enter Tryz.func89, Tryz.ntmps89
            go_wp2_with fail
            refine wp_loop_rounds 16 ?_
            rw [rounds_succ]
            go_wp2_with fail
            rw [rounds_succ]
            go_wp2_with fail
            rw [rounds_succ]
            go_wp2_with fail
            rw [rounds_succ]
            go_wp2_with fail
            rw [rounds_succ]
            go_wp2_with fail
            rw [rounds_succ]
            go_wp2_with fail
            rw [rounds_succ]
            go_wp2_with fail
            rw [rounds_succ]
            go_wp2_with fail
            rw [rounds_succ]
            go_wp2_with fail
            rw [rounds_succ]
            go_wp2_with fail
            rw [rounds_succ]
            go_wp2_with fail
            rw [rounds_succ]
            go_wp2_with fail
            rw [rounds_succ]
            go_wp2_with fail
            rw [rounds_succ]
            go_wp2_with fail
            rw [rounds_succ]
            go_wp2_with fail
            rw [rounds_succ]
            go_wp2_with fail
            go_ret
            exact ⟨ret_bool HK.out.symm, rfl⟩
        · have d_g48 : decide (48 ≤ x) = false := by simpa using h_g48
          exfalso; omega
  · have d_g65 : decide (65 ≤ x) = false := by simpa using h_g65
    by_cases h_g97 : 97 ≤ x
    · have d_g97 : decide (97 ≤ x) = true := by simpa using h_g97
      exfalso; omega
    · have d_g97 : decide (97 ≤ x) = false := by simpa using h_g97
      by_cases h_g48 : 48 ≤ x
      · have d_g48 : decide (48 ≤ x) = true := by simpa using h_g48
        by_cases h_l57 : x ≤ 57
        · have d_l57 : decide (x ≤ 57) = true := by simpa using h_l57
          have HK : Hid (sI x = true) := Lib.hid (by simp only [sI, Bool.or_eq_true, Bool.and_eq_true, decide_eq_true_eq]; omega)
          clear h_g65 h_g97 h_g48 h_l57
          go_enter Tryz.func89, Tryz.ntmps89
          go_wp2_with fail
          go_ret
          exact ⟨ret_bool HK.out.symm, rfl⟩
        · have d_l57 : decide (x ≤ 57) = false := by simpa using h_l57
          by_cases s33 : x = 33
          · exfalso; omega
          by_cases s35 : x = 35
          · exfalso; omega
          by_cases s36 : x = 36
          · exfalso; omega
          by_cases s37 : x = 37
          · exfalso; omega
          by_cases s38 : x = 38
          · exfalso; omega
          by_cases s39 : x = 39
          · exfalso; omega
          by_cases s42 : x = 42
          · exfalso; omega
          by_cases s43 : x = 43
          · exfalso; omega
          by_cases s45 : x = 45
          · exfalso; omega
          by_cases s46 : x = 46
          · exfalso; omega
          by_cases s94 : x = 94
          · exfalso; omega
          by_cases s95 : x = 95
          · exfalso; omega
          by_cases s96 : x = 96
          · exfalso; omega
          by_cases s124 : x = 124
          · exfalso; omega
          by_cases s126 : x = 126
          · exfalso; omega
          have HK : Hid (sI x = false) := Lib.hid (by simp [sI]; omega)
          have t33 : (((((⟨#[33, 35, 36, 37, 38, 39, 42, 43, 45, 46, 94, 95, 96, 124, 126]⟩ : ByteArray)[0]'(by decide)).toNat : Nat) : Int) == x) = false := by
            have h : ((33 : Int) == x) = false := by
              simp
              omega
            exact h
          have t35 : (((((⟨#[33, 35, 36, 37, 38, 39, 42, 43, 45, 46, 94, 95, 96, 124, 126]⟩ : ByteArray)[1]'(by decide)).toNat : Nat) : Int) == x) = false := by
            have h : ((35 : Int) == x) = false := by
              simp
              omega
            exact h
          have t36 : (((((⟨#[33, 35, 36, 37, 38, 39, 42, 43, 45, 46, 94, 95, 96, 124, 126]⟩ : ByteArray)[2]'(by decide)).toNat : Nat) : Int) == x) = false := by
            have h : ((36 : Int) == x) = false := by
              simp
              omega
            exact h
          have t37 : (((((⟨#[33, 35, 36, 37, 38, 39, 42, 43, 45, 46, 94, 95, 96, 124, 126]⟩ : ByteArray)[3]'(by decide)).toNat : Nat) : Int) == x) = false := by
            have h : ((37 : Int) == x) = false := by
              simp
              omega
            exact h
          have t38 : (((((⟨#[33, 35, 36, 37, 38, 39, 42, 43, 45, 46, 94, 95, 96, 124, 126]⟩ : ByteArray)[4]'(by decide)).toNat : Nat) : Int) == x) = false := by
            have h : ((38 : Int) == x) = false := by
              simp
              omega
            exact h
          have t39 : (((((⟨#[33, 35, 36, 37, 38, 39, 42, 43, 45, 46, 94, 95, 96, 124, 126]⟩ : ByteArray)[5]'(by decide)).toNat : Nat) : Int) == x) = false := by
            have h : ((39 : Int) == x) = false := by
              simp
              omega
            exact h
          have t42 : (((((⟨#[33, 35, 36, 37, 38, 39, 42, 43, 45, 46, 94, 95, 96, 124, 126]⟩ : ByteArray)[6]'(by decide)).toNat : Nat) : Int) == x) = false := by
            have h : ((42 : Int) == x) = false := by
              simp
              omega
            exact h
          have t43 : (((((⟨#[33, 35, 36, 37, 38, 39, 42, 43, 45, 46, 94, 95, 96, 124, 126]⟩ : ByteArray)[7]'(by decide)).toNat : Nat) : Int) == x) = false := by
            have h : ((43 : Int) == x) = false := by
              simp
              omega
            exact h
          have t45 : (((((⟨#[33, 35, 36, 37, 38, 39, 42, 43, 45, 46, 94, 95, 96, 124, 126]⟩ : ByteArray)[8]'(by decide)).toNat : Nat) : Int) == x) = false := by
            have h : ((45 : Int) == x) = false := by
              simp
              omega
            exact h
          have t46 : (((((⟨#[33, 35, 36, 37, 38, 39, 42, 43, 45, 46, 94, 95, 96, 124, 126]⟩ : ByteArray)[9]'(by decide)).toNat : Nat) : Int) == x) = false := by
            have h : ((46 : Int) == x) = false := by
              simp
              omega
            exact h
          have t94 : (((((⟨#[33, 35, 36, 37, 38, 39, 42, 43, 45, 46, 94, 95, 96, 124, 126]⟩ : ByteArray)[10]'(by decide)).toNat : Nat) : Int) == x) = false := by
            have h : ((94 : Int) == x) = false := by
              simp
              omega
            exact h
          have t95 : (((((⟨#[33, 35, 36, 37, 38, 39, 42, 43, 45, 46, 94, 95, 96, 124, 126]⟩ : ByteArray)[11]'(by decide)).toNat : Nat) : Int) == x) = false := by
            have h : ((95 : Int) == x) = false := by
              simp
              omega
            exact h
          have t96 : (((((⟨#[33, 35, 36, 37, 38, 39, 42, 43, 45, 46, 94, 95, 96, 124, 126]⟩ : ByteArray)[12]'(by decide)).toNat : Nat) : Int) == x) = false := by
            have h : ((96 : Int) == x) = false := by
              simp
              omega
            exact h
          have t124 : (((((⟨#[33, 35, 36, 37, 38, 39, 42, 43, 45, 46, 94, 95, 96, 124, 126]⟩ : ByteArray)[13]'(by decide)).toNat : Nat) : Int) == x) = false := by
            have h : ((124 : Int) == x) = false := by
              simp
              omega
            exact h
          have t126 : (((((⟨#[33, 35, 36, 37, 38, 39, 42, 43, 45, 46, 94, 95, 96, 124, 126]⟩ : ByteArray)[14]'(by decide)).toNat : Nat) : Int) == x) = false := by
            have h : ((126 : Int) == x) = false := by
              simp
              omega
            exact h
          clear h_g65 h_g97 h_g48 h_l57 s33 s35 s36 s37 s38 s39 s42 s43 s45 s46 s94 s95 s96 s124 s126
          go_enter Tryz.func89, Tryz.ntmps89
          go_wp2_with fail
          refine wp_loop_rounds 16 ?_
          rw [rounds_succ]
          go_wp2_with fail
          rw [rounds_succ]
          go_wp2_with fail
          rw [rounds_succ]
          go_wp2_with fail
          rw [rounds_succ]
          go_wp2_with fail
          rw [rounds_succ]
          go_wp2_with fail
          rw [rounds_succ]
          go_wp2_with fail
          rw [rounds_succ]
          go_wp2_with fail
          rw [rounds_succ]
          go_wp2_with fail
          rw [rounds_succ]
          go_wp2_with fail
          rw [rounds_succ]
          go_wp2_with fail
          rw [rounds_succ]
          go_wp2_with fail
          rw [rounds_succ]
          go_wp2_with fail
          rw [rounds_succ]
          go_wp2_with fail
          rw [rounds_succ]
          go_wp2_with fail
          rw [rounds_succ]
          go_wp2_with fail
          rw [rounds_succ]
          go_wp2_with fail
          go_ret
          exact ⟨ret_bool HK.out.symm, rfl⟩
      · have d_g48 : decide (48 ≤ x) = false := by simpa using h_g48
        by_cases s33 : x = 33
        · exact sign_33 x s33 w
        by_cases s35 : x = 35
        · exact sign_35 x s35 w
        by_cases s36 : x = 36
        · exact sign_36 x s36 w
        by_cases s37 : x = 37
        · exact sign_37 x s37 w
        by_cases s38 : x = 38
        · exact sign_38 x s38 w
        by_cases s39 : x = 39
        · exact sign_39 x s39 w
        by_cases s42 : x = 42
        · exact sign_42 x s42 w
        by_cases s43 : x = 43
        · exact sign_43 x s43 w
        by_cases s45 : x = 45
        · exact sign_45 x s45 w
        by_cases s46 : x = 46
        · exact sign_46 x s46 w
        by_cases s94 : x = 94
        · exfalso; omega
        by_cases s95 : x = 95
        · exfalso; omega
        by_cases s96 : x = 96
        · exfalso; omega
        by_cases s124 : x = 124
        · exfalso; omega
        by_cases s126 : x = 126
        · exfalso; omega
        have HK : Hid (sI x = false) := Lib.hid (by simp [sI]; omega)
        have t33 : (((((⟨#[33, 35, 36, 37, 38, 39, 42, 43, 45, 46, 94, 95, 96, 124, 126]⟩ : ByteArray)[0]'(by decide)).toNat : Nat) : Int) == x) = false := by
          have h : ((33 : Int) == x) = false := by
            simp
            omega
          exact h
        have t35 : (((((⟨#[33, 35, 36, 37, 38, 39, 42, 43, 45, 46, 94, 95, 96, 124, 126]⟩ : ByteArray)[1]'(by decide)).toNat : Nat) : Int) == x) = false := by
          have h : ((35 : Int) == x) = false := by
            simp
            omega
          exact h
        have t36 : (((((⟨#[33, 35, 36, 37, 38, 39, 42, 43, 45, 46, 94, 95, 96, 124, 126]⟩ : ByteArray)[2]'(by decide)).toNat : Nat) : Int) == x) = false := by
          have h : ((36 : Int) == x) = false := by
            simp
            omega
          exact h
        have t37 : (((((⟨#[33, 35, 36, 37, 38, 39, 42, 43, 45, 46, 94, 95, 96, 124, 126]⟩ : ByteArray)[3]'(by decide)).toNat : Nat) : Int) == x) = false := by
          have h : ((37 : Int) == x) = false := by
            simp
            omega
          exact h
        have t38 : (((((⟨#[33, 35, 36, 37, 38, 39, 42, 43, 45, 46, 94, 95, 96, 124, 126]⟩ : ByteArray)[4]'(by decide)).toNat : Nat) : Int) == x) = false := by
          have h : ((38 : Int) == x) = false := by
            simp
            omega
          exact h
        have t39 : (((((⟨#[33, 35, 36, 37, 38, 39, 42, 43, 45, 46, 94, 95, 96, 124, 126]⟩ : ByteArray)[5]'(by decide)).toNat : Nat) : Int) == x) = false := by
          have h : ((39 : Int) == x) = false := by
            simp
            omega
          exact h
        have t42 : (((((⟨#[33, 35, 36, 37, 38, 39, 42, 43, 45, 46, 94, 95, 96, 124, 126]⟩ : ByteArray)[6]'(by decide)).toNat : Nat) : Int) == x) = false := by
          have h : ((42 : Int) == x) = false := by
            simp
            omega
          exact h
        have t43 : (((((⟨#[33, 35, 36, 37, 38, 39, 42, 43, 45, 46, 94, 95, 96, 124, 126]⟩ : ByteArray)[7]'(by decide)).toNat : Nat) : Int) == x) = false := by
          have h : ((43 : Int) == x) = false := by
            simp
            omega
          exact h
        have t45 : (((((⟨#[33, 35, 36, 37, 38, 39, 42, 43, 45, 46, 94, 95, 96, 124, 126]⟩ : ByteArray)[8]'(by decide)).toNat : Nat) : Int) == x) = false := by
          have h : ((45 : Int) == x) = false := by
            simp
            omega
          exact h
        have t46 : (((((⟨#[33, 35, 36, 37, 38, 39, 42, 43, 45, 46, 94, 95, 96, 124, 126]⟩ : ByteArray)[9]'(by decide)).toNat : Nat) : Int) == x) = false := by
          have h : ((46 : Int) == x) = false := by
            simp
            omega
          exact h
        have t94 : (((((⟨#[33, 35, 36, 37, 38, 39, 42, 43, 45, 46, 94, 95, 96, 124, 126]⟩ : ByteArray)[10]'(by decide)).toNat : Nat) : Int) == x) = false := by
          have h : ((94 : Int) == x) = false := by
            simp
            omega
          exact h
        have t95 : (((((⟨#[33, 35, 36, 37, 38, 39, 42, 43, 45, 46, 94, 95, 96, 124, 126]⟩ : ByteArray)[11]'(by decide)).toNat : Nat) : Int) == x) = false := by
          have h : ((95 : Int) == x) = false := by
            simp
            omega
          exact h
        have t96 : (((((⟨#[33, 35, 36, 37, 38, 39, 42, 43, 45, 46, 94, 95, 96, 124, 126]⟩ : ByteArray)[12]'(by decide)).toNat : Nat) : Int) == x) = false := by
          have h : ((96 : Int) == x) = false := by
            simp
            omega
          exact h
        have t124 : (((((⟨#[33, 35, 36, 37, 38, 39, 42, 43, 45, 46, 94, 95, 96, 124, 126]⟩ : ByteArray)[13]'(by decide)).toNat : Nat) : Int) == x) = false := by
          have h : ((124 : Int) == x) = false := by
            simp
            omega
          exact h
        have t126 : (((((⟨#[33, 35, 36, 37, 38, 39, 42, 43, 45, 46, 94, 95, 96, 124, 126]⟩ : ByteArray)[14]'(by decide)).toNat : Nat) : Int) == x) = false := by
          have h : ((126 : Int) == x) = false := by
            simp
            omega
          exact h
        clear h_g65 h_g97 h_g48 s33 s35 s36 s37 s38 s39 s42 s43 s45 s46 s94 s95 s96 s124 s126
        go_enter Tryz.func89, Tryz.ntmps89
        go_wp2_with fail
        refine wp_loop_rounds 16 ?_
        rw [rounds_succ]
        go_wp2_with fail
        rw [rounds_succ]
        go_wp2_with fail
        rw [rounds_succ]
        go_wp2_with fail
        rw [rounds_succ]
        go_wp2_with fail
        rw [rounds_succ]
        go_wp2_with fail
        rw [rounds_succ]
        go_wp2_with fail
        rw [rounds_succ]
        go_wp2_with fail
        rw [rounds_succ]
        go_wp2_with fail
        rw [rounds_succ]
        go_wp2_with fail
        rw [rounds_succ]
        go_wp2_with fail
        rw [rounds_succ]
        go_wp2_with fail
        rw [rounds_succ]
        go_wp2_with fail
        rw [rounds_succ]
        go_wp2_with fail
        rw [rounds_succ]
        go_wp2_with fail
        rw [rounds_succ]
        go_wp2_with fail
        rw [rounds_succ]
        go_wp2_with fail
        go_ret
        exact ⟨ret_bool HK.out.symm, rfl⟩
end Go.Proofs.YtppabkllconkjaaGreatDoor.Med
/- The contracts of the document's own within, token, blanks. -/
namespace Go.Proofs.YtppabkllconkjaaGreatDoor.Med
open Go.RowKit
set_option linter.unusedVariables false
set_option linter.unusedSimpArgs false
set_option maxRecDepth 100000
def wI (x : Int) : Bool := decide (x = 9) || (decide (32 ≤ x) && decide (x ≤ 126) && decide (x ≠ 34) && decide (x ≠ 92)) || decide (128 ≤ x)
theorem wth_wI (c : UInt8) : wth c = wI (c.toNat : Int) := by
  have : ∀ c : Fin 256, wth (UInt8.ofNat c) = wI (c.val : Int) := by decide +kernel
  have k := this ⟨c.toNat, c.toNat_lt⟩
  simpa using k
set_option maxHeartbeats 2000000 in
theorem within_int (x : Int) (h0 : 0 ≤ x) (h1 : x < 256) (w : World) : Calls Tryz.prog 123 #[.int .u8 x] w fun e w' => e = .returned (.bool (wI x)) ∧ w' = w := by
  by_cases h_e9 : x = 9
  · have d_e9 : (x == 9) = true := by simpa using h_e9
    have HK : Hid (wI x = true) := Lib.hid (by simp [wI]; omega)
    clear h_e9
    go_enter Tryz.func123, Tryz.ntmps123
    go_wp2_with fail
    go_ret
    exact ⟨ret_bool HK.out.symm, rfl⟩
  · have d_e9 : (x == 9) = false := by simpa using h_e9
    by_cases h_g32 : 32 ≤ x
    · have d_g32 : decide (32 ≤ x) = true := by simpa using h_g32
      by_cases h_l126 : x ≤ 126
      · have d_l126 : decide (x ≤ 126) = true := by simpa using h_l126
        by_cases h_n34 : x ≠ 34
        · have d_n34 : (x != 34) = true := by simpa using h_n34
          by_cases h_n92 : x ≠ 92
          · have d_n92 : (x != 92) = true := by simpa using h_n92
            have HK : Hid (wI x = true) := Lib.hid (by simp [wI]; omega)
            clear h_e9 h_g32 h_l126 h_n34 h_n92
            go_enter Tryz.func123, Tryz.ntmps123
            go_wp2_with fail
            go_ret
            exact ⟨ret_bool HK.out.symm, rfl⟩
          · have d_n92 : (x != 92) = false := by simpa using h_n92
            by_cases h_g128 : 128 ≤ x
            · have d_g128 : decide (128 ≤ x) = true := by simpa using h_g128
              exfalso; omega
            · have d_g128 : decide (128 ≤ x) = false := by simpa using h_g128
              have HK : Hid (wI x = false) := Lib.hid (by simp [wI]; omega)
              clear h_e9 h_g32 h_l126 h_n34 h_n92 h_g128
              go_enter Tryz.func123, Tryz.ntmps123
              go_wp2_with fail
              go_ret
              exact ⟨ret_bool HK.out.symm, rfl⟩
        · have d_n34 : (x != 34) = false := by simpa using h_n34
          by_cases h_g128 : 128 ≤ x
          · have d_g128 : decide (128 ≤ x) = true := by simpa using h_g128
            exfalso; omega
          · have d_g128 : decide (128 ≤ x) = false := by simpa using h_g128
            have HK : Hid (wI x = false) := Lib.hid (by simp [wI]; omega)
            clear h_e9 h_g32 h_l126 h_n34 h_g128
            go_enter Tryz.func123, Tryz.ntmps123
            go_wp2_with fail
            go_ret
            exact ⟨ret_bool HK.out.symm, rfl⟩
      · have d_l126 : decide (x ≤ 126) = false := by simpa using h_l126
        by_cases h_g128 : 128 ≤ x
        · have d_g128 : decide (128 ≤ x) = true := by simpa using h_g128
          have HK : Hid (wI x = true) := Lib.hid (by simp [wI]; omega)
          clear h_e9 h_g32 h_l126 h_g128
          go_enter Tryz.func123, Tryz.ntmps123
          go_wp2_with fail
          go_ret
          exact ⟨ret_bool HK.out.symm, rfl⟩
        · have d_g128 : decide (128 ≤ x) = false := by simpa using h_g128
          have HK : Hid (wI x = false) := Lib.hid (by simp [wI]; omega)
          clear h_e9 h_g32 h_l126 h_g128
          go_enter Tryz.func123, Tryz.ntmps123
          go_wp2_with fail
          go_ret
          exact ⟨ret_bool HK.out.symm, rfl⟩
    · have d_g32 : decide (32 ≤ x) = false := by simpa using h_g32
      by_cases h_g128 : 128 ≤ x
      · have d_g128 : decide (128 ≤ x) = true := by simpa using h_g128
        exfalso; omega
      · have d_g128 : decide (128 ≤ x) = false := by simpa using h_g128
        have HK : Hid (wI x = false) := Lib.hid (by simp [wI]; omega)
        clear h_e9 h_g32 h_g128
        go_enter Tryz.func123, Tryz.ntmps123
        go_wp2_with fail
        go_ret
        exact ⟨ret_bool HK.out.symm, rfl⟩
theorem within_any (c : UInt8) (w : World) : Calls Tryz.prog 123 #[.int .u8 (c.toNat : Int)] w fun e w' => e = .returned (.bool (wth c)) ∧ w' = w := by
  rw [wth_wI]; exact within_int _ (by omega) (by have := c.toNat_lt; omega) w
theorem sign_any (c : UInt8) (w : World) : Calls Tryz.prog 89 #[.int .u8 (c.toNat : Int)] w fun e w' => e = .returned (.bool (sgn c)) ∧ w' = w := by
  rw [sgn_sI]; exact sign_int _ (by omega) (by have := c.toNat_lt; omega) w
/-- Where bytes of a kind that begin at k end. -/
def endW (p : UInt8 → Bool) (l : List UInt8) (k : Nat) : Nat := k + ((l.drop k).takeWhile p).length
theorem endW_out {p : UInt8 → Bool} {l : List UInt8} {k : Nat} (h : l.length ≤ k) : endW p l k = k := by unfold endW; rw [List.drop_eq_nil_of_le h]; rfl
theorem endW_go {p : UInt8 → Bool} {l : List UInt8} {k : Nat} (h : k < l.length) (hp : p l[k] = true) : endW p l k = endW p l (k + 1) := by
  unfold endW; rw [List.drop_eq_getElem_cons h, List.takeWhile_cons, if_pos hp]; simp; omega
theorem endW_stop {p : UInt8 → Bool} {l : List UInt8} {k : Nat} (h : k < l.length) (hp : p l[k] = false) : endW p l k = k := by
  unfold endW; rw [List.drop_eq_getElem_cons h, List.takeWhile_cons, if_neg (by simp [hp])]; rfl
theorem endW_ge (p : UInt8 → Bool) (l : List UInt8) (k : Nat) : k ≤ endW p l k := Nat.le_add_right _ _
theorem endW_le {p : UInt8 → Bool} {l : List UInt8} {k : Nat} (h : k ≤ l.length) : endW p l k ≤ l.length := by
  unfold endW
  have := (List.takeWhile_sublist p (l := l.drop k)).length_le
  rw [List.length_drop] at this; omega
theorem drop_take (p : UInt8 → Bool) (l : List UInt8) : l.drop (l.takeWhile p).length = l.dropWhile p := by
  induction l with
  | nil => rfl
  | cons a t ih =>
    rw [List.takeWhile_cons, List.dropWhile_cons]
    by_cases h : p a = true
    · rw [if_pos h, if_pos h]; simpa using ih
    · rw [if_neg h, if_neg h]; rfl
theorem take_take (p : UInt8 → Bool) (l : List UInt8) : l.take (l.takeWhile p).length = l.takeWhile p := by
  induction l with
  | nil => rfl
  | cons a t ih =>
    rw [List.takeWhile_cons]
    by_cases h : p a = true
    · rw [if_pos h]; simpa using ih
    · rw [if_neg h]; rfl
theorem drop_end (p : UInt8 → Bool) (l : List UInt8) (k : Nat) : l.drop (endW p l k) = (l.drop k).dropWhile p := by
  unfold endW; rw [← List.drop_drop, drop_take]
theorem slice_end (p : UInt8 → Bool) (l : List UInt8) (k : Nat) : (l.drop k).take (endW p l k - k) = (l.drop k).takeWhile p := by
  unfold endW; rw [Nat.add_sub_cancel_left, take_take]
set_option maxHeartbeats 1000000 in
theorem token_any (s : ByteArray) (a : Nat) (w : World) (hs : s.size ≤ maxLen) (ha : a ≤ s.size) : Calls Tryz.prog 50 #[.string s, .int .i64 (a : Int)] w fun e w' => e = .returned (.int .i64 (endW sgn s.data.toList a : Int)) ∧ w' = w := by
  unfold maxLen at hs
  have hsz : s.data.toList.length = s.size := by simp
  go_enter Tryz.func50, Tryz.ntmps50
  go_wp2_with fail
  go_loopg [1] (s.size + 1 - a) (fun g q wr => ∃ (k : Nat), k + g = s.size + 1 ∧ w = wr ∧ q = .int .i64 k ∧ k ≤ s.size ∧ Hid (endW sgn s.data.toList k = endW sgn s.data.toList a))
  case atStart => exact ⟨a, by omega, rfl, rfl, ha, Lib.hid rfl⟩
  case round =>
    obtain ⟨k, hkg, hw, rfl, hk7, HE⟩ := hrel
    subst hw
    by_cases hlt : k < s.size
    · have hkl : k < s.data.toList.length := by rw [hsz]; exact hlt
      have hk0 : (0 : Int) ≤ (k : Int) := by omega
      have hk3 : (k : Int) < (s.size : Int) := by omega
      have hel : s.data.toList[k] = s[k] := rfl
      have HC : Hid (Calls Tryz.prog 89 #[.int .u8 (s[k].toNat : Int)] w fun e w' => e = .returned (.bool (sgn s[k])) ∧ w' = w) := Lib.hid (sign_any _ _)
      by_cases hb : sgn s[k] = true
      · rw [hb] at HC
        have HE2 := Lib.hid ((endW_go hkl (by rw [hel]; exact hb)).symm.trans HE.out)
        clear hb hel
        go_wp2_with (go_at_call 89; refine HC.out.mono ?_; rintro _ w9 ⟨rfl, hw9⟩; subst w9)
        go_roundg (gk - 1)
        case measure => omega
        case rel => exact ⟨k + 1, by omega, rfl, by go_num, by omega, HE2⟩
      · have hb : sgn s[k] = false := by simpa using hb
        rw [hb] at HC
        have HE2 := Lib.hid ((endW_stop hkl (by rw [hel]; exact hb)).symm.trans HE.out)
        clear hb hel
        go_wp2_with (go_at_call 89; refine HC.out.mono ?_; rintro _ w9 ⟨rfl, hw9⟩; subst w9)
        go_ret
        exact ⟨by rw [← HE2.out]; rfl, rfl⟩
    · have HE2 := Lib.hid ((endW_out (p := sgn) (by rw [hsz]; omega)).symm.trans HE.out)
      go_wp2_with fail
      go_ret
      exact ⟨by rw [← HE2.out]; rfl, rfl⟩
set_option maxHeartbeats 1000000 in
theorem blanks_any (s : ByteArray) (a : Nat) (w : World) (hs : s.size ≤ maxLen) (ha : a ≤ s.size) : Calls Tryz.prog 49 #[.string s, .int .i64 (a : Int)] w fun e w' => e = .returned (.int .i64 (endW blk s.data.toList a : Int)) ∧ w' = w := by
  unfold maxLen at hs
  have hsz : s.data.toList.length = s.size := by simp
  go_enter Tryz.func49, Tryz.ntmps49
  go_wp2_with fail
  go_loopg [1] (s.size + 1 - a) (fun g q wr => ∃ (k : Nat), k + g = s.size + 1 ∧ w = wr ∧ q = .int .i64 k ∧ k ≤ s.size ∧ Hid (endW blk s.data.toList k = endW blk s.data.toList a))
  case atStart => exact ⟨a, by omega, rfl, rfl, ha, Lib.hid rfl⟩
  case round =>
    obtain ⟨k, hkg, hw, rfl, hk7, HE⟩ := hrel
    subst hw
    by_cases hlt : k < s.size
    · have hkl : k < s.data.toList.length := by rw [hsz]; exact hlt
      have hk0 : (0 : Int) ≤ (k : Int) := by omega
      have hk3 : (k : Int) < (s.size : Int) := by omega
      have hel : s.data.toList[k] = s[k] := rfl
      have hbk : blk s[k] = (((s[k].toNat : Int) == 32) || ((s[k].toNat : Int) == 9)) := by
        generalize s[k] = c
        revert c; exact byte_all (by decide +kernel)
      by_cases h1 : (s[k].toNat : Int) = 32
      · have d1 : ((s[k].toNat : Int) == 32) = true := by simpa using h1
        have HE2 := Lib.hid ((endW_go (p := blk) hkl (by rw [hel, hbk, d1]; rfl)).symm.trans HE.out)
        clear hel hbk h1
        go_wp2_with fail
        go_roundg (gk - 1)
        case measure => omega
        case rel => exact ⟨k + 1, by omega, rfl, by go_num, by omega, HE2⟩
      have d1 : ((s[k].toNat : Int) == 32) = false := by simpa using h1
      by_cases h2 : (s[k].toNat : Int) = 9
      · have d2 : ((s[k].toNat : Int) == 9) = true := by simpa using h2
        have HE2 := Lib.hid ((endW_go (p := blk) hkl (by rw [hel, hbk, d1, d2]; rfl)).symm.trans HE.out)
        clear hel hbk h1 h2
        go_wp2_with fail
        go_roundg (gk - 1)
        case measure => omega
        case rel => exact ⟨k + 1, by omega, rfl, by go_num, by omega, HE2⟩
      · have d2 : ((s[k].toNat : Int) == 9) = false := by simpa using h2
        have HE2 := Lib.hid ((endW_stop (p := blk) hkl (by rw [hel, hbk, d1, d2]; rfl)).symm.trans HE.out)
        clear hel hbk h1 h2
        go_wp2_with fail
        go_ret
        exact ⟨by rw [← HE2.out]; rfl, rfl⟩
    · have HE2 := Lib.hid ((endW_out (p := blk) (by rw [hsz]; omega)).symm.trans HE.out)
      go_wp2_with fail
      go_ret
      exact ⟨by rw [← HE2.out]; rfl, rfl⟩
end Go.Proofs.YtppabkllconkjaaGreatDoor.Med
/- The contracts of the document's own Lower and name. -/
namespace Go.Proofs.YtppabkllconkjaaGreatDoor.Med
open Go.RowKit
set_option linter.unusedVariables false
set_option linter.unusedSimpArgs false
set_option maxRecDepth 100000
open Lab (RetS ret_str str str_size str_list str_eta str_inj u8v st_ixb info5 info_parts BysR bys_new lo_add lo_not lowN lowN_len lowN_at lowN_0 lowN_end lowN_step lowN_same)
set_option maxHeartbeats 1600000 in
theorem rlower_any (s : ByteArray) (w : World) (hs : s.size ≤ maxLen) : Calls Tryz.prog 51 #[.string s] w fun e w' => RetS (lwr s.data.toList) w e w' := by
  unfold maxLen at hs
  have hsz : s.data.toList.length = s.size := by simp
  obtain ⟨cap, W1, hcv, hby, hB1, hcap, -, -⟩ := bys_new w s
  obtain ⟨l, HL⟩ : ∃ l, Hid (s.data.toList = l) := ⟨_, Lib.hid rfl⟩
  rw [HL.out] at hsz hby
  rw [HL.out]
  have HSZ := Lib.hid hsz
  have HB1 := Lib.hid hB1
  have HY1 := Lib.hid hby
  clear hby hB1 hsz
  go_enter Tryz.func51, Tryz.ntmps51
  go_wp2_with fail
  go_loopg [4] (s.size + 1) (fun g q wr => ∃ (k : Nat), k + g = s.size + 1 ∧ q = .int .i64 k ∧ k ≤ s.size ∧ Hid (BysR wr w.heap.size (lowN l k)) ∧ Hid (Below w.heap.size w wr))
  case atStart => exact ⟨0, by omega, rfl, by omega, Lib.hid (by rw [lowN_0]; exact HY1.out), HB1⟩
  case round =>
    obtain ⟨k, hkg, rfl, hk7, HY, HB⟩ := hrel
    by_cases hlt : k < s.size
    · have hkl : k < l.length := by rw [HSZ.out]; exact hlt
      have hk0 : (0 : Int) ≤ (k : Int) := by omega
      have hk3 : (k : Int) < (s.size : Int) := by omega
      have hkn : k < (lowN l k).length := by rw [lowN_len]; exact hkl
      have hc := HY.out.cell hkn
      rw [lowN_at hkl] at hc
      have hfz := HY.out.frozen hkn
      obtain ⟨c, hcc⟩ : ∃ c, l[k] = c := ⟨_, rfl⟩
      have hbd := c.toNat_lt
      by_cases h1 : 65 ≤ (c.toNat : Int)
      · have d1 : decide (65 ≤ (c.toNat : Int)) = true := by simpa using h1
        have d1n : decide (65 ≤ c.toNat) = true := by simp; omega
        by_cases h2 : (c.toNat : Int) ≤ 90
        · have d2 : decide ((c.toNat : Int) ≤ 90) = true := by simpa using h2
          have d2n : decide (c.toNat ≤ 90) = true := by simp; omega
          have hor := lo_add c h1 h2
          have HY2 : Hid (BysR (wr.setCell ⟨w.heap.size, k, none⟩ (.int .u8 ((Lab.lo c).toNat : Int))) w.heap.size (lowN l (k + 1))) := Lib.hid (by
            rw [lowN_step hkl, hcc]; exact HY.out.set hkn _)
          rw [hcc] at hc
          clear hcc hkn hkl h1 h2
          go_wp2_with fail
          go_roundg (gk - 1)
          case measure => omega
          case rel => exact ⟨k + 1, by omega, by go_num, by omega, HY2, Lib.hid (HB.out.setCell (Nat.le_refl _) _)⟩
        · have d2 : decide ((c.toNat : Int) ≤ 90) = false := by simpa using h2
          have d2n : decide (c.toNat ≤ 90) = false := by simp; omega
          have HY2 : Hid (BysR wr w.heap.size (lowN l (k + 1))) := Lib.hid (by
            rw [lowN_same hkl (by rw [hcc]; exact lo_not c (fun h => h2 h.2))]; exact HY.out)
          rw [hcc] at hc
          clear hcc hkn hkl h1 h2
          go_wp2_with fail
          go_roundg (gk - 1)
          case measure => omega
          case rel => exact ⟨k + 1, by omega, by go_num, by omega, HY2, HB⟩
      · have d1 : decide (65 ≤ (c.toNat : Int)) = false := by simpa using h1
        have d1n : decide (65 ≤ c.toNat) = false := by simp; omega
        have HY2 : Hid (BysR wr w.heap.size (lowN l (k + 1))) := Lib.hid (by
          rw [lowN_same hkl (by rw [hcc]; exact lo_not c (fun h => h1 h.1))]; exact HY.out)
        rw [hcc] at hc
        clear hcc hkn hkl h1
        go_wp2_with fail
        go_roundg (gk - 1)
        case measure => omega
        case rel => exact ⟨k + 1, by omega, by go_num, by omega, HY2, HB⟩
    · have hconv := HY.out.conv cap
      rw [lowN_len, HSZ.out, lowN_end (by rw [HSZ.out]; exact hlt)] at hconv
      go_wp2_with fail
      go_ret
      exact ⟨rfl, HB.out⟩
theorem rlower_str (l : List UInt8) (w : World) (hs : l.length ≤ maxLen) : Calls Tryz.prog 51 #[.string (str l)] w fun e w' => RetS (lwr l) w e w' := by
  have := rlower_any (str l) w (by rw [str_size]; exact hs)
  rwa [str_list] at this
theorem token_str (l : List UInt8) (a : Nat) (w : World) (hs : l.length ≤ maxLen) (ha : a ≤ l.length) : Calls Tryz.prog 50 #[.string (str l), .int .i64 (a : Int)] w fun e w' => e = .returned (.int .i64 (endW sgn l a : Int)) ∧ w' = w := by
  have := token_any (str l) a w (by rw [str_size]; exact hs) (by rw [str_size]; exact ha)
  rwa [str_list] at this
theorem blanks_str (l : List UInt8) (a : Nat) (w : World) (hs : l.length ≤ maxLen) (ha : a ≤ l.length) : Calls Tryz.prog 49 #[.string (str l), .int .i64 (a : Int)] w fun e w' => e = .returned (.int .i64 (endW blk l a : Int)) ∧ w' = w := by
  have := blanks_any (str l) a w (by rw [str_size]; exact hs) (by rw [str_size]; exact ha)
  rwa [str_list] at this
end Go.Proofs.YtppabkllconkjaaGreatDoor.Med
/- The contract of the document's own quoted. -/
namespace Go.Proofs.YtppabkllconkjaaGreatDoor.Med
open Go.RowKit
set_option linter.unusedVariables false
set_option linter.unusedSimpArgs false
set_option maxRecDepth 100000
open Lab (RetS ret_str str str_size str_list str_eta str_inj u8v st_ixb info5 info_parts Own8 own_nil conv_own)
theorem qtd_suf : ∀ (n : Nat) {l : List UInt8} {q : List UInt8 × List UInt8}, l.length ≤ n → qtd l = some q → ∃ x, l = x ++ q.2
  | _, [], q, _, h => by unfold qtd at h; cases h
  | 0, c :: t, q, hn, h => by simp at hn
  | n + 1, c :: t, q, hn, h => by
    simp only [List.length_cons] at hn
    by_cases h34 : c = 34
    · subst h34; rw [qtd_34] at h; cases h; exact ⟨[34], rfl⟩
    by_cases h92 : c = 92
    · subst h92
      cases t with
      | nil => rw [qtd_bs0] at h; cases h
      | cons d u =>
        simp only [List.length_cons] at hn
        rw [qtd_bs] at h
        split at h
        · cases hq : qtd u with
          | none => rw [hq] at h; cases h
          | some q2 =>
            rw [hq] at h; cases h
            obtain ⟨x, hx⟩ := qtd_suf n (by omega) hq
            exact ⟨92 :: d :: x, by rw [hx]; rfl⟩
        · cases h
    · rw [qtd_c h34 h92] at h
      split at h
      · cases hq : qtd t with
        | none => rw [hq] at h; cases h
        | some q2 =>
          rw [hq] at h; cases h
          obtain ⟨x, hx⟩ := qtd_suf n (by omega) hq
          exact ⟨c :: x, by rw [hx]; rfl⟩
      · cases h
theorem suf_drop {l R x : List UInt8} (h : l = x ++ R) : l.drop (l.length - R.length) = R := by
  subst h
  rw [List.length_append, Nat.add_sub_cancel, List.drop_left]
/-- What quoted tells of what stands behind a quote. -/
def QR (l : List UInt8) (r : Option (List UInt8 × List UInt8)) (w : World) (e : Ending) (w' : World) : Prop :=
  (match r with
    | none => e = .returned (.tuple #[.string (str []), .int .i64 0, .bool false])
    | some q => e = .returned (.tuple #[.string (str q.1), .int .i64 ((l.length - q.2.length : Nat) : Int), .bool true])) ∧ Below w.heap.size w w'
theorem qr_no {l : List UInt8} {r : Option (List UInt8 × List UInt8)} {w w' : World} (h : r = none) (hb : Below w.heap.size w w') : QR l r w (.returned (.tuple #[.string ⟨#[]⟩, .int .i64 0, .bool false])) w' := by
  subst h; exact ⟨rfl, hb⟩
theorem qr_yes {l v R : List UInt8} {r : Option (List UInt8 × List UInt8)} {w w' : World} {i : Int} (h : r = some (v, R)) (hi : i = ((l.length - R.length : Nat) : Int)) (hb : Below w.heap.size w w') : QR l r w (.returned (.tuple #[.string (str v), .int .i64 i, .bool true])) w' := by
  subst h; subst hi; exact ⟨rfl, hb⟩
def eI (x : Int) : Bool := decide (x = 9) || (decide (32 ≤ x) && decide (x ≤ 126))
theorem esc_eI (c : UInt8) : esc c = eI (c.toNat : Int) := by
  have : ∀ c : Fin 256, esc (UInt8.ofNat c) = eI (c.val : Int) := by decide +kernel
  have k := this ⟨c.toNat, c.toNat_lt⟩
  simpa using k
theorem u8_lit {c : UInt8} {n : UInt8} : (c.toNat : Int) = (n.toNat : Int) ↔ c = n := by
  constructor
  · intro h
    exact UInt8.toNat_inj.1 (by omega)
  · intro h; rw [h]
set_option maxRecDepth 100000 in
set_option maxHeartbeats 8000000 in
theorem quoted_any (l : List UInt8) (a : Nat) (w : World) (hs : l.length ≤ 100000) (ha : a < l.length) : Calls Tryz.prog 90 #[.string (str l), .int .i64 (a : Int)] w fun e w' => QR l (qtd (l.drop (a + 1))) w e w' := by
  obtain ⟨r, hr⟩ : ∃ r, qtd (l.drop (a + 1)) = r := ⟨_, rfl⟩
  rw [hr]
  have HR := Lib.hid hr
  clear hr
  obtain ⟨s, hs'⟩ : ∃ s, str l = s := ⟨_, rfl⟩
  have hsz : s.size = l.length := by rw [← hs', str_size]
  have HL : Hid (s.data.toList = l) := Lib.hid (by rw [← hs', str_list])
  have HSZ := Lib.hid hsz
  have hs6 : s.size ≤ 100000 := by omega
  have has : a < s.size := by omega
  rw [hs']
  clear hs' hsz hs ha
  obtain ⟨i0, hi, hz0, hz1, hz2⟩ := info_parts info5
  go_enter Tryz.func90, Tryz.ntmps90
  go_wp2_with fail
  go_loopg [7, 8] (s.size + 1 - (a + 1)) (fun g q7 q8 wr => ∃ (k n : Nat) (v : Value) (acc : List UInt8), k + g = s.size + 1 ∧ v = q7 ∧ q8 = .int .i64 (k : Int) ∧ k ≤ s.size ∧ n ≤ k ∧ acc.length = n ∧ Hid (wr.ownsRow w.heap.size 5 1 v n (acc.map u8v)) ∧ Hid (r = (qtd (l.drop k)).map fun q => (acc ++ q.1, q.2)) ∧ Hid (Below w.heap.size w wr))
  case atStart => exact ⟨a + 1, 0, .slice none 0 0, [], by omega, rfl, by go_num, by omega, by omega, rfl, Lib.hid (World.ownsRow_nil _ _ _ _), Lib.hid (by
    rw [← HR.out]; cases qtd (l.drop (a + 1)) <;> simp), Lib.hid (Below.refl _ _)⟩
  case round =>
    obtain ⟨k, n, v, acc, hkg, rfl, rfl, hk7, hnk, hn, HO, HQ, HB⟩ := hrel
    by_cases hlt : k < s.size
    · have hkl : k < l.length := by have := HSZ.out; omega
      have hk0 : (0 : Int) ≤ (k : Int) := by omega
      have hk3 : (k : Int) < (s.size : Int) := by omega
      have hdr : l.drop k = s[k] :: l.drop (k + 1) := by
        have e := HL.out
        subst e
        exact List.drop_eq_getElem_cons hkl
      rw [hdr] at HQ
      have HWC : Hid (∀ w, Calls Tryz.prog 123 #[.int .u8 (s[k].toNat : Int)] w fun e w' => e = .returned (.bool (wth s[k])) ∧ w' = w) := Lib.hid fun w => within_any s[k] w
      obtain ⟨c, hc⟩ : ∃ c, s[k] = c := ⟨_, rfl⟩
      rw [hc] at HQ HWC
      clear hdr
      by_cases h34 : c = 34
      · have d1 : ((c.toNat : Int) == 34) = true := by subst h34; decide
        have HY : Hid (r = some (acc, l.drop (k + 1))) := Lib.hid (by rw [HQ.out, h34, qtd_34]; simp)
        have hcv := conv_own (xs := acc) (by rw [Own8, hn]; exact HO.out)
        have HLN : Hid ((l.drop (k + 1)).length = l.length - (k + 1)) := Lib.hid (by rw [List.length_drop])
        clear h34 HQ hkl
        go_wp2_with fail
        go_ret3
        exact qr_yes HY.out (by rw [HLN.out, ← HSZ.out]; omega) HB.out
      have d1 : ((c.toNat : Int) == 34) = false := by
        have : ¬ (c.toNat : Int) = 34 := fun h => h34 (u8_lit.1 h)
        simpa using this
      by_cases h92 : c = 92
      · have d2 : ((c.toNat : Int) == 92) = true := by subst h92; decide
        rw [h92] at HQ
        by_cases hk1 : k + 1 < s.size
        · have hkl1 : k + 1 < l.length := by have := HSZ.out; omega
          have hj0 : (0 : Int) ≤ (k : Int) + 1 := by omega
          have hj3 : (k : Int) + 1 < (s.size : Int) := by omega
          have hj4 : decide ((s.size : Int) ≤ (k : Int) + 1) = false := by simp; omega
          have hdr : l.drop (k + 1) = s[k + 1] :: l.drop (k + 1 + 1) := by
            have e := HL.out
            subst e
            exact List.drop_eq_getElem_cons hkl1
          rw [hdr, qtd_bs] at HQ
          have HES := Lib.hid (esc_eI s[k + 1])
          obtain ⟨d, hd⟩ : ∃ d, s[k + 1] = d := ⟨_, rfl⟩
          rw [hd] at HQ HES
          obtain ⟨x, hx⟩ : ∃ x : Int, (d.toNat : Int) = x := ⟨_, rfl⟩
          have HD : Hid ([d].map u8v = [.int .u8 x]) := Lib.hid (by rw [← hx]; rfl)
          clear hdr h92 h34 hkl hkl1
          by_cases h9 : x = 9
          · have e1 : (x != 9) = false := by simpa using h9
            have HE : Hid (esc d = true) := Lib.hid (by rw [HES.out, hx]; simp only [eI, Bool.or_eq_true, Bool.and_eq_true, decide_eq_true_eq]; omega)
            have HQ2 : Hid (r = (qtd (l.drop (k + 1 + 1))).map fun q => (acc ++ [d] ++ q.1, q.2)) := Lib.hid (by
              rw [HQ.out, if_pos HE.out, Option.map_map]; congr 1; funext q; simp)
            have hwz := HB.out.size
            clear HQ HES HE h9
            go_wp2_with (first
              | (at_builtin; refine wpList_append_lies _ rfl _ _ _ rfl w.heap.size 5 i0 _ 1 1 Tryz.underlying99 hi hz0 hz1 hz2 rfl (by omega) v n (acc.map u8v) rfl (World.ownsRow.alloc HO.out _) ⟨wr.heap.size, 0, none⟩ 1 1 [_] rfl rfl (cell_one_new _ _ _) (by simp [Value.oneCell']) (by omega) (by unfold maxLen; omega) (by omega) (by simp; omega) (wr.heap.size + 1) (by simp) ?_; intro g1 cap1 w1 hown1 hgrow1 hat1 hlt1
                 have HO1 := Lib.hid hown1
                 have HB1 : Hid (Below w.heap.size w w1) := Lib.hid ((HB.out.alloc hwz _).grown hgrow1 (by simp; omega) (fun k e => (World.ownsRow.lt HO.out k e).1))
                 clear hown1 hgrow1 hat1 hlt1))
            go_roundg (gk - 2)
            case measure => omega
            case rel => exact ⟨k + 1 + 1, n + 1, _, acc ++ [d], by omega, rfl, by go_num, by omega, by omega, by simp [hn], Lib.hid (by rw [List.map_append, HD.out]; exact HO1.out), HQ2, HB1⟩
          have e1 : (x != 9) = true := by simpa using h9
          by_cases h32 : x < 32
          · have e2 : decide (x < 32) = true := by simpa using h32
            have HE : Hid (esc d = false) := Lib.hid (by rw [HES.out, hx]; simp [eI]; omega)
            have HN : Hid (r = none) := Lib.hid (by rw [HQ.out, if_neg (by rw [HE.out]; decide)]; rfl)
            clear HQ HES HE h9 h32
            go_wp2_with fail
            go_ret3
            exact qr_no HN.out HB.out
          have e2 : decide (x < 32) = false := by simpa using h32
          by_cases h126 : 126 < x
          · have e3 : decide (126 < x) = true := by simpa using h126
            have HE : Hid (esc d = false) := Lib.hid (by rw [HES.out, hx]; simp [eI]; omega)
            have HN : Hid (r = none) := Lib.hid (by rw [HQ.out, if_neg (by rw [HE.out]; decide)]; rfl)
            clear HQ HES HE h9 h32 h126
            go_wp2_with fail
            go_ret3
            exact qr_no HN.out HB.out
          · have e3 : decide (126 < x) = false := by simpa using h126
            have HE : Hid (esc d = true) := Lib.hid (by rw [HES.out, hx]; simp only [eI, Bool.or_eq_true, Bool.and_eq_true, decide_eq_true_eq]; omega)
            have HQ2 : Hid (r = (qtd (l.drop (k + 1 + 1))).map fun q => (acc ++ [d] ++ q.1, q.2)) := Lib.hid (by
              rw [HQ.out, if_pos HE.out, Option.map_map]; congr 1; funext q; simp)
            have hwz := HB.out.size
            clear HQ HES HE h9 h32 h126
            go_wp2_with (first
              | (at_builtin; refine wpList_append_lies _ rfl _ _ _ rfl w.heap.size 5 i0 _ 1 1 Tryz.underlying99 hi hz0 hz1 hz2 rfl (by omega) v n (acc.map u8v) rfl (World.ownsRow.alloc HO.out _) ⟨wr.heap.size, 0, none⟩ 1 1 [_] rfl rfl (cell_one_new _ _ _) (by simp [Value.oneCell']) (by omega) (by unfold maxLen; omega) (by omega) (by simp; omega) (wr.heap.size + 1) (by simp) ?_; intro g1 cap1 w1 hown1 hgrow1 hat1 hlt1
                 have HO1 := Lib.hid hown1
                 have HB1 : Hid (Below w.heap.size w w1) := Lib.hid ((HB.out.alloc hwz _).grown hgrow1 (by simp; omega) (fun k e => (World.ownsRow.lt HO.out k e).1))
                 clear hown1 hgrow1 hat1 hlt1))
            go_roundg (gk - 2)
            case measure => omega
            case rel => exact ⟨k + 1 + 1, n + 1, _, acc ++ [d], by omega, rfl, by go_num, by omega, by omega, by simp [hn], Lib.hid (by rw [List.map_append, HD.out]; exact HO1.out), HQ2, HB1⟩
        · have hj4 : decide ((s.size : Int) ≤ (k : Int) + 1) = true := by simp; omega
          have HN : Hid (r = none) := Lib.hid (by
            rw [HQ.out, List.drop_eq_nil_of_le (by have := HSZ.out; omega), qtd_bs0]; rfl)
          clear h92 h34 hkl HQ
          go_wp2_with fail
          go_ret3
          exact qr_no HN.out HB.out
      · have d2 : ((c.toNat : Int) == 92) = false := by
          have : ¬ (c.toNat : Int) = 92 := fun h => h92 (u8_lit.1 h)
          simpa using this
        rw [qtd_c h34 h92] at HQ
        obtain ⟨b, hb⟩ : ∃ b, wth c = b := ⟨_, rfl⟩
        rw [hb] at HQ HWC
        clear hb h92 h34 hkl
        cases b with
        | true =>
          have HQ2 : Hid (r = (qtd (l.drop (k + 1))).map fun q => (acc ++ [c] ++ q.1, q.2)) := Lib.hid (by
            rw [HQ.out, if_pos rfl, Option.map_map]; congr 1; funext q; simp)
          have hwz := HB.out.size
          clear HQ
          go_wp2_with (first
            | (go_at_call 123; refine (HWC.out _).mono ?_; rintro _ w9 ⟨rfl, hw9⟩; subst w9)
            | (at_builtin; refine wpList_append_lies _ rfl _ _ _ rfl w.heap.size 5 i0 _ 1 1 Tryz.underlying99 hi hz0 hz1 hz2 rfl (by omega) v n (acc.map u8v) rfl (World.ownsRow.alloc HO.out _) ⟨wr.heap.size, 0, none⟩ 1 1 [_] rfl rfl (cell_one_new _ _ _) (by simp [Value.oneCell']) (by omega) (by unfold maxLen; omega) (by omega) (by simp; omega) (wr.heap.size + 1) (by simp) ?_; intro g1 cap1 w1 hown1 hgrow1 hat1 hlt1
               have HO1 := Lib.hid hown1
               have HB1 : Hid (Below w.heap.size w w1) := Lib.hid ((HB.out.alloc hwz _).grown hgrow1 (by simp; omega) (fun k e => (World.ownsRow.lt HO.out k e).1))
               clear hown1 hgrow1 hat1 hlt1))
          go_roundg (gk - 1)
          case measure => omega
          case rel => exact ⟨k + 1, n + 1, _, acc ++ [c], by omega, rfl, by go_num, by omega, by omega, by simp [hn], Lib.hid (by rw [List.map_append]; exact HO1.out), HQ2, HB1⟩
        | false =>
          have HN : Hid (r = none) := Lib.hid (by rw [HQ.out, if_neg (by simp)]; rfl)
          clear HQ
          go_wp2_with (first
            | (go_at_call 123; refine (HWC.out _).mono ?_; rintro _ w9 ⟨rfl, hw9⟩; subst w9))
          go_ret3
          exact qr_no HN.out HB.out
    · have HN : Hid (r = none) := Lib.hid (by
        rw [HQ.out, List.drop_eq_nil_of_le (by have := HSZ.out; omega)]
        unfold qtd; rfl)
      clear HQ
      go_wp2_with fail
      go_ret3
      exact qr_no HN.out HB.out
end Go.Proofs.YtppabkllconkjaaGreatDoor.Med
/- A Content-Type, read by places: the mathematics. -/
namespace Go.Proofs.YtppabkllconkjaaGreatDoor.Med
open Go.RowKit
set_option linter.unusedVariables false
set_option linter.unusedSimpArgs false
set_option maxRecDepth 100000
open Lab (RetS ret_str str str_size str_list str_eta str_inj u8v st_ixb info5 info_parts)
theorem tw_nil {p : UInt8 → Bool} {l : List UInt8} {a : Nat} : (l.drop a).takeWhile p = [] ↔ endW p l a = a := by
  unfold endW
  constructor
  · intro h; rw [h]; rfl
  · intro h; exact List.eq_nil_of_length_eq_zero (by omega)
theorem drop0 (p : UInt8 → Bool) (l : List UInt8) : l.dropWhile p = l.drop (endW p l 0) := by
  rw [drop_end, List.drop_zero]
theorem split_end (p : UInt8 → Bool) (l : List UInt8) (a : Nat) : l.drop a = (l.drop a).takeWhile p ++ l.drop (endW p l a) := by
  rw [drop_end, List.takeWhile_append_dropWhile]
/-- The type, by its places. -/
theorem type_idx {l : List UInt8} {t a b : Nat} (ha : endW sgn l t = a) (hb : endW sgn l (a + 1) = b) (h47 : (l.drop a).head? = some 47) : (l.drop t).take (b - t) = (l.drop t).takeWhile sgn ++ 47 :: (l.drop (a + 1)).takeWhile sgn := by
  have h1 : l.drop a = 47 :: l.drop (a + 1) := by
    cases hx : l.drop a with
    | nil => rw [hx] at h47; cases h47
    | cons c u =>
      rw [hx] at h47
      cases h47
      have : l.drop (a + 1) = (l.drop a).tail := by rw [List.tail_drop]
      rw [this, hx]; rfl
  have e1 := split_end sgn l t
  have e2 := split_end sgn l (a + 1)
  rw [ha, h1] at e1
  rw [hb] at e2
  have n1 : a = t + ((l.drop t).takeWhile sgn).length := by rw [← ha]; rfl
  have n2 : b = a + 1 + ((l.drop (a + 1)).takeWhile sgn).length := by rw [← hb]; rfl
  obtain ⟨x, hx⟩ : ∃ x, (l.drop t).takeWhile sgn = x := ⟨_, rfl⟩
  obtain ⟨y, hy⟩ : ∃ y, (l.drop (a + 1)).takeWhile sgn = y := ⟨_, rfl⟩
  rw [hx] at e1 n1 ⊢
  rw [hy] at e2 n2 ⊢
  rw [e2] at e1
  have e3 : l.drop t = (x ++ 47 :: y) ++ l.drop b := by rw [e1]; simp
  rw [e3]
  refine List.take_left' ?_
  rw [List.length_append, List.length_cons]; omega
theorem parse_idx {l : List UInt8} {t a b : Nat} (ht : endW blk l 0 = t) (ha : endW sgn l t = a) (hb : endW sgn l (a + 1) = b) :
    parse l = if a = t then none else if (l.drop a).head? = some 47 then (if b = a + 1 then none else (rst (l.drop (endW blk l b))).map fun ps => (lwr ((l.drop t).take (b - t)), ps)) else none := by
  unfold parse
  rw [drop0 blk l, ht, ← drop_end sgn l t, ha]
  have e1 : ((l.drop t).takeWhile sgn = []) ↔ a = t := by rw [tw_nil, ha]
  by_cases h1 : a = t
  · rw [if_pos h1, if_pos (e1.2 h1)]
  · rw [if_neg h1, if_neg (fun h => h1 (e1.1 h))]
    by_cases h2 : (l.drop a).head? = some 47
    · rw [if_pos h2, if_pos h2, List.tail_drop, ← drop_end sgn l (a + 1), hb, ← drop_end blk l b, type_idx ha hb h2]
      have e2 : ((l.drop (a + 1)).takeWhile sgn = []) ↔ b = a + 1 := by rw [tw_nil, hb]
      by_cases h3 : b = a + 1
      · rw [if_pos h3, if_pos (e2.2 h3)]
      · rw [if_neg h3, if_neg (fun h => h3 (e2.1 h))]
    · rw [if_neg h2, if_neg h2]
theorem prm_suf {l : List UInt8} {q : Par × List UInt8} (h : prm l = some q) : ∃ x, l = x ++ q.2 := by
  unfold prm at h
  split at h
  · cases h
  · split at h
    · rename_i h61
      cases hv : val (l.dropWhile sgn).tail with
      | none => rw [hv] at h; cases h
      | some q2 =>
        rw [hv] at h
        cases h
        have hs : ∃ x, (l.dropWhile sgn).tail = x ++ q2.2 := by
          unfold val at hv
          split at hv
          · rename_i h34
            obtain ⟨x, hx⟩ := qtd_suf _ (Nat.le_refl _) hv
            cases ht : (l.dropWhile sgn).tail with
            | nil => rw [ht] at h34; cases h34
            | cons c u => rw [ht] at hx; exact ⟨c :: x, by rw [List.cons_append, ← hx]; rfl⟩
          · split at hv
            · cases hv
            · cases hv
              exact ⟨_, (List.takeWhile_append_dropWhile (p := sgn)).symm⟩
        obtain ⟨x, hx⟩ := hs
        refine ⟨l.takeWhile sgn ++ 61 :: x, ?_⟩
        have e := List.takeWhile_append_dropWhile (p := sgn) (l := l)
        cases hd : l.dropWhile sgn with
        | nil => rw [hd] at h61; cases h61
        | cons c u =>
          rw [hd] at h61 hx
          cases h61
          have hx' : u = x ++ q2.2 := hx
          rw [hd] at e
          obtain ⟨y, hy⟩ : ∃ y, l.takeWhile sgn = y := ⟨_, rfl⟩
          rw [hy] at e ⊢
          show l = _
          rw [← e, hx']
          simp
    · cases h
theorem suf_at {l R x : List UInt8} {k : Nat} (h : l.drop k = x ++ R) : l.drop (l.length - R.length) = R ∧ R.length ≤ l.length := by
  have e : l = (l.take k ++ x) ++ R := by rw [List.append_assoc, ← h, List.take_append_drop]
  refine ⟨suf_drop e, ?_⟩
  have := congrArg List.length e
  rw [List.length_append] at this
  omega
end Go.Proofs.YtppabkllconkjaaGreatDoor.Med
