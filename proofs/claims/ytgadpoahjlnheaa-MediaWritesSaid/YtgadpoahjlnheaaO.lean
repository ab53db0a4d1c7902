/- The contracts of the document's own sign, within, token, blanks. -/
import Derived.Test.YtgadpoahjlnheaaB
namespace Go.Proofs.Ytgadpoahjlnheaa.Med
open Go.RowKit
set_option linter.unusedVariables false
set_option linter.unusedSimpArgs false
/-- One of a token, by its number. -/
def sI (x : Int) : Bool := (decide (65 ≤ x) && decide (x ≤ 90)) || (decide (97 ≤ x) && decide (x ≤ 122)) || (decide (48 ≤ x) && decide (x ≤ 57)) || decide (x = 33) || decide (x = 35) || decide (x = 36) || decide (x = 37) || decide (x = 38) || decide (x = 39) || decide (x = 42) || decide (x = 43) || decide (x = 45) || decide (x = 46) || decide (x = 94) || decide (x = 95) || decide (x = 96) || decide (x = 124) || decide (x = 126)
theorem sgn_sI (c : UInt8) : sgn c = sI (c.toNat : Int) := by
  have : ∀ c : Fin 256, sgn (UInt8.ofNat c) = sI (c.val : Int) := by decide +kernel
  have k := this ⟨c.toNat, c.toNat_lt⟩
  simpa using k
theorem sign_33 (x : Int) (hx : x = 33) (w : World) : Calls Try.prog 46 #[.int .u8 x] w fun e w' => e = .returned (.bool (sI x)) ∧ w' = w := by
  subst hx
  have HK : Hid (sI 33 = true) := Lib.hid (by decide)
  go_enter Try.func46, Try.ntmps46
  go_wp2_with fail
  refine wp_loop_rounds 16 ?_
  rw [rounds_succ]
  go_wp2_with fail
  go_ret
  exact ⟨ret_bool HK.out.symm, rfl⟩
theorem sign_35 (x : Int) (hx : x = 35) (w : World) : Calls Try.prog 46 #[.int .u8 x] w fun e w' => e = .returned (.bool (sI x)) ∧ w' = w := by
  subst hx
  have HK : Hid (sI 35 = true) := Lib.hid (by decide)
  go_enter Try.func46, Try.ntmps46
  go_wp2_with fail
  refine wp_loop_rounds 16 ?_
  rw [rounds_succ]
  go_wp2_with fail
  rw [rounds_succ]
  go_wp2_with fail
  go_ret
  exact ⟨ret_bool HK.out.symm, rfl⟩
theorem sign_36 (x : Int) (hx : x = 36) (w : World) : Calls Try.prog 46 #[.int .u8 x] w fun e w' => e = .returned (.bool (sI x)) ∧ w' = w := by
  subst hx
  have HK : Hid (sI 36 = true) := Lib.hid (by decide)
  go_enter Try.func46, Try.ntmps46
  go_wp2_with fail
  refine wp_loop_rounds 16 ?_
  rw [rounds_succ]
  go_wp2_with fail
  rw [rounds_succ]
  go_wp2_with fail
  rw [rounds_succ]
  go_wp2_with fail
  go_ret
  exact ⟨ret_bool HK.out.symm, rfl⟩
theorem sign_37 (x : Int) (hx : x = 37) (w : World) : Calls Try.prog 46 #[.int .u8 x] w fun e w' => e = .returned (.bool (sI x)) ∧ w' = w := by
  subst hx
  have HK : Hid (sI 37 = true) := Lib.hid (by decide)
  go_enter Try.func46, Try.ntmps46
  go_wp2_with fail
  refine wp_loop_rounds 16 ?_
  rw [rounds_succ]
  go_wp2_with fail
  rw [rounds_succ]
  go_wp2_with fail
  rw [rounds_succ]
  go_wp2_with fail
  rw [rounds_succ]
  go_wp2_with fail
  go_ret
  exact ⟨ret_bool HK.out.symm, rfl⟩
theorem sign_38 (x : Int) (hx : x = 38) (w : World) : Calls Try.prog 46 #[.int .u8 x] w fun e w' => e = .returned (.bool (sI x)) ∧ w' = w := by
  subst hx
  have HK : Hid (sI 38 = true) := Lib.hid (by decide)
  go_enter Try.func46, Try.ntmps46
  go_wp2_with fail
  refine wp_loop_rounds 16 ?_
  rw [rounds_succ]
  go_wp2_with fail
  rw [rounds_succ]
  go_wp2_with fail
  rw [rounds_succ]
  go_wp2_with fail
  rw [rounds_succ]
  go_wp2_with fail
  rw [rounds_succ]
  go_wp2_with fail
  go_ret
  exact ⟨ret_bool HK.out.symm, rfl⟩
theorem sign_39 (x : Int) (hx : x = 39) (w : World) : Calls Try.prog 46 #[.int .u8 x] w fun e w' => e = .returned (.bool (sI x)) ∧ w' = w := by
  subst hx
  have HK : Hid (sI 39 = true) := Lib.hid (by decide)
  go_enter Try.func46, Try.ntmps46
  go_wp2_with fail
  refine wp_loop_rounds 16 ?_
  rw [rounds_succ]
  go_wp2_with fail
  rw [rounds_succ]
  go_wp2_with fail
  rw [rounds_succ]
  go_wp2_with fail
  rw [rounds_succ]
  go_wp2_with fail
  rw [rounds_succ]
  go_wp2_with fail
  rw [rounds_succ]
  go_wp2_with fail
  go_ret
  exact ⟨ret_bool HK.out.symm, rfl⟩
theorem sign_42 (x : Int) (hx : x = 42) (w : World) : Calls Try.prog 46 #[.int .u8 x] w fun e w' => e = .returned (.bool (sI x)) ∧ w' = w := by
  subst hx
  have HK : Hid (sI 42 = true) := Lib.hid (by decide)
  go_enter Try.func46, Try.ntmps46
  go_wp2_with fail
  refine wp_loop_rounds 16 ?_
  rw [rounds_succ]
  go_wp2_with fail
  rw [rounds_succ]
  go_wp2_with fail
  rw [rounds_succ]
  go_wp2_with fail
  rw [rounds_succ]
  go_wp2_with fail
  rw [rounds_succ]
  go_wp2_with fail
  rw [rounds_succ]
  go_wp2_with fail
  rw [rounds_succ]
  go_wp2_with fail
  go_ret
  exact ⟨ret_bool HK.out.symm, rfl⟩
theorem sign_43 (x : Int) (hx : x = 43) (w : World) : Calls Try.prog 46 #[.int .u8 x] w fun e w' => e = .returned (.bool (sI x)) ∧ w' = w := by
  subst hx
  have HK : Hid (sI 43 = true) := Lib.hid (by decide)
  go_enter Try.func46, Try.ntmps46
  go_wp2_with fail
  refine wp_loop_rounds 16 ?_
  rw [rounds_succ]
  go_wp2_with fail
  rw [rounds_succ]
  go_wp2_with fail
  rw [rounds_succ]
  go_wp2_with fail
  rw [rounds_succ]
  go_wp2_with fail
  rw [rounds_succ]
  go_wp2_with fail
  rw [rounds_succ]
  go_wp2_with fail
  rw [rounds_succ]
  go_wp2_with fail
  rw [rounds_succ]
  go_wp2_with fail
  go_ret
  exact ⟨ret_bool HK.out.symm, rfl⟩
theorem sign_45 (x : Int) (hx : x = 45) (w : World) : Calls Try.prog 46 #[.int .u8 x] w fun e w' => e = .returned (.bool (sI x)) ∧ w' = w := by
  subst hx
  have HK : Hid (sI 45 = true) := Lib.hid (by decide)
  go_enter Try.func46, Try.ntmps46
  go_wp2_with fail
  refine wp_loop_rounds 16 ?_
  rw [rounds_succ]
  go_wp2_with fail
  rw [rounds_succ]
  go_wp2_with fail
  rw [rounds_succ]
  go_wp2_with fail
  rw [rounds_succ]
  go_wp2_with fail
  rw [rounds_succ]
  go_wp2_with fail
  rw [rounds_succ]
  go_wp2_with fail
  rw [rounds_succ]
  go_wp2_with fail
  rw [rounds_succ]
  go_wp2_with fail
  rw [rounds_succ]
  go_wp2_with fail
  go_ret
  exact ⟨ret_bool HK.out.symm, rfl⟩
theorem sign_46 (x : Int) (hx : x = 46) (w : World) : Calls Try.prog 46 #[.int .u8 x] w fun e w' => e = .returned (.bool (sI x)) ∧ w' = w := by
  subst hx
  have HK : Hid (sI 46 = true) := Lib.hid (by decide)
  go_enter Try.func46, Try.ntmps46
  go_wp2_with fail
  refine wp_loop_rounds 16 ?_
  rw [rounds_succ]
  go_wp2_with fail
  rw [rounds_succ]
  go_wp2_with fail
  rw [rounds_succ]
  go_wp2_with fail
  rw [rounds_succ]
  go_wp2_with fail
  rw [rounds_succ]
  go_wp2_with fail
  rw [rounds_succ]
  go_wp2_with fail
  rw [rounds_succ]
  go_wp2_with fail
  rw [rounds_succ]
  go_wp2_with fail
  rw [rounds_succ]
  go_wp2_with fail
  rw [rounds_succ]
  go_wp2_with fail
  go_ret
  exact ⟨ret_bool HK.out.symm, rfl⟩
theorem sign_94 (x : Int) (hx : x = 94) (w : World) : Calls Try.prog 46 #[.int .u8 x] w fun e w' => e = .returned (.bool (sI x)) ∧ w' = w := by
  subst hx
  have HK : Hid (sI 94 = true) := Lib.hid (by decide)
  go_enter Try.func46, Try.ntmps46
  go_wp2_with fail
  refine wp_loop_rounds 16 ?_
  rw [rounds_succ]
  go_wp2_with fail
  rw [rounds_succ]
  go_wp2_with fail
  rw [rounds_succ]
  go_wp2_with fail
  rw [rounds_succ]
  go_wp2_with fail
  rw [rounds_succ]
  go_wp2_with fail
  rw [rounds_succ]
  go_wp2_with fail
  rw [rounds_succ]
  go_wp2_with fail
  rw [rounds_succ]
  go_wp2_with fail
  rw [rounds_succ]
  go_wp2_with fail
  rw [rounds_succ]
  go_wp2_with fail
  rw [rounds_succ]
  go_wp2_with fail
  go_ret
  exact ⟨ret_bool HK.out.symm, rfl⟩
theorem sign_95 (x : Int) (hx : x = 95) (w : World) : Calls Try.prog 46 #[.int .u8 x] w fun e w' => e = .returned (.bool (sI x)) ∧ w' = w := by
  subst hx
  have HK : Hid (sI 95 = true) := Lib.hid (by decide)
  go_enter Try.func46, Try.ntmps46
  go_wp2_with fail
  refine wp_loop_rounds 16 ?_
  rw [rounds_succ]
  go_wp2_with fail
  rw [rounds_succ]
  go_wp2_with fail
  rw [rounds_succ]
  go_wp2_with fail
  rw [rounds_succ]
  go_wp2_with fail
  rw [rounds_succ]
  go_wp2_with fail
  rw [rounds_succ]
  go_wp2_with fail
  rw [rounds_succ]
  go_wp2_with fail
  rw [rounds_succ]
  go_wp2_with fail
  rw [rounds_succ]
  go_wp2_with fail
  rw [rounds_succ]
  go_wp2_with fail
  rw [rounds_succ]
  go_wp2_with fail
  rw [rounds_succ]
  go_wp2_with fail
  go_ret
  exact ⟨ret_bool HK.out.symm, rfl⟩
theorem sign_96 (x : Int) (hx : x = 96) (w : World) : Calls Try.prog 46 #[.int .u8 x] w fun e w' => e = .returned (.bool (sI x)) ∧ w' = w := by
  subst hx
  have HK : Hid (sI 96 = true) := Lib.hid (by decide)
  go_enter Try.func46, Try.ntmps46
  go_wp2_with fail
  refine wp_loop_rounds 16 ?_
  rw [rounds_succ]
  go_wp2_with fail
  rw [rounds_succ]
  go_wp2_with fail
  rw [rounds_succ]
  go_wp2_with fail
  rw [rounds_succ]
  go_wp2_with fail
  rw [rounds_succ]
  go_wp2_with fail
  rw [rounds_succ]
  go_wp2_with fail
  rw [rounds_succ]
  go_wp2_with fail
  rw [rounds_succ]
  go_wp2_with fail
  rw [rounds_succ]
  go_wp2_with fail
  rw [rounds_succ]
  go_wp2_with fail
  rw [rounds_succ]
  go_wp2_with fail
  rw [rounds_succ]
  go_wp2_with fail
  rw [rounds_succ]
  go_wp2_with fail
  go_ret
  exact ⟨ret_bool HK.out.symm, rfl⟩
theorem sign_124 (x : Int) (hx : x = 124) (w : World) : Calls Try.prog 46 #[.int .u8 x] w fun e w' => e = .returned (.bool (sI x)) ∧ w' = w := by
  subst hx
  have HK : Hid (sI 124 = true) := Lib.hid (by decide)
  go_enter Try.func46, Try.ntmps46
  go_wp2_with fail
  refine wp_loop_rounds 16 ?_
  rw [rounds_succ]
  go_wp2_with fail
  rw [rounds_succ]
  go_wp2_with fail
  rw [rounds_succ]
  go_wp2_with fail
  rw [rounds_succ]
  go_wp2_with fail
  rw [rounds_succ]
  go_wp2_with fail
  rw [rounds_succ]
  go_wp2_with fail
  rw [rounds_succ]
  go_wp2_with fail
  rw [rounds_succ]
  go_wp2_with fail
  rw [rounds_succ]
  go_wp2_with fail
  rw [rounds_succ]
  go_wp2_with fail
  rw [rounds_succ]
  go_wp2_with fail
  rw [rounds_succ]
  go_wp2_with fail
  rw [rounds_succ]
  go_wp2_with fail
  rw [rounds_succ]
  go_wp2_with fail
  go_ret
  exact ⟨ret_bool HK.out.symm, rfl⟩
theorem sign_126 (x : Int) (hx : x = 126) (w : World) : Calls Try.prog 46 #[.int .u8 x] w fun e w' => e = .returned (.bool (sI x)) ∧ w' = w := by
  subst hx
  have HK : Hid (sI 126 = true) := Lib.hid (by decide)
  go_enter Try.func46, Try.ntmps46
  go_wp2_with fail
  refine wp_loop_rounds 16 ?_
  rw [rounds_succ]
  go_wp2_with fail
  rw [rounds_succ]
  go_wp2_with fail
  rw [rounds_succ]
  go_wp2_with fail
  rw [rounds_succ]
  go_wp2_with fail
  rw [rounds_succ]
  go_wp2_with fail
  rw [rounds_succ]
  go_wp2_with fail
  rw [rounds_succ]
  go_wp2_with fail
  rw [rounds_succ]
  go_wp2_with fail
  rw [rounds_succ]
  go_wp2_with fail
  rw [rounds_succ]
  go_wp2_with fail
  rw [rounds_succ]
  go_wp2_with fail
  rw [rounds_succ]
  go_wp2_with fail
  rw [rounds_succ]
  go_wp2_with fail
  rw [rounds_succ]
  go_wp2_with fail
  rw [rounds_succ]
  go_wp2_with fail
  go_ret
  exact ⟨ret_bool HK.out.symm, rfl⟩
set_option maxHeartbeats 4000000 in
theorem sign_int (x : Int) (h0 : 0 ≤ x) (h1 : x < 256) (w : World) : Calls Try.prog 46 #[.int .u8 x] w fun e w' => e = .returned (.bool (sI x)) ∧ w' = w := by
  by_cases h_g65 : 65 ≤ x
  · have d_g65 : decide (65 ≤ x) = true := by simpa using h_g65
    by_cases h_l90 : x ≤ 90
    · have d_l90 : decide (x ≤ 90) = true := by simpa using h_l90
      have HK : Hid (sI x = true) := Lib.hid (by simp only [sI, Bool.or_eq_true, Bool.and_eq_true, decide_eq_true_eq]; omega)
      clear h_g65 h_l90
      go_enter Try.func46, Try.ntmps46
      go_wp2_with fail
      go_ret
      exact ⟨ret_bool HK.out.symm, rfl⟩
    · have d_l90 : decide (x ≤ 90) = false := by simpa using h_l90
      by_cases h_g97 : 97 ≤ x
      · have d_g97 : decide (97 ≤ x) = true := by simpa using h_g97
        by_cases h_l122 : x ≤ 122
        · have d_l122 : decide (x ≤ 122) = true := by simpa using h_l122
          have HK : Hid (sI x = true) := Lib.hid (by simp only [sI, Bool.or_eq_true, Bool.and_eq_true, decide_eq_true_eq]; omega)
          clear h_g65 h_l90 h_g97 h_l122
          go_enter Try.func46, Try.ntmps46
          go_wp2_with fail
          go_ret
          exact ⟨ret_bool HK.out.symm, rfl⟩
        · have d_l122 : decide (x ≤ 122) = false := by simpa using h_l122
          by_cases h_g48 : 48 ≤ x
          · have d_g48 : decide (48 ≤ x) = true := by simpa using h_g48
            by_cases h_l57 : x ≤ 57
            · have d_l57 : decide (x ≤ 57) = true := by simpa using h_l57
              exfalso; omega
            · have d_l57 : decide (x ≤ 57) = false := by simpa using h_l57
              by_cases s33 : x = 33
              · exfalso; omega
              by_cases s35 : x = 35
              · exfalso; omega
              by_cases s36 : x = 36
              · exfalso; omega
              by_cases s37 : x = 37
              · exfalso; omega
              by_cases s38 : x = 38
              · exfalso; omega
              by_cases s39 : x = 39
              · exfalso; omega
              by_cases s42 : x = 42
              · exfalso; omega
              by_cases s43 : x = 43
              · exfalso; omega
              by_cases s45 : x = 45
              · exfalso; omega
              by_cases s46 : x = 46
              · exfalso; omega
              by_cases s94 : x = 94
              · exfalso; omega
              by_cases s95 : x = 95
              · exfalso; omega
              by_cases s96 : x = 96
              · exfalso; omega
              by_cases s124 : x = 124
              · exact sign_124 x s124 w
              by_cases s126 : x = 126
              · exact sign_126 x s126 w
              have HK : Hid (sI x = false) := Lib.hid (by simp [sI]; omega)
              have t33 : (((((⟨#[33, 35, 36, 37, 38, 39, 42, 43, 45, 46, 94, 95, 96, 124, 126]⟩ : ByteArray)[0]'(by decide)).toNat : Nat) : Int) == x) = false := by
                have h : ((33 : Int) == x) = false := by
                  simp
                  omega
                exact h
              have t35 : (((((⟨#[33, 35, 36, 37, 38, 39, 42, 43, 45, 46, 94, 95, 96, 124, 126]⟩ : ByteArray)[1]'(by decide)).toNat : Nat) : Int) == x) = false := by
                have h : ((35 : Int) == x) = false := by
                  simp
                  omega
                exact h
              have t36 : (((((⟨#[33, 35, 36, 37, 38, 39, 42, 43, 45, 46, 94, 95, 96, 124, 126]⟩ : ByteArray)[2]'(by decide)).toNat : Nat) : Int) == x) = false := by
                have h : ((36 : Int) == x) = false := by
                  simp
                  omega
                exact h
              have t37 : (((((⟨#[33, 35, 36, 37, 38, 39, 42, 43, 45, 46, 94, 95, 96, 124, 126]⟩ : ByteArray)[3]'(by decide)).toNat : Nat) : Int) == x) = false := by
                have h : ((37 : Int) == x) = false := by
                  simp
                  omega
                exact h
              have t38 : (((((⟨#[33, 35, 36, 37, 38, 39, 42, 43, 45, 46, 94, 95, 96, 124, 126]⟩ : ByteArray)[4]'(by decide)).toNat : Nat) : Int) == x) = false := by
                have h : ((38 : Int) == x) = false := by
                  simp
                  omega
                exact h
              have t39 : (((((⟨#[33, 35, 36, 37, 38, 39, 42, 43, 45, 46, 94, 95, 96, 124, 126]⟩ : ByteArray)[5]'(by decide)).toNat : Nat) : Int) == x) = false := by
                have h : ((39 : Int) == x) = false := by
                  simp
                  omega
                exact h
              have t42 : (((((⟨#[33, 35, 36, 37, 38, 39, 42, 43, 45, 46, 94, 95, 96, 124, 126]⟩ : ByteArray)[6]'(by decide)).toNat : Nat) : Int) == x) = false := by
                have h : ((42 : Int) == x) = false := by
                  simp
                  omega
                exact h
              have t43 : (((((⟨#[33, 35, 36, 37, 38, 39, 42, 43, 45, 46, 94, 95, 96, 124, 126]⟩ : ByteArray)[7]'(by decide)).toNat : Nat) : Int) == x) = false := by
                have h : ((43 : Int) == x) = false := by
                  simp
                  omega
                exact h
              have t45 : (((((⟨#[33, 35, 36, 37, 38, 39, 42, 43, 45, 46, 94, 95, 96, 124, 126]⟩ : ByteArray)[8]'(by decide)).toNat : Nat) : Int) == x) = false := by
                have h : ((45 : Int) == x) = false := by
                  simp
                  omega
                exact h
              have t46 : (((((⟨#[33, 35, 36, 37, 38, 39, 42, 43, 45, 46, 94, 95, 96, 124, 126]⟩ : ByteArray)[9]'(by decide)).toNat : Nat) : Int) == x) = false := by
                have h : ((46 : Int) == x) = false := by
                  simp
                  omega
                exact h
              have t94 : (((((⟨#[33, 35, 36, 37, 38, 39, 42, 43, 45, 46, 94, 95, 96, 124, 126]⟩ : ByteArray)[10]'(by decide)).toNat : Nat) : Int) == x) = false := by
                have h : ((94 : Int) == x) = false := by
                  simp
                  omega
                exact h
              have t95 : (((((⟨#[33, 35, 36, 37, 38, 39, 42, 43, 45, 46, 94, 95, 96, 124, 126]⟩ : ByteArray)[11]'(by decide)).toNat : Nat) : Int) == x) = false := by
                have h : ((95 : Int) == x) = false := by
                  simp
                  omega
                exact h
              have t96 : (((((⟨#[33, 35, 36, 37, 38, 39, 42, 43, 45, 46, 94, 95, 96, 124, 126]⟩ : ByteArray)[12]'(by decide)).toNat : Nat) : Int) == x) = false := by
                have h : ((96 : Int) == x) = false := by
                  simp
                  omega
                exact h
              have t124 : (((((⟨#[33, 35, 36, 37, 38, 39, 42, 43, 45, 46, 94, 95, 96, 124, 126]⟩ : ByteArray)[13]'(by decide)).toNat : Nat) : Int) == x) = false := by
                have h : ((124 : Int) == x) = false := by
                  simp
                  omega
                exact h
              have t126 : (((((⟨#[33, 35, 36, 37, 38, 39, 42, 43, 45, 46, 94, 95, 96, 124, 126]⟩ : ByteArray)[14]'(by decide)).toNat : Nat) : Int) == x) = false := by
                have h : ((126 : Int) == x) = false := by
                  simp
                  omega
                exact h
              clear h_g65 h_l90 h_g97 h_l122 h_g48 h_l57 s33 s35 s36 s37 s38 s39 s42 s43 s45 s46 s94 s95 s96 s124 s126
              go_enter Try.func46, Try.ntmps46
              go_wp2_with fail
              refine wp_loop_rounds 16 ?_
              rw [rounds_succ]
              go_wp2_with fail
              rw [rounds_succ]
              go_wp2_with fail
              rw [rounds_succ]
              go_wp2_with fail
              rw [rounds_succ]
              go_wp2_with fail
              rw [rounds_succ]
              go_wp2_with fail
              rw [rounds_succ]
              go_wp2_with fail
              rw [rounds_succ]
              go_wp2_with fail
              rw [rounds_succ]
              go_wp2_with fail
              rw [rounds_succ]
              go_wp2_with fail
              rw [rounds_succ]
              go_wp2_with fail
              rw [rounds_succ]
              go_wp2_with fail
              rw [rounds_succ]
              go_wp2_with fail
              rw [rounds_succ]
              go_wp2_with fail
              rw [rounds_succ]
              go_wp2_with fail
              rw [rounds_succ]
              go_wp2_with fail
              rw [rounds_succ]
              go_wp2_with fail
              go_ret
              exact ⟨ret_bool HK.out.symm, rfl⟩
          · have d_g48 : decide (48 ≤ x) = false := by simpa using h_g48
            exfalso; omega
      · have d_g97 : decide (97 ≤ x) = false := by simpa using h_g97
        by_cases h_g48 : 48 ≤ x
        · have d_g48 : decide (48 ≤ x) = true := by simpa using h_g48
          by_cases h_l57 : x ≤ 57
          · have d_l57 : decide (x ≤ 57) = true := by simpa using h_l57
            exfalso; omega
          · have d_l57 : decide (x ≤ 57) = false := by simpa using h_l57
            by_cases s33 : x = 33
            · exfalso; omega
            by_cases s35 : x = 35
            · exfalso; omega
            by_cases s36 : x = 36
            · exfalso; omega
            by_cases s37 : x = 37
            · exfalso; omega
            by_cases s38 : x = 38
            · exfalso; omega
            by_cases s39 : x = 39
            · exfalso; omega
            by_cases s42 : x = 42
            · exfalso; omega
            by_cases s43 : x = 43
            · exfalso; omega
            by_cases s45 : x = 45
            · exfalso; omega
            by_cases s46 : x = 46
            · exfalso; omega
            by_cases s94 : x = 94
            · exact sign_94 x s94 w
            by_cases s95 : x = 95
            · exact sign_95 x s95 w
            by_cases s96 : x = 96
            · exact sign_96 x s96 w
            by_cases s124 : x = 124
            · exfalso; omega
            by_cases s126 : x = 126
            · exfalso; omega
            have HK : Hid (sI x = false) := Lib.hid (by simp [sI]; omega)
            have t33 : (((((⟨#[33, 35, 36, 37, 38, 39, 42, 43, 45, 46, 94, 95, 96, 124, 126]⟩ : ByteArray)[0]'(by decide)).toNat : Nat) : Int) == x) = false := by
              have h : ((33 : Int) == x) = false := by
                simp
                omega
              exact h
            have t35 : (((((⟨#[33, 35, 36, 37, 38, 39, 42, 43, 45, 46, 94, 95, 96, 124, 126]⟩ : ByteArray)[1]'(by decide)).toNat : Nat) : Int) == x) = false := by
              have h : ((35 : Int) == x) = false := by
                simp
                omega
              exact h
            have t36 : (((((⟨#[33, 35, 36, 37, 38, 39, 42, 43, 45, 46, 94, 95, 96, 124, 126]⟩ : ByteArray)[2]'(by decide)).toNat : Nat) : Int) == x) = false := by
              have h : ((36 : Int) == x) = false := by
                simp
                omega
              exact h
            have t37 : (((((⟨#[33, 35, 36, 37, 38, 39, 42, 43, 45, 46, 94, 95, 96, 124, 126]⟩ : ByteArray)[3]'(by decide)).toNat : Nat) : Int) == x) = false := by
              have h : ((37 : Int) == x) = false := by
                simp
                omega
              exact h
            have t38 : (((((⟨#[33, 35, 36, 37, 38, 39, 42, 43, 45, 46, 94, 95, 96, 124, 126]⟩ : ByteArray)[4]'(by decide)).toNat : Nat) : Int) == x) = false := by
              have h : ((38 : Int) == x) = false := by
                simp
                omega
              exact h
            have t39 : (((((⟨#[33, 35, 36, 37, 38, 39, 42, 43, 45, 46, 94, 95, 96, 124, 126]⟩ : ByteArray)[5]'(by decide)).toNat : Nat) : Int) == x) = false := by
              have h : ((39 : Int) == x) = false := by
                simp
                omega
              exact h
            have t42 : (((((⟨#[33, 35, 36, 37, 38, 39, 42, 43, 45, 46, 94, 95, 96, 124, 126]⟩ : ByteArray)[6]'(by decide)).toNat : Nat) : Int) == x) = false := by
              have h : ((42 : Int) == x) = false := by
                simp
                omega
              exact h
            have t43 : (((((⟨#[33, 35, 36, 37, 38, 39, 42, 43, 45, 46, 94, 95, 96, 124, 126]⟩ : ByteArray)[7]'(by decide)).toNat : Nat) : Int) == x) = false := by
              have h : ((43 : Int) == x) = false := by
                simp
                omega
              exact h
            have t45 : (((((⟨#[33, 35, 36, 37, 38, 39, 42, 43, 45, 46, 94, 95, 96, 124, 126]⟩ : ByteArray)[8]'(by decide)).toNat : Nat) : Int) == x) = false := by
              have h : ((45 : Int) == x) = false := by
                simp
                omega
              exact h
            have t46 : (((((⟨#[33, 35, 36, 37, 38, 39, 42, 43, 45, 46, 94, 95, 96, 124, 126]⟩ : ByteArray)[9]'(by decide)).toNat : Nat) : Int) == x) = false := by
              have h : ((46 : Int) == x) = false := by
                simp
                omega
              exact h
            have t94 : (((((⟨#[33, 35, 36, 37, 38, 39, 42, 43, 45, 46, 94, 95, 96, 124, 126]⟩ : ByteArray)[10]'(by decide)).toNat : Nat) : Int) == x) = false := by
              have h : ((94 : Int) == x) = false := by
                simp
                omega
              exact h
            have t95 : (((((⟨#[33, 35, 36, 37, 38, 39, 42, 43, 45, 46, 94, 95, 96, 124, 126]⟩ : ByteArray)[11]'(by decide)).toNat : Nat) : Int) == x) = false := by
              have h : ((95 : Int) == x) = false := by
                simp
                omega
              exact h
            have t96 : (((((⟨#[33, 35, 36, 37, 38, 39, 42, 43, 45, 46, 94, 95, 96, 124, 126]⟩ : ByteArray)[12]'(by decide)).toNat : Nat) : Int) == x) = false := by
              have h : ((96 : Int) == x) = false := by
                simp
                omega
              exact h
            have t124 : (((((⟨#[33, 35, 36, 37, 38, 39, 42, 43, 45, 46, 94, 95, 96, 124, 126]⟩ : ByteArray)[13]'(by decide)).toNat : Nat) : Int) == x) = false := by
              have h : ((124 : Int) == x) = false := by
                simp
                omega
              exact h
            have t126 : (((((⟨#[33, 35, 36, 37, 38, 39, 42, 43, 45, 46, 94, 95, 96, 124, 126]⟩ : ByteArray)[14]'(by decide)).toNat : Nat) : Int) == x) = false := by
              have h : ((126 : Int) == x) = false := by
                simp
                omega
              exact h
            clear h_g65 h_l90 h_g97 h_g48 h_l57 s33 s35 s36 s37 s38 s39 s42 s43 s45 s46 s94 s95 s96 s124 s126
            go_enter Try.func46, Try.ntmps46
            go_wp2_with fail
            refine wp_loop_rounds 16 ?_
            rw [rounds_succ]
            go_wp2_with fail
            rw [rounds_succ]
            go_wp2_with fail
            rw [rounds_succ]
            go_wp2_with fail
            rw [rounds_succ]
            go_wp2_with fail
            rw [rounds_succ]
            go_wp2_with fail
            rw [rounds_succ]
            go_wp2_with fail
            rw [rounds_succ]
            go_wp2_with fail
            rw [rounds_succ]
            go_wp2_with fail
            rw [rounds_succ]
            go_wp2_with fail
            rw [rounds_succ]
            go_wp2_with fail
            rw [rounds_succ]
            go_wp2_with fail
            rw [rounds_succ]
            go_wp2_with fail
            rw [rounds_succ]
            go_wp2_with fail
            rw [rounds_succ]
            go_wp2_with fail
            rw [rounds_succ]
            go_wp2_with fail
            rw [rounds_succ]
            go_wp2_with fail
            go_ret
            exact ⟨ret_bool HK.out.symm, rfl⟩
        · have d_g48 : decide (48 ≤ x) = false := by simpa using h_g48
          exfalso; omega
  · have d_g65 : decide (65 ≤ x) = false := by simpa using h_g65
    by_cases h_g97 : 97 ≤ x
    · have d_g97 : decide (97 ≤ x) = true := by simpa using h_g97
      exfalso; omega
    · have d_g97 : decide (97 ≤ x) = false := by simpa using h_g97
      by_cases h_g48 : 48 ≤ x
      · have d_g48 : decide (48 ≤ x) = true := by simpa using h_g48
        by_cases h_l57 : x ≤ 57
        · have d_l57 : decide (x ≤ 57) = true := by simpa using h_l57
          have HK : Hid (sI x = true) := Lib.hid (by simp only [sI, Bool.or_eq_true, Bool.and_eq_true, decide_eq_true_eq]; omega)
          clear h_g65 h_g97 h_g48 h_l57
          go_enter Try.func46, Try.ntmps46
          go_wp2_with fail
          go_ret
          exact ⟨ret_bool HK.out.symm, rfl⟩
        · have d_l57 : decide (x ≤ 57) = false := by simpa using h_l57
          by_cases s33 : x = 33
          · exfalso; omega
          by_cases s35 : x = 35
          · exfalso; omega
          by_cases s36 : x = 36
          · exfalso; omega
          by_cases s37 : x = 37
          · exfalso; omega
          by_cases s38 : x = 38
          · exfalso; omega
          by_cases s39 : x = 39
          · exfalso; omega
          by_cases s42 : x = 42
          · exfalso; omega
          by_cases s43 : x = 43
          · exfalso; omega
          by_cases s45 : x = 45
          · exfalso; omega
          by_cases s46 : x = 46
          · exfalso; omega
          by_cases s94 : x = 94
          · exfalso; omega
          by_cases s95 : x = 95
          · exfalso; omega
          by_cases s96 : x = 96
          · exfalso; omega
          by_cases s124 : x = 124
          · exfalso; omega
          by_cases s126 : x = 126
          · exfalso; omega
          have HK : Hid (sI x = false) := Lib.hid (by simp [sI]; omega)
          have t33 : (((((⟨#[33, 35, 36, 37, 38, 39, 42, 43, 45, 46, 94, 95, 96, 124, 126]⟩ : ByteArray)[0]'(by decide)).toNat : Nat) : Int) == x) = false := by
            have h : ((33 : Int) == x) = false := by
              simp
              omega
            exact h
          have t35 : (((((⟨#[33, 35, 36, 37, 38, 39, 42, 43, 45, 46, 94, 95, 96, 124, 126]⟩ : ByteArray)[1]'(by decide)).toNat : Nat) : Int) == x) = false := by
            have h : ((35 : Int) == x) = false := by
              simp
              omega
            exact h
          have t36 : (((((⟨#[33, 35, 36, 37, 38, 39, 42, 43, 45, 46, 94, 95, 96, 124, 126]⟩ : ByteArray)[2]'(by decide)).toNat : Nat) : Int) == x) = false := by
            have h : ((36 : Int) == x) = false := by
              simp
              omega
            exact h
          have t37 : (((((⟨#[33, 35, 36, 37, 38, 39, 42, 43, 45, 46, 94, 95, 96, 124, 126]⟩ : ByteArray)[3]'(by decide)).toNat : Nat) : Int) == x) = false := by
            have h : ((37 : Int) == x) = false := by
              simp
              omega
            exact h
          have t38 : (((((⟨#[33, 35, 36, 37, 38, 39, 42, 43, 45, 46, 94, 95, 96, 124, 126]⟩ : ByteArray)[4]'(by decide)).toNat : Nat) : Int) == x) = false := by
            have h : ((38 : Int) == x) = false := by
              simp
              omega
            exact h
          have t39 : (((((⟨#[33, 35, 36, 37, 38, 39, 42, 43, 45, 46, 94, 95, 96, 124, 126]⟩ : ByteArray)[5]'(by decide)).toNat : Nat) : Int) == x) = false := by
            have h : ((39 : Int) == x) = false := by
              simp
              omega
            exact h
          have t42 : (((((⟨#[33, 35, 36, 37, 38, 39, 42, 43, 45, 46, 94, 95, 96, 124, 126]⟩ : ByteArray)[6]'(by decide)).toNat : Nat) : Int) == x) = false := by
            have h : ((42 : Int) == x) = false := by
              simp
              omega
            exact h
          have t43 : (((((⟨#[33, 35, 36, 37, 38, 39, 42, 43, 45, 46, 94, 95, 96, 124, 126]⟩ : ByteArray)[7]'(by decide)).toNat : Nat) : Int) == x) = false := by
            have h : ((43 : Int) == x) = false := by
              simp
              omega
            exact h
          have t45 : (((((⟨#[33, 35, 36, 37, 38, 39, 42, 43, 45, 46, 94, 95, 96, 124, 126]⟩ : ByteArray)[8]'(by decide)).toNat : Nat) : Int) == x) = false := by
            have h : ((45 : Int) == x) = false := by
              simp
              omega
            exact h
          have t46 : (((((⟨#[33, 35, 36, 37, 38, 39, 42, 43, 45, 46, 94, 95, 96, 124, 126]⟩ : ByteArray)[9]'(by decide)).toNat : Nat) : Int) == x) = false := by
            have h : ((46 : Int) == x) = false := by
              simp
              omega
            exact h
          have t94 : (((((⟨#[33, 35, 36, 37, 38, 39, 42, 43, 45, 46, 94, 95, 96, 124, 126]⟩ : ByteArray)[10]'(by decide)).toNat : Nat) : Int) == x) = false := by
            have h : ((94 : Int) == x) = false := by
              simp
              omega
            exact h
          have t95 : (((((⟨#[33, 35, 36, 37, 38, 39, 42, 43, 45, 46, 94, 95, 96, 124, 126]⟩ : ByteArray)[11]'(by decide)).toNat : Nat) : Int) == x) = false := by
            have h : ((95 : Int) == x) = false := by
              simp
              omega
            exact h
          have t96 : (((((⟨#[33, 35, 36, 37, 38, 39, 42, 43, 45, 46, 94, 95, 96, 124, 126]⟩ : ByteArray)[12]'(by decide)).toNat : Nat) : Int) == x) = false := by
            have h : ((96 : Int) == x) = false := by
              simp
              omega
            exact h
          have t124 : (((((⟨#[33, 35, 36, 37, 38, 39, 42, 43, 45, 46, 94, 95, 96, 124, 126]⟩ : ByteArray)[13]'(by decide)).toNat : Nat) : Int) == x) = false := by
            have h : ((124 : Int) == x) = false := by
              simp
              omega
            exact h
          have t126 : (((((⟨#[33, 35, 36, 37, 38, 39, 42, 43, 45, 46, 94, 95, 96, 124, 126]⟩ : ByteArray)[14]'(by decide)).toNat : Nat) : Int) == x) = false := by
            have h : ((126 : Int) == x) = false := by
              simp
              omega
            exact h
          clear h_g65 h_g97 h_g48 h_l57 s33 s35 s36 s37 s38 s39 s42 s43 s45 s46 s94 s95 s96 s124 s126
          go_enter Try.func46, Try.ntmps46
          go_wp2_with fail
          refine wp_loop_rounds 16 ?_
          rw [rounds_succ]
          go_wp2_with fail
          rw [rounds_succ]
          go_wp2_with fail
          rw [rounds_succ]
          go_wp2_with fail
          rw [rounds_succ]
          go_wp2_with fail
          rw [rounds_succ]
          go_wp2_with fail
          rw [rounds_succ]
          go_wp2_with fail
          rw [rounds_succ]
          go_wp2_with fail
          rw [rounds_succ]
          go_wp2_with fail
          rw [rounds_succ]
          go_wp2_with fail
          rw [rounds_succ]
          go_wp2_with fail
          rw [rounds_succ]
          go_wp2_with fail
          rw [rounds_succ]
          go_wp2_with fail
          rw [rounds_succ]
          go_wp2_with fail
          rw [rounds_succ]
          go_wp2_with fail
          rw [rounds_succ]
          go_wp2_with fail
          rw [rounds_succ]
          go_wp2_with fail
          go_ret
          exact ⟨ret_bool HK.out.symm, rfl⟩
      · have d_g48 : decide (48 ≤ x) = false := by simpa using h_g48
        by_cases s33 : x = 33
        · exact sign_33 x s33 w
        by_cases s35 : x = 35
        · exact sign_35 x s35 w
        by_cases s36 : x = 36
        · exact sign_36 x s36 w
        by_cases s37 : x = 37
        · exact sign_37 x s37 w
        by_cases s38 : x = 38
        · exact sign_38 x s38 w
        by_cases s39 : x = 39
        · exact sign_39 x s39 w
        by_cases s42 : x = 42
        · exact sign_42 x s42 w
        by_cases s43 : x = 43
        · exact sign_43 x s43 w
        by_cases s45 : x = 45
        · exact sign_45 x s45 w
        by_cases s46 : x = 46
        · exact sign_46 x s46 w
        by_cases s94 : x = 94
        · exfalso; omega
        by_cases s95 : x = 95
        · exfalso; omega
        by_cases s96 : x = 96
        · exfalso; omega
        by_cases s124 : x = 124
        · exfalso; omega
        by_cases s126 : x = 126
        · exfalso; omega
        have HK : Hid (sI x = false) := Lib.hid (by simp [sI]; omega)
        have t33 : (((((⟨#[33, 35, 36, 37, 38, 39, 42, 43, 45, 46, 94, 95, 96, 124, 126]⟩ : ByteArray)[0]'(by decide)).toNat : Nat) : Int) == x) = false := by
          have h : ((33 : Int) == x) = false := by
            simp
            omega
          exact h
        have t35 : (((((⟨#[33, 35, 36, 37, 38, 39, 42, 43, 45, 46, 94, 95, 96, 124, 126]⟩ : ByteArray)[1]'(by decide)).toNat : Nat) : Int) == x) = false := by
          have h : ((35 : Int) == x) = false := by
            simp
            omega
          exact h
        have t36 : (((((⟨#[33, 35, 36, 37, 38, 39, 42, 43, 45, 46, 94, 95, 96, 124, 126]⟩ : ByteArray)[2]'(by decide)).toNat : Nat) : Int) == x) = false := by
          have h : ((36 : Int) == x) = false := by
            simp
            omega
          exact h
        have t37 : (((((⟨#[33, 35, 36, 37, 38, 39, 42, 43, 45, 46, 94, 95, 96, 124, 126]⟩ : ByteArray)[3]'(by decide)).toNat : Nat) : Int) == x) = false := by
          have h : ((37 : Int) == x) = false := by
            simp
            omega
          exact h
        have t38 : (((((⟨#[33, 35, 36, 37, 38, 39, 42, 43, 45, 46, 94, 95, 96, 124, 126]⟩ : ByteArray)[4]'(by decide)).toNat : Nat) : Int) == x) = false := by
          have h : ((38 : Int) == x) = false := by
            simp
            omega
          exact h
        have t39 : (((((⟨#[33, 35, 36, 37, 38, 39, 42, 43, 45, 46, 94, 95, 96, 124, 126]⟩ : ByteArray)[5]'(by decide)).toNat : Nat) : Int) == x) = false := by
          have h : ((39 : Int) == x) = false := by
            simp
            omega
          exact h
        have t42 : (((((⟨#[33, 35, 36, 37, 38, 39, 42, 43, 45, 46, 94, 95, 96, 124, 126]⟩ : ByteArray)[6]'(by decide)).toNat : Nat) : Int) == x) = false := by
          have h : ((42 : Int) == x) = false := by
            simp
            omega
          exact h
        have t43 : (((((⟨#[33, 35, 36, 37, 38, 39, 42, 43, 45, 46, 94, 95, 96, 124, 126]⟩ : ByteArray)[7]'(by decide)).toNat : Nat) : Int) == x) = false := by
          have h : ((43 : Int) == x) = false := by
            simp
            omega
          exact h
        have t45 : (((((⟨#[33, 35, 36, 37, 38, 39, 42, 43, 45, 46, 94, 95, 96, 124, 126]⟩ : ByteArray)[8]'(by decide)).toNat : Nat) : Int) == x) = false := by
          have h : ((45 : Int) == x) = false := by
            simp
            omega
          exact h
        have t46 : (((((⟨#[33, 35, 36, 37, 38, 39, 42, 43, 45, 46, 94, 95, 96, 124, 126]⟩ : ByteArray)[9]'(by decide)).toNat : Nat) : Int) == x) = false := by
          have h : ((46 : Int) == x) = false := by
            simp
            omega
          exact h
        have t94 : (((((⟨#[33, 35, 36, 37, 38, 39, 42, 43, 45, 46, 94, 95, 96, 124, 126]⟩ : ByteArray)[10]'(by decide)).toNat : Nat) : Int) == x) = false := by
          have h : ((94 : Int) == x) = false := by
            simp
            omega
          exact h
        have t95 : (((((⟨#[33, 35, 36, 37, 38, 39, 42, 43, 45, 46, 94, 95, 96, 124, 126]⟩ : ByteArray)[11]'(by decide)).toNat : Nat) : Int) == x) = false := by
          have h : ((95 : Int) == x) = false := by
            simp
            omega
          exact h
        have t96 : (((((⟨#[33, 35, 36, 37, 38, 39, 42, 43, 45, 46, 94, 95, 96, 124, 126]⟩ : ByteArray)[12]'(by decide)).toNat : Nat) : Int) == x) = false := by
          have h : ((96 : Int) == x) = false := by
            simp
            omega
          exact h
        have t124 : (((((⟨#[33, 35, 36, 37, 38, 39, 42, 43, 45, 46, 94, 95, 96, 124, 126]⟩ : ByteArray)[13]'(by decide)).toNat : Nat) : Int) == x) = false := by
          have h : ((124 : Int) == x) = false := by
            simp
            omega
          exact h
        have t126 : (((((⟨#[33, 35, 36, 37, 38, 39, 42, 43, 45, 46, 94, 95, 96, 124, 126]⟩ : ByteArray)[14]'(by decide)).toNat : Nat) : Int) == x) = false := by
          have h : ((126 : Int) == x) = false := by
            simp
            omega
          exact h
        clear h_g65 h_g97 h_g48 s33 s35 s36 s37 s38 s39 s42 s43 s45 s46 s94 s95 s96 s124 s126
        go_enter Try.func46, Try.ntmps46
        go_wp2_with fail
        refine wp_loop_rounds 16 ?_
        rw [rounds_succ]
        go_wp2_with fail
        rw [rounds_succ]
        go_wp2_with fail
        rw [rounds_succ]
        go_wp2_with fail
        rw [rounds_succ]
        go_wp2_with fail
        rw [rounds_succ]
        go_wp2_with fail
        rw [rounds_succ]
        go_wp2_with fail
        rw [rounds_succ]
        go_wp2_with fail
        rw [rounds_succ]
        go_wp2_with fail
        rw [rounds_succ]
        go_wp2_with fail
        rw [rounds_succ]
        go_wp2_with fail
        rw [rounds_succ]
        go_wp2_with fail
        rw [rounds_succ]
        go_wp2_with fail
        rw [rounds_succ]
        go_wp2_with fail
        rw [rounds_succ]
        go_wp2_with fail
        rw [rounds_succ]
        go_wp2_with fail
        rw [rounds_succ]
        go_wp2_with fail
        go_ret
        exact ⟨ret_bool HK.out.symm, rfl⟩
end Go.Proofs.Ytgadpoahjlnheaa.Med
