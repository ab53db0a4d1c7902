/- The contracts of the document's own within, Char, Space, First, Further. -/
import Derived.Test.YtehehmpepkgbeaaDoorCA
namespace Go.Proofs.YtehehmpepkgbeaaDoor.Chr
open Go.RowKit
set_option linter.unusedVariables false
set_option linter.unusedSimpArgs false
theorem eq_wp {a b : World} (h : a = b) : b = a := h.symm
theorem rwithin_any (r a b : Int) (w : World) : Calls Tryd.prog 33 #[.int .i64 r, .int .i64 a, .int .i64 b] w fun e w' => e = .returned (.bool (inS r (a, b))) ∧ w' = w := by
  by_cases h1 : a ≤ r
  · by_cases h2 : r ≤ b
    · have HX : Hid (inS r (a, b) = true) := Lib.hid (inS_yes h1 h2)
      rw [HX.out]
      have h3 : r ≥ a := h1
      go_enter Tryd.func33, Tryd.ntmps33
      go_wp2_with fail
      go_ret
      exact ⟨rfl, rfl⟩
    · have HX : Hid (inS r (a, b) = false) := Lib.hid (inS_no (fun h => h2 h.2))
      rw [HX.out]
      have h3 : r ≥ a := h1
      have h4 : b < r := by omega
      go_enter Tryd.func33, Tryd.ntmps33
      go_wp2_with fail
      go_ret
      exact ⟨rfl, rfl⟩
  · have HX : Hid (inS r (a, b) = false) := Lib.hid (inS_no (fun h => h1 h.1))
    rw [HX.out]
    have h4 : r < a := by omega
    go_enter Tryd.func33, Tryd.ntmps33
    go_wp2_with fail
    go_ret
    exact ⟨rfl, rfl⟩
theorem rwithin_at (r a b : Int) (x : Bool) (h : inS r (a, b) = x) (w : World) : Calls Tryd.prog 33 #[.int .i64 r, .int .i64 a, .int .i64 b] w fun e w' => e = .returned (.bool x) ∧ w' = w := by
  subst h; exact rwithin_any r a b w
set_option maxRecDepth 100000 in
set_option maxHeartbeats 4000000 in
theorem rspace_any (r : Int) (w : World) : Calls Tryd.prog 12 #[.int .i64 r] w fun e w' => e = .returned (.bool (spc r)) ∧ w' = w := by
  by_cases h0 : r = 9
  · have HZ : Hid (spc r = true) := Lib.hid (by unfold spc; rw [decide_eq_true_eq]; omega)
    have f0 : (r == 9) = true := by simpa using h0
    clear h0
    rw [HZ.out]
    go_enter Tryd.func12, Tryd.ntmps12
    go_wp2_with fail
    go_ret
    exact ⟨rfl, rfl⟩
  have f0 : (r == 9) = false := by simpa using h0
  replace h0 := Lib.hid h0
  by_cases h1 : r = 10
  · have HZ : Hid (spc r = true) := Lib.hid (by unfold spc; rw [decide_eq_true_eq]; omega)
    have f1 : (r == 10) = true := by simpa using h1
    clear h1
    rw [HZ.out]
    go_enter Tryd.func12, Tryd.ntmps12
    go_wp2_with fail
    go_ret
    exact ⟨rfl, rfl⟩
  have f1 : (r == 10) = false := by simpa using h1
  replace h1 := Lib.hid h1
  by_cases h2 : r = 13
  · have HZ : Hid (spc r = true) := Lib.hid (by unfold spc; rw [decide_eq_true_eq]; omega)
    have f2 : (r == 13) = true := by simpa using h2
    clear h2
    rw [HZ.out]
    go_enter Tryd.func12, Tryd.ntmps12
    go_wp2_with fail
    go_ret
    exact ⟨rfl, rfl⟩
  have f2 : (r == 13) = false := by simpa using h2
  replace h2 := Lib.hid h2
  by_cases h3 : r = 32
  · have HZ : Hid (spc r = true) := Lib.hid (by unfold spc; rw [decide_eq_true_eq]; omega)
    have f3 : (r == 32) = true := by simpa using h3
    clear h3
    rw [HZ.out]
    go_enter Tryd.func12, Tryd.ntmps12
    go_wp2_with fail
    go_ret
    exact ⟨rfl, rfl⟩
  have f3 : (r == 32) = false := by simpa using h3
  replace h3 := Lib.hid h3
  have HZ : Hid (spc r = false) := Lib.hid (by have k0 := h0.out; have k1 := h1.out; have k2 := h2.out; have k3 := h3.out; unfold spc; rw [decide_eq_false_iff_not]; omega)
  clear h0 h1 h2 h3
  rw [HZ.out]
  go_enter Tryd.func12, Tryd.ntmps12
  go_wp2_with fail
  go_ret
  exact ⟨rfl, rfl⟩
set_option maxRecDepth 100000 in
set_option maxHeartbeats 4000000 in
theorem rchar_any (r : Int) (w : World) : Calls Tryd.prog 10 #[.int .i64 r] w fun e w' => e = .returned (.bool (chr r)) ∧ w' = w := by
  have HW : Hid (∀ a b x w, inS r (a, b) = x → Calls Tryd.prog 33 #[.int .i64 r, .int .i64 a, .int .i64 b] w fun e w' => e = .returned (.bool x) ∧ w' = w) := Lib.hid fun a b x w h => rwithin_at r a b x h w
  by_cases h0 : r = 9
  · have HZ : Hid (chr r = true) := Lib.hid (by unfold chr; rw [decide_eq_true_eq]; omega)
    have f0 : (r == 9) = true := by simpa using h0
    clear h0
    rw [HZ.out]
    go_enter Tryd.func10, Tryd.ntmps10
    go_wp2_with (first
      | (go_at_call 33; refine (HW.out _ _ _ _ (by assumption)).mono ?_; rintro _ w9 ⟨rfl, hw9⟩; subst w9))
    go_ret
    exact ⟨rfl, rfl⟩
  have f0 : (r == 9) = false := by simpa using h0
  replace h0 := Lib.hid h0
  by_cases h1 : r = 10
  · have HZ : Hid (chr r = true) := Lib.hid (by unfold chr; rw [decide_eq_true_eq]; omega)
    have f1 : (r == 10) = true := by simpa using h1
    clear h1
    rw [HZ.out]
    go_enter Tryd.func10, Tryd.ntmps10
    go_wp2_with (first
      | (go_at_call 33; refine (HW.out _ _ _ _ (by assumption)).mono ?_; rintro _ w9 ⟨rfl, hw9⟩; subst w9))
    go_ret
    exact ⟨rfl, rfl⟩
  have f1 : (r == 10) = false := by simpa using h1
  replace h1 := Lib.hid h1
  by_cases h2 : r = 13
  · have HZ : Hid (chr r = true) := Lib.hid (by unfold chr; rw [decide_eq_true_eq]; omega)
    have f2 : (r == 13) = true := by simpa using h2
    clear h2
    rw [HZ.out]
    go_enter Tryd.func10, Tryd.ntmps10
    go_wp2_with (first
      | (go_at_call 33; refine (HW.out _ _ _ _ (by assumption)).mono ?_; rintro _ w9 ⟨rfl, hw9⟩; subst w9))
    go_ret
    exact ⟨rfl, rfl⟩
  have f2 : (r == 13) = false := by simpa using h2
  replace h2 := Lib.hid h2
  by_cases h3 : (32 : Int) ≤ r ∧ r ≤ 55295
  · have HZ : Hid (chr r = true) := Lib.hid (by unfold chr; rw [decide_eq_true_eq]; omega)
    have f3 : inS r (32, 55295) = true := inS_yes h3.1 h3.2
    clear h3
    rw [HZ.out]
    go_enter Tryd.func10, Tryd.ntmps10
    go_wp2_with (first
      | (go_at_call 33; refine (HW.out _ _ _ _ (by assumption)).mono ?_; rintro _ w9 ⟨rfl, hw9⟩; subst w9))
    go_ret
    exact ⟨rfl, rfl⟩
  have f3 : inS r (32, 55295) = false := inS_no h3
  replace h3 := Lib.hid h3
  by_cases h4 : (57344 : Int) ≤ r ∧ r ≤ 65533
  · have HZ : Hid (chr r = true) := Lib.hid (by unfold chr; rw [decide_eq_true_eq]; omega)
    have f4 : inS r (57344, 65533) = true := inS_yes h4.1 h4.2
    clear h4
    rw [HZ.out]
    go_enter Tryd.func10, Tryd.ntmps10
    go_wp2_with (first
      | (go_at_call 33; refine (HW.out _ _ _ _ (by assumption)).mono ?_; rintro _ w9 ⟨rfl, hw9⟩; subst w9))
    go_ret
    exact ⟨rfl, rfl⟩
  have f4 : inS r (57344, 65533) = false := inS_no h4
  replace h4 := Lib.hid h4
  by_cases h5 : (65536 : Int) ≤ r ∧ r ≤ 1114111
  · have HZ : Hid (chr r = true) := Lib.hid (by unfold chr; rw [decide_eq_true_eq]; omega)
    have f5 : inS r (65536, 1114111) = true := inS_yes h5.1 h5.2
    clear h5
    rw [HZ.out]
    go_enter Tryd.func10, Tryd.ntmps10
    go_wp2_with (first
      | (go_at_call 33; refine (HW.out _ _ _ _ (by assumption)).mono ?_; rintro _ w9 ⟨rfl, hw9⟩; subst w9))
    go_ret
    exact ⟨rfl, rfl⟩
  have f5 : inS r (65536, 1114111) = false := inS_no h5
  replace h5 := Lib.hid h5
  have HZ : Hid (chr r = false) := Lib.hid (by have k0 := h0.out; have k1 := h1.out; have k2 := h2.out; have k3 := h3.out; have k4 := h4.out; have k5 := h5.out; unfold chr; rw [decide_eq_false_iff_not]; omega)
  clear h0 h1 h2 h3 h4 h5
  rw [HZ.out]
  go_enter Tryd.func10, Tryd.ntmps10
  go_wp2_with (first
    | (go_at_call 33; refine (HW.out _ _ _ _ (by assumption)).mono ?_; rintro _ w9 ⟨rfl, hw9⟩; subst w9))
  go_ret
  exact ⟨rfl, rfl⟩
set_option maxRecDepth 100000 in
set_option maxHeartbeats 4000000 in
theorem rfirst_any (r : Int) (w : World) : Calls Tryd.prog 14 #[.int .i64 r] w fun e w' => e = .returned (.bool (fstC r)) ∧ w' = w := by
  have HW : Hid (∀ a b x w, inS r (a, b) = x → Calls Tryd.prog 33 #[.int .i64 r, .int .i64 a, .int .i64 b] w fun e w' => e = .returned (.bool x) ∧ w' = w) := Lib.hid fun a b x w h => rwithin_at r a b x h w
  by_cases h0 : (65 : Int) ≤ r ∧ r ≤ 90
  · have HZ : Hid (fstC r = true) := Lib.hid (by unfold fstC; rw [decide_eq_true_eq]; omega)
    have f0 : inS r (65, 90) = true := inS_yes h0.1 h0.2
    clear h0
    rw [HZ.out]
    go_enter Tryd.func14, Tryd.ntmps14
    go_wp2_with (first
      | (go_at_call 33; refine (HW.out _ _ _ _ (by assumption)).mono ?_; rintro _ w9 ⟨rfl, hw9⟩; subst w9))
    go_ret
    exact ⟨rfl, rfl⟩
  have f0 : inS r (65, 90) = false := inS_no h0
  replace h0 := Lib.hid h0
  by_cases h1 : (97 : Int) ≤ r ∧ r ≤ 122
  · have HZ : Hid (fstC r = true) := Lib.hid (by unfold fstC; rw [decide_eq_true_eq]; omega)
    have f1 : inS r (97, 122) = true := inS_yes h1.1 h1.2
    clear h1
    rw [HZ.out]
    go_enter Tryd.func14, Tryd.ntmps14
    go_wp2_with (first
      | (go_at_call 33; refine (HW.out _ _ _ _ (by assumption)).mono ?_; rintro _ w9 ⟨rfl, hw9⟩; subst w9))
    go_ret
    exact ⟨rfl, rfl⟩
  have f1 : inS r (97, 122) = false := inS_no h1
  replace h1 := Lib.hid h1
  by_cases h2 : r = 95
  · have HZ : Hid (fstC r = true) := Lib.hid (by unfold fstC; rw [decide_eq_true_eq]; omega)
    have f2 : (r == 95) = true := by simpa using h2
    clear h2
    rw [HZ.out]
    go_enter Tryd.func14, Tryd.ntmps14
    go_wp2_with (first
      | (go_at_call 33; refine (HW.out _ _ _ _ (by assumption)).mono ?_; rintro _ w9 ⟨rfl, hw9⟩; subst w9))
    go_ret
    exact ⟨rfl, rfl⟩
  have f2 : (r == 95) = false := by simpa using h2
  replace h2 := Lib.hid h2
  by_cases h3 : (192 : Int) ≤ r ∧ r ≤ 214
  · have HZ : Hid (fstC r = true) := Lib.hid (by unfold fstC; rw [decide_eq_true_eq]; omega)
    have f3 : inS r (192, 214) = true := inS_yes h3.1 h3.2
    clear h3
    rw [HZ.out]
    go_enter Tryd.func14, Tryd.ntmps14
    go_wp2_with (first
      | (go_at_call 33; refine (HW.out _ _ _ _ (by assumption)).mono ?_; rintro _ w9 ⟨rfl, hw9⟩; subst w9))
    go_ret
    exact ⟨rfl, rfl⟩
  have f3 : inS r (192, 214) = false := inS_no h3
  replace h3 := Lib.hid h3
  by_cases h4 : (216 : Int) ≤ r ∧ r ≤ 246
  · have HZ : Hid (fstC r = true) := Lib.hid (by unfold fstC; rw [decide_eq_true_eq]; omega)
    have f4 : inS r (216, 246) = true := inS_yes h4.1 h4.2
    clear h4
    rw [HZ.out]
    go_enter Tryd.func14, Tryd.ntmps14
    go_wp2_with (first
      | (go_at_call 33; refine (HW.out _ _ _ _ (by assumption)).mono ?_; rintro _ w9 ⟨rfl, hw9⟩; subst w9))
    go_ret
    exact ⟨rfl, rfl⟩
  have f4 : inS r (216, 246) = false := inS_no h4
  replace h4 := Lib.hid h4
  by_cases h5 : (248 : Int) ≤ r ∧ r ≤ 767
  · have HZ : Hid (fstC r = true) := Lib.hid (by unfold fstC; rw [decide_eq_true_eq]; omega)
    have f5 : inS r (248, 767) = true := inS_yes h5.1 h5.2
    clear h5
    rw [HZ.out]
    go_enter Tryd.func14, Tryd.ntmps14
    go_wp2_with (first
      | (go_at_call 33; refine (HW.out _ _ _ _ (by assumption)).mono ?_; rintro _ w9 ⟨rfl, hw9⟩; subst w9))
    go_ret
    exact ⟨rfl, rfl⟩
  have f5 : inS r (248, 767) = false := inS_no h5
  replace h5 := Lib.hid h5
  by_cases h6 : (880 : Int) ≤ r ∧ r ≤ 893
  · have HZ : Hid (fstC r = true) := Lib.hid (by unfold fstC; rw [decide_eq_true_eq]; omega)
    have f6 : inS r (880, 893) = true := inS_yes h6.1 h6.2
    clear h6
    rw [HZ.out]
    go_enter Tryd.func14, Tryd.ntmps14
    go_wp2_with (first
      | (go_at_call 33; refine (HW.out _ _ _ _ (by assumption)).mono ?_; rintro _ w9 ⟨rfl, hw9⟩; subst w9))
    go_ret
    exact ⟨rfl, rfl⟩
  have f6 : inS r (880, 893) = false := inS_no h6
  replace h6 := Lib.hid h6
  by_cases h7 : (895 : Int) ≤ r ∧ r ≤ 8191
  · have HZ : Hid (fstC r = true) := Lib.hid (by unfold fstC; rw [decide_eq_true_eq]; omega)
    have f7 : inS r (895, 8191) = true := inS_yes h7.1 h7.2
    clear h7
    rw [HZ.out]
    go_enter Tryd.func14, Tryd.ntmps14
    go_wp2_with (first
      | (go_at_call 33; refine (HW.out _ _ _ _ (by assumption)).mono ?_; rintro _ w9 ⟨rfl, hw9⟩; subst w9))
    go_ret
    exact ⟨rfl, rfl⟩
  have f7 : inS r (895, 8191) = false := inS_no h7
  replace h7 := Lib.hid h7
  by_cases h8 : r = 8204
  · have HZ : Hid (fstC r = true) := Lib.hid (by unfold fstC; rw [decide_eq_true_eq]; omega)
    have f8 : (r == 8204) = true := by simpa using h8
    clear h8
    rw [HZ.out]
    go_enter Tryd.func14, Tryd.ntmps14
    go_wp2_with (first
      | (go_at_call 33; refine (HW.out _ _ _ _ (by assumption)).mono ?_; rintro _ w9 ⟨rfl, hw9⟩; subst w9))
    go_ret
    exact ⟨rfl, rfl⟩
  have f8 : (r == 8204) = false := by simpa using h8
  replace h8 := Lib.hid h8
  by_cases h9 : r = 8205
  · have HZ : Hid (fstC r = true) := Lib.hid (by unfold fstC; rw [decide_eq_true_eq]; omega)
    have f9 : (r == 8205) = true := by simpa using h9
    clear h9
    rw [HZ.out]
    go_enter Tryd.func14, Tryd.ntmps14
    go_wp2_with (first
      | (go_at_call 33; refine (HW.out _ _ _ _ (by assumption)).mono ?_; rintro _ w9 ⟨rfl, hw9⟩; subst w9))
    go_ret
    exact ⟨rfl, rfl⟩
  have f9 : (r == 8205) = false := by simpa using h9
  replace h9 := Lib.hid h9
  by_cases h10 : (8304 : Int) ≤ r ∧ r ≤ 8591
  · have HZ : Hid (fstC r = true) := Lib.hid (by unfold fstC; rw [decide_eq_true_eq]; omega)
    have f10 : inS r (8304, 8591) = true := inS_yes h10.1 h10.2
    clear h10
    rw [HZ.out]
    go_enter Tryd.func14, Tryd.ntmps14
    go_wp2_with (first
      | (go_at_call 33; refine (HW.out _ _ _ _ (by assumption)).mono ?_; rintro _ w9 ⟨rfl, hw9⟩; subst w9))
    go_ret
    exact ⟨rfl, rfl⟩
  have f10 : inS r (8304, 8591) = false := inS_no h10
  replace h10 := Lib.hid h10
  by_cases h11 : (11264 : Int) ≤ r ∧ r ≤ 12271
  · have HZ : Hid (fstC r = true) := Lib.hid (by unfold fstC; rw [decide_eq_true_eq]; omega)
    have f11 : inS r (11264, 12271) = true := inS_yes h11.1 h11.2
    clear h11
    rw [HZ.out]
    go_enter Tryd.func14, Tryd.ntmps14
    go_wp2_with (first
      | (go_at_call 33; refine (HW.out _ _ _ _ (by assumption)).mono ?_; rintro _ w9 ⟨rfl, hw9⟩; subst w9))
    go_ret
    exact ⟨rfl, rfl⟩
  have f11 : inS r (11264, 12271) = false := inS_no h11
  replace h11 := Lib.hid h11
  by_cases h12 : (12289 : Int) ≤ r ∧ r ≤ 55295
  · have HZ : Hid (fstC r = true) := Lib.hid (by unfold fstC; rw [decide_eq_true_eq]; omega)
    have f12 : inS r (12289, 55295) = true := inS_yes h12.1 h12.2
    clear h12
    rw [HZ.out]
    go_enter Tryd.func14, Tryd.ntmps14
    go_wp2_with (first
      | (go_at_call 33; refine (HW.out _ _ _ _ (by assumption)).mono ?_; rintro _ w9 ⟨rfl, hw9⟩; subst w9))
    go_ret
    exact ⟨rfl, rfl⟩
  have f12 : inS r (12289, 55295) = false := inS_no h12
  replace h12 := Lib.hid h12
  by_cases h13 : (63744 : Int) ≤ r ∧ r ≤ 64975
  · have HZ : Hid (fstC r = true) := Lib.hid (by unfold fstC; rw [decide_eq_true_eq]; omega)
    have f13 : inS r (63744, 64975) = true := inS_yes h13.1 h13.2
    clear h13
    rw [HZ.out]
    go_enter Tryd.func14, Tryd.ntmps14
    go_wp2_with (first
      | (go_at_call 33; refine (HW.out _ _ _ _ (by assumption)).mono ?_; rintro _ w9 ⟨rfl, hw9⟩; subst w9))
    go_ret
    exact ⟨rfl, rfl⟩
  have f13 : inS r (63744, 64975) = false := inS_no h13
  replace h13 := Lib.hid h13
  by_cases h14 : (65008 : Int) ≤ r ∧ r ≤ 65533
  · have HZ : Hid (fstC r = true) := Lib.hid (by unfold fstC; rw [decide_eq_true_eq]; omega)
    have f14 : inS r (65008, 65533) = true := inS_yes h14.1 h14.2
    clear h14
    rw [HZ.out]
    go_enter Tryd.func14, Tryd.ntmps14
    go_wp2_with (first
      | (go_at_call 33; refine (HW.out _ _ _ _ (by assumption)).mono ?_; rintro _ w9 ⟨rfl, hw9⟩; subst w9))
    go_ret
    exact ⟨rfl, rfl⟩
  have f14 : inS r (65008, 65533) = false := inS_no h14
  replace h14 := Lib.hid h14
  by_cases h15 : (65536 : Int) ≤ r ∧ r ≤ 983039
  · have HZ : Hid (fstC r = true) := Lib.hid (by unfold fstC; rw [decide_eq_true_eq]; omega)
    have f15 : inS r (65536, 983039) = true := inS_yes h15.1 h15.2
    clear h15
    rw [HZ.out]
    go_enter Tryd.func14, Tryd.ntmps14
    go_wp2_with (first
      | (go_at_call 33; refine (HW.out _ _ _ _ (by assumption)).mono ?_; rintro _ w9 ⟨rfl, hw9⟩; subst w9))
    go_ret
    exact ⟨rfl, rfl⟩
  have f15 : inS r (65536, 983039) = false := inS_no h15
  replace h15 := Lib.hid h15
  have HZ : Hid (fstC r = false) := Lib.hid (by have k0 := h0.out; have k1 := h1.out; have k2 := h2.out; have k3 := h3.out; have k4 := h4.out; have k5 := h5.out; have k6 := h6.out; have k7 := h7.out; have k8 := h8.out; have k9 := h9.out; have k10 := h10.out; have k11 := h11.out; have k12 := h12.out; have k13 := h13.out; have k14 := h14.out; have k15 := h15.out; unfold fstC; rw [decide_eq_false_iff_not]; omega)
  clear h0 h1 h2 h3 h4 h5 h6 h7 h8 h9 h10 h11 h12 h13 h14 h15
  rw [HZ.out]
  go_enter Tryd.func14, Tryd.ntmps14
  go_wp2_with (first
    | (go_at_call 33; refine (HW.out _ _ _ _ (by assumption)).mono ?_; rintro _ w9 ⟨rfl, hw9⟩; subst w9))
  go_ret
  exact ⟨rfl, rfl⟩
set_option maxRecDepth 100000 in
set_option maxHeartbeats 4000000 in
theorem rfurther_any (r : Int) (w : World) : Calls Tryd.prog 16 #[.int .i64 r] w fun e w' => e = .returned (.bool (furC r)) ∧ w' = w := by
  have HW : Hid (∀ a b x w, inS r (a, b) = x → Calls Tryd.prog 33 #[.int .i64 r, .int .i64 a, .int .i64 b] w fun e w' => e = .returned (.bool x) ∧ w' = w) := Lib.hid fun a b x w h => rwithin_at r a b x h w
  have HF : Hid (∀ w, Calls Tryd.prog 14 #[.int .i64 r] w fun e w' => e = .returned (.bool (fstC r)) ∧ w' = w) := Lib.hid fun w => rfirst_any r w
  obtain ⟨x, hx⟩ : ∃ x, fstC r = x := ⟨_, rfl⟩
  rw [hx] at HF
  have HX := Lib.hid hx
  clear hx
  cases x with
  | true =>
    have HZ : Hid (furC r = true) := Lib.hid (fst_fur HX.out)
    rw [HZ.out]
    go_enter Tryd.func16, Tryd.ntmps16
    go_wp2_with (first
      | (go_at_call 14; refine (HF.out _).mono ?_; rintro _ w8 ⟨rfl, hw8⟩; subst w8)
      | (go_at_call 33; refine (HW.out _ _ _ _ (by assumption)).mono ?_; rintro _ w9 ⟨rfl, hw9⟩; subst w9))
    go_ret
    exact ⟨rfl, rfl⟩
  | false =>
    by_cases h0 : r = 45
    · have HZ : Hid (furC r = true) := Lib.hid (by unfold furC; rw [HX.out, Bool.false_or, decide_eq_true_eq]; omega)
      have f0 : (r == 45) = true := by simpa using h0
      clear h0
      rw [HZ.out]
      go_enter Tryd.func16, Tryd.ntmps16
      go_wp2_with (first
        | (go_at_call 14; refine (HF.out _).mono ?_; rintro _ w8 ⟨rfl, hw8⟩; subst w8)
        | (go_at_call 33; refine (HW.out _ _ _ _ (by assumption)).mono ?_; rintro _ w9 ⟨rfl, hw9⟩; subst w9))
      go_ret
      exact ⟨rfl, rfl⟩
    have f0 : (r == 45) = false := by simpa using h0
    replace h0 := Lib.hid h0
    by_cases h1 : r = 46
    · have HZ : Hid (furC r = true) := Lib.hid (by unfold furC; rw [HX.out, Bool.false_or, decide_eq_true_eq]; omega)
      have f1 : (r == 46) = true := by simpa using h1
      clear h1
      rw [HZ.out]
      go_enter Tryd.func16, Tryd.ntmps16
      go_wp2_with (first
        | (go_at_call 14; refine (HF.out _).mono ?_; rintro _ w8 ⟨rfl, hw8⟩; subst w8)
        | (go_at_call 33; refine (HW.out _ _ _ _ (by assumption)).mono ?_; rintro _ w9 ⟨rfl, hw9⟩; subst w9))
      go_ret
      exact ⟨rfl, rfl⟩
    have f1 : (r == 46) = false := by simpa using h1
    replace h1 := Lib.hid h1
    by_cases h2 : (48 : Int) ≤ r ∧ r ≤ 57
    · have HZ : Hid (furC r = true) := Lib.hid (by unfold furC; rw [HX.out, Bool.false_or, decide_eq_true_eq]; omega)
      have f2 : inS r (48, 57) = true := inS_yes h2.1 h2.2
      clear h2
      rw [HZ.out]
      go_enter Tryd.func16, Tryd.ntmps16
      go_wp2_with (first
        | (go_at_call 14; refine (HF.out _).mono ?_; rintro _ w8 ⟨rfl, hw8⟩; subst w8)
        | (go_at_call 33; refine (HW.out _ _ _ _ (by assumption)).mono ?_; rintro _ w9 ⟨rfl, hw9⟩; subst w9))
      go_ret
      exact ⟨rfl, rfl⟩
    have f2 : inS r (48, 57) = false := inS_no h2
    replace h2 := Lib.hid h2
    by_cases h3 : r = 183
    · have HZ : Hid (furC r = true) := Lib.hid (by unfold furC; rw [HX.out, Bool.false_or, decide_eq_true_eq]; omega)
      have f3 : (r == 183) = true := by simpa using h3
      clear h3
      rw [HZ.out]
      go_enter Tryd.func16, Tryd.ntmps16
      go_wp2_with (first
        | (go_at_call 14; refine (HF.out _).mono ?_; rintro _ w8 ⟨rfl, hw8⟩; subst w8)
        | (go_at_call 33; refine (HW.out _ _ _ _ (by assumption)).mono ?_; rintro _ w9 ⟨rfl, hw9⟩; subst w9))
      go_ret
      exact ⟨rfl, rfl⟩
    have f3 : (r == 183) = false := by simpa using h3
    replace h3 := Lib.hid h3
    by_cases h4 : (768 : Int) ≤ r ∧ r ≤ 879
    · have HZ : Hid (furC r = true) := Lib.hid (by unfold furC; rw [HX.out, Bool.false_or, decide_eq_true_eq]; omega)
      have f4 : inS r (768, 879) = true := inS_yes h4.1 h4.2
      clear h4
      rw [HZ.out]
      go_enter Tryd.func16, Tryd.ntmps16
      go_wp2_with (first
        | (go_at_call 14; refine (HF.out _).mono ?_; rintro _ w8 ⟨rfl, hw8⟩; subst w8)
        | (go_at_call 33; refine (HW.out _ _ _ _ (by assumption)).mono ?_; rintro _ w9 ⟨rfl, hw9⟩; subst w9))
      go_ret
      exact ⟨rfl, rfl⟩
    have f4 : inS r (768, 879) = false := inS_no h4
    replace h4 := Lib.hid h4
    by_cases h5 : r = 8255
    · have HZ : Hid (furC r = true) := Lib.hid (by unfold furC; rw [HX.out, Bool.false_or, decide_eq_true_eq]; omega)
      have f5 : (r == 8255) = true := by simpa using h5
      clear h5
      rw [HZ.out]
      go_enter Tryd.func16, Tryd.ntmps16
      go_wp2_with (first
        | (go_at_call 14; refine (HF.out _).mono ?_; rintro _ w8 ⟨rfl, hw8⟩; subst w8)
        | (go_at_call 33; refine (HW.out _ _ _ _ (by assumption)).mono ?_; rintro _ w9 ⟨rfl, hw9⟩; subst w9))
      go_ret
      exact ⟨rfl, rfl⟩
    have f5 : (r == 8255) = false := by simpa using h5
    replace h5 := Lib.hid h5
    by_cases h6 : r = 8256
    · have HZ : Hid (furC r = true) := Lib.hid (by unfold furC; rw [HX.out, Bool.false_or, decide_eq_true_eq]; omega)
      have f6 : (r == 8256) = true := by simpa using h6
      clear h6
      rw [HZ.out]
      go_enter Tryd.func16, Tryd.ntmps16
      go_wp2_with (first
        | (go_at_call 14; refine (HF.out _).mono ?_; rintro _ w8 ⟨rfl, hw8⟩; subst w8)
        | (go_at_call 33; refine (HW.out _ _ _ _ (by assumption)).mono ?_; rintro _ w9 ⟨rfl, hw9⟩; subst w9))
      go_ret
      exact ⟨rfl, rfl⟩
    have f6 : (r == 8256) = false := by simpa using h6
    replace h6 := Lib.hid h6
    have HZ : Hid (furC r = false) := Lib.hid (by have k0 := h0.out; have k1 := h1.out; have k2 := h2.out; have k3 := h3.out; have k4 := h4.out; have k5 := h5.out; have k6 := h6.out; unfold furC; rw [HX.out, Bool.false_or, decide_eq_false_iff_not]; omega)
    clear h0 h1 h2 h3 h4 h5 h6
    rw [HZ.out]
    go_enter Tryd.func16, Tryd.ntmps16
    go_wp2_with (first
      | (go_at_call 14; refine (HF.out _).mono ?_; rintro _ w8 ⟨rfl, hw8⟩; subst w8)
      | (go_at_call 33; refine (HW.out _ _ _ _ (by assumption)).mono ?_; rintro _ w9 ⟨rfl, hw9⟩; subst w9))
    go_ret
    exact ⟨rfl, rfl⟩
end Go.Proofs.YtehehmpepkgbeaaDoor.Chr
