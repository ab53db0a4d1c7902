/- The contracts of utf8.Is, Len, begins, read, Next and of the document's own Is, Len, Put, lead, part, Next. -/
import Derived.Test.YtehehmpepkgbeaaDoorBL
namespace Go.Proofs.YtehehmpepkgbeaaDoor
open Go.RowKit
set_option linter.unusedVariables false
set_option linter.unusedSimpArgs false
theorem ret_int {k : IntKind} {a b : Int} (h : a = b) : Ending.returned (.int k a) = .returned (.int k b) := by rw [h]
theorem ret_bool {a b : Bool} (h : a = b) : Ending.returned (.bool a) = .returned (.bool b) := by rw [h]
theorem is_any (r : Int) (w : World) (hg : Gl w) :
    Calls Tryd.prog 74 #[.int .i64 r] w fun e w' => e = .returned (.bool (isB r)) ∧ w = w' := by
  have g4 := hg.lim4
  clear hg
  by_cases h0 : 0 ≤ r
  · by_cases h1 : r < 1114112
    · have hb : Hid ((r / 2048 != 27) = isB r) := Lib.hid (by
        rw [Bool.eq_iff_iff, isB_iff]; simp only [bne_iff_ne, ne_eq]; omega)
      go_enter Tryd.func74, Tryd.ntmps74
      go_wp2
      go_ret
      exact ⟨ret_bool hb.out, rfl⟩
    · have hb : Hid (false = isB r) := Lib.hid (by symm; rw [isB_no]; omega)
      have hd : decide (r < 1114112) = false := by simpa using h1
      go_enter Tryd.func74, Tryd.ntmps74
      go_wp2
      go_ret
      exact ⟨ret_bool hb.out, rfl⟩
  · have hb : Hid (false = isB r) := Lib.hid (by symm; rw [isB_no]; omega)
    have hd : decide (0 ≤ r) = false := by simpa using h0
    go_enter Tryd.func74, Tryd.ntmps74
    go_wp2
    go_ret
    exact ⟨ret_bool hb.out, rfl⟩
theorem is_yes (r : Int) (w : World) (hg : Gl w) (h : isB r = true) :
    Calls Tryd.prog 74 #[.int .i64 r] w fun e w' => e = .returned (.bool true) ∧ w = w' := by
  have := is_any r w hg; rwa [h] at this
theorem is_no (r : Int) (w : World) (hg : Gl w) (h : isB r = false) :
    Calls Tryd.prog 74 #[.int .i64 r] w fun e w' => e = .returned (.bool false) ∧ w = w' := by
  have := is_any r w hg; rwa [h] at this
theorem len_no (r : Int) (w : World) (hg : Gl w) (h : isB r = false) :
    Calls Tryd.prog 73 #[.int .i64 r] w fun e w' => e = .returned (.int .i64 (lenF r)) ∧ w = w' := by
  rw [lenF0 h]
  have H := Lib.hid h; clear h
  go_enter Tryd.func73, Tryd.ntmps73
  go_wp2_with (go_at_call 74; refine (is_no _ _ (by assumption) H.out).mono ?_; rintro e w' ⟨rfl, rfl⟩)
  go_ret
  exact ⟨rfl, rfl⟩
theorem len_yes (r : Int) (w : World) (hg : Gl w) (h : isB r = true) :
    Calls Tryd.prog 73 #[.int .i64 r] w fun e w' => e = .returned (.int .i64 (lenF r)) ∧ w = w' := by
  have g1 := hg.lim1
  have g2 := hg.lim2
  have g3 := hg.lim3
  have g4 := hg.lim4
  have hc := isB_cases h
  have hl : ∃ n, n = lenF r := ⟨_, rfl⟩
  obtain ⟨n, hn⟩ := hl
  rw [← hn]
  rcases hc with ⟨a, b⟩ | ⟨a, b⟩ | ⟨a, b, c⟩ | ⟨a, b⟩
  · rw [lenF1 h b] at hn
    subst hn
    have H := Lib.hid h; clear h
    go_enter Tryd.func73, Tryd.ntmps73
    go_wp2_with (go_at_call 74; refine (is_yes _ _ (by assumption) H.out).mono ?_; rintro e w' ⟨rfl, rfl⟩)
    refine wp_loop_rounds 1 ?_; rw [rounds_succ]
    go_wp2_with fail
    go_ret
    exact ⟨rfl, rfl⟩
  · rw [lenF2 h a b] at hn
    subst hn
    have H := Lib.hid h; clear h
    go_enter Tryd.func73, Tryd.ntmps73
    go_wp2_with (go_at_call 74; refine (is_yes _ _ (by assumption) H.out).mono ?_; rintro e w' ⟨rfl, rfl⟩)
    refine wp_loop_rounds 2 ?_; rw [rounds_succ]
    go_wp2_with fail
    rw [rounds_succ]
    go_wp2_with fail
    go_ret
    exact ⟨rfl, rfl⟩
  · rw [lenF3 h a b] at hn
    subst hn
    have H := Lib.hid h; clear h
    go_enter Tryd.func73, Tryd.ntmps73
    go_wp2_with (go_at_call 74; refine (is_yes _ _ (by assumption) H.out).mono ?_; rintro e w' ⟨rfl, rfl⟩)
    refine wp_loop_rounds 3 ?_; rw [rounds_succ]
    go_wp2_with fail
    rw [rounds_succ]
    go_wp2_with fail
    rw [rounds_succ]
    go_wp2_with fail
    go_ret
    exact ⟨rfl, rfl⟩
  · rw [lenF4 h a] at hn
    subst hn
    have H := Lib.hid h; clear h
    go_enter Tryd.func73, Tryd.ntmps73
    go_wp2_with (go_at_call 74; refine (is_yes _ _ (by assumption) H.out).mono ?_; rintro e w' ⟨rfl, rfl⟩)
    refine wp_loop_rounds 4 ?_; rw [rounds_succ]
    go_wp2_with fail
    rw [rounds_succ]
    go_wp2_with fail
    rw [rounds_succ]
    go_wp2_with fail
    rw [rounds_succ]
    go_wp2_with fail
    go_ret
    exact ⟨rfl, rfl⟩
theorem len_any (r : Int) (w : World) (hg : Gl w) :
    Calls Tryd.prog 73 #[.int .i64 r] w fun e w' => e = .returned (.int .i64 (lenF r)) ∧ w = w' := by
  cases h : isB r
  · exact len_no r w hg h
  · exact len_yes r w hg h
theorem wraps_i64 (n : Int) (h₀ : 0 ≤ n) (h₁ : n < 2 ^ 40) : IntKind.i64.wrap n = n := by rw [IntKind.wrap_i64]; omega
theorem or6 (x y : Int) (hx₀ : 0 ≤ x) (hx : x % 64 = 0) (hx₁ : x < 1099511627776) (h₀ : 0 ≤ y) (h₁ : y < 64) : bits .or .i64 x y = x + y :=
  bits_join .i64 40 (by decide) wraps_i64 6 x y hx₀ hx (by omega) h₀ (by omega) (by omega)
theorem or12 (x y : Int) (hx₀ : 0 ≤ x) (hx : x % 4096 = 0) (hx₁ : x < 1099511627776) (h₀ : 0 ≤ y) (h₁ : y < 4096) : bits .or .i64 x y = x + y :=
  bits_join .i64 40 (by decide) wraps_i64 12 x y hx₀ hx (by omega) h₀ (by omega) (by omega)
theorem or18 (x y : Int) (hx₀ : 0 ≤ x) (hx : x % 262144 = 0) (hx₁ : x < 1099511627776) (h₀ : 0 ≤ y) (h₁ : y < 262144) : bits .or .i64 x y = x + y :=
  bits_join .i64 40 (by decide) wraps_i64 18 x y hx₀ hx (by omega) h₀ (by omega) (by omega)
theorem or0 (x : Int) (hx₀ : 0 ≤ x) (hx₁ : x < 1099511627776) : bits .or .i64 x 0 = x := by
  have := bits_join .i64 40 (by decide) wraps_i64 0 x 0 hx₀ (by simp [Int.emod_one]) (by omega) (by omega) (by omega) (by omega)
  simpa using this
theorem lenF_1 {x : Int} : lenF x = 1 ↔ 0 ≤ x ∧ x < 128 := by
  cases h : isB x
  · rw [lenF0 h]; have := isB_no.1 h; omega
  · rcases isB_cases h with ⟨a, b⟩ | ⟨a, b⟩ | ⟨a, b, c⟩ | ⟨a, b⟩
    · rw [lenF1 h b]; omega
    · rw [lenF2 h a b]; omega
    · rw [lenF3 h a b]; omega
    · rw [lenF4 h a]; omega
theorem lenF_2 {x : Int} : lenF x = 2 ↔ 128 ≤ x ∧ x < 2048 := by
  cases h : isB x
  · rw [lenF0 h]; have := isB_no.1 h; omega
  · rcases isB_cases h with ⟨a, b⟩ | ⟨a, b⟩ | ⟨a, b, c⟩ | ⟨a, b⟩
    · rw [lenF1 h b]; omega
    · rw [lenF2 h a b]; omega
    · rw [lenF3 h a b]; omega
    · rw [lenF4 h a]; omega
theorem lenF_3 {x : Int} : lenF x = 3 ↔ 2048 ≤ x ∧ x < 65536 ∧ (x < 55296 ∨ 57343 < x) := by
  cases h : isB x
  · rw [lenF0 h]; have := isB_no.1 h; omega
  · rcases isB_cases h with ⟨a, b⟩ | ⟨a, b⟩ | ⟨a, b, c⟩ | ⟨a, b⟩
    · rw [lenF1 h b]; omega
    · rw [lenF2 h a b]; omega
    · rw [lenF3 h a b]; omega
    · rw [lenF4 h a]; omega
theorem lenF_4 {x : Int} : lenF x = 4 ↔ 65536 ≤ x ∧ x ≤ 1114111 := by
  cases h : isB x
  · rw [lenF0 h]; have := isB_no.1 h; omega
  · rcases isB_cases h with ⟨a, b⟩ | ⟨a, b⟩ | ⟨a, b, c⟩ | ⟨a, b⟩
    · rw [lenF1 h b]; omega
    · rw [lenF2 h a b]; omega
    · rw [lenF3 h a b]; omega
    · rw [lenF4 h a]; omega
def begB (r n z : Int) : Bool := lenF (r * 64 ^ (z - n).toNat) == z || lenF (r * 64 ^ (z - n).toNat + (64 ^ (z - n).toNat - 1)) == z
theorem begins_11 (r : Int) (w : World) (hg : Gl w) (h0 : 0 ≤ r) (h1 : r < 2097152) :
    Calls Tryd.prog 70 #[.int .i64 r, .int .i64 1, .int .i64 1] w fun e w' => e = .returned (.bool (begB r 1 1)) ∧ w = w' := by
  have hb : begB r 1 1 = (lenF r == 1 || lenF r == 1) := by
    unfold begB
    rw [show ((1 : Int) - 1).toNat = 0 from rfl]
    simp
  rw [hb]
  clear hb
  have hor : bits .or .i64 r 0 = r := or0 r (by omega) (by omega)
  by_cases hl : lenF r = 1
  · go_enter Tryd.func70, Tryd.ntmps70
    go_wp2_with (go_at_call 73; refine (len_any _ _ (by assumption)).mono ?_; rintro e w' ⟨rfl, rfl⟩)
    go_ret
    exact ⟨ret_bool (by simp [hl]), rfl⟩
  · have hf : (lenF r == 1) = false := by simpa using hl
    go_enter Tryd.func70, Tryd.ntmps70
    go_wp2_with (go_at_call 73; refine (len_any _ _ (by assumption)).mono ?_; rintro e w' ⟨rfl, rfl⟩)
    go_ret
    exact ⟨ret_bool (by simp [hl]), rfl⟩
theorem begins_12 (r : Int) (w : World) (hg : Gl w) (h0 : 0 ≤ r) (h1 : r < 2097152) :
    Calls Tryd.prog 70 #[.int .i64 r, .int .i64 1, .int .i64 2] w fun e w' => e = .returned (.bool (begB r 1 2)) ∧ w = w' := by
  have hb : begB r 1 2 = (lenF (r * 64) == 2 || lenF (r * 64 + 63) == 2) := by
    unfold begB
    rw [show ((2 : Int) - 1).toNat = 1 from rfl]
    simp
  rw [hb]
  clear hb
  have hor : bits .or .i64 (r * 64) 63 = r * 64 + 63 := or6 (r * 64) 63 (by omega) (by omega) (by omega) (by omega) (by omega)
  by_cases hl : lenF (r * 64) = 2
  · go_enter Tryd.func70, Tryd.ntmps70
    go_wp2_with (go_at_call 73; refine (len_any _ _ (by assumption)).mono ?_; rintro e w' ⟨rfl, rfl⟩)
    go_ret
    exact ⟨ret_bool (by simp [hl]), rfl⟩
  · have hf : (lenF (r * 64) == 2) = false := by simpa using hl
    go_enter Tryd.func70, Tryd.ntmps70
    go_wp2_with (go_at_call 73; refine (len_any _ _ (by assumption)).mono ?_; rintro e w' ⟨rfl, rfl⟩)
    go_ret
    exact ⟨ret_bool (by simp [hl]), rfl⟩
theorem begins_22 (r : Int) (w : World) (hg : Gl w) (h0 : 0 ≤ r) (h1 : r < 2097152) :
    Calls Tryd.prog 70 #[.int .i64 r, .int .i64 2, .int .i64 2] w fun e w' => e = .returned (.bool (begB r 2 2)) ∧ w = w' := by
  have hb : begB r 2 2 = (lenF r == 2 || lenF r == 2) := by
    unfold begB
    rw [show ((2 : Int) - 2).toNat = 0 from rfl]
    simp
  rw [hb]
  clear hb
  have hor : bits .or .i64 r 0 = r := or0 r (by omega) (by omega)
  by_cases hl : lenF r = 2
  · go_enter Tryd.func70, Tryd.ntmps70
    go_wp2_with (go_at_call 73; refine (len_any _ _ (by assumption)).mono ?_; rintro e w' ⟨rfl, rfl⟩)
    go_ret
    exact ⟨ret_bool (by simp [hl]), rfl⟩
  · have hf : (lenF r == 2) = false := by simpa using hl
    go_enter Tryd.func70, Tryd.ntmps70
    go_wp2_with (go_at_call 73; refine (len_any _ _ (by assumption)).mono ?_; rintro e w' ⟨rfl, rfl⟩)
    go_ret
    exact ⟨ret_bool (by simp [hl]), rfl⟩
theorem begins_13 (r : Int) (w : World) (hg : Gl w) (h0 : 0 ≤ r) (h1 : r < 2097152) :
    Calls Tryd.prog 70 #[.int .i64 r, .int .i64 1, .int .i64 3] w fun e w' => e = .returned (.bool (begB r 1 3)) ∧ w = w' := by
  have hb : begB r 1 3 = (lenF (r * 4096) == 3 || lenF (r * 4096 + 4095) == 3) := by
    unfold begB
    rw [show ((3 : Int) - 1).toNat = 2 from rfl]
    simp
  rw [hb]
  clear hb
  have hor : bits .or .i64 (r * 4096) 4095 = r * 4096 + 4095 := or12 (r * 4096) 4095 (by omega) (by omega) (by omega) (by omega) (by omega)
  by_cases hl : lenF (r * 4096) = 3
  · go_enter Tryd.func70, Tryd.ntmps70
    go_wp2_with (go_at_call 73; refine (len_any _ _ (by assumption)).mono ?_; rintro e w' ⟨rfl, rfl⟩)
    go_ret
    exact ⟨ret_bool (by simp [hl]), rfl⟩
  · have hf : (lenF (r * 4096) == 3) = false := by simpa using hl
    go_enter Tryd.func70, Tryd.ntmps70
    go_wp2_with (go_at_call 73; refine (len_any _ _ (by assumption)).mono ?_; rintro e w' ⟨rfl, rfl⟩)
    go_ret
    exact ⟨ret_bool (by simp [hl]), rfl⟩
theorem begins_23 (r : Int) (w : World) (hg : Gl w) (h0 : 0 ≤ r) (h1 : r < 2097152) :
    Calls Tryd.prog 70 #[.int .i64 r, .int .i64 2, .int .i64 3] w fun e w' => e = .returned (.bool (begB r 2 3)) ∧ w = w' := by
  have hb : begB r 2 3 = (lenF (r * 64) == 3 || lenF (r * 64 + 63) == 3) := by
    unfold begB
    rw [show ((3 : Int) - 2).toNat = 1 from rfl]
    simp
  rw [hb]
  clear hb
  have hor : bits .or .i64 (r * 64) 63 = r * 64 + 63 := or6 (r * 64) 63 (by omega) (by omega) (by omega) (by omega) (by omega)
  by_cases hl : lenF (r * 64) = 3
  · go_enter Tryd.func70, Tryd.ntmps70
    go_wp2_with (go_at_call 73; refine (len_any _ _ (by assumption)).mono ?_; rintro e w' ⟨rfl, rfl⟩)
    go_ret
    exact ⟨ret_bool (by simp [hl]), rfl⟩
  · have hf : (lenF (r * 64) == 3) = false := by simpa using hl
    go_enter Tryd.func70, Tryd.ntmps70
    go_wp2_with (go_at_call 73; refine (len_any _ _ (by assumption)).mono ?_; rintro e w' ⟨rfl, rfl⟩)
    go_ret
    exact ⟨ret_bool (by simp [hl]), rfl⟩
theorem begins_33 (r : Int) (w : World) (hg : Gl w) (h0 : 0 ≤ r) (h1 : r < 2097152) :
    Calls Tryd.prog 70 #[.int .i64 r, .int .i64 3, .int .i64 3] w fun e w' => e = .returned (.bool (begB r 3 3)) ∧ w = w' := by
  have hb : begB r 3 3 = (lenF r == 3 || lenF r == 3) := by
    unfold begB
    rw [show ((3 : Int) - 3).toNat = 0 from rfl]
    simp
  rw [hb]
  clear hb
  have hor : bits .or .i64 r 0 = r := or0 r (by omega) (by omega)
  by_cases hl : lenF r = 3
  · go_enter Tryd.func70, Tryd.ntmps70
    go_wp2_with (go_at_call 73; refine (len_any _ _ (by assumption)).mono ?_; rintro e w' ⟨rfl, rfl⟩)
    go_ret
    exact ⟨ret_bool (by simp [hl]), rfl⟩
  · have hf : (lenF r == 3) = false := by simpa using hl
    go_enter Tryd.func70, Tryd.ntmps70
    go_wp2_with (go_at_call 73; refine (len_any _ _ (by assumption)).mono ?_; rintro e w' ⟨rfl, rfl⟩)
    go_ret
    exact ⟨ret_bool (by simp [hl]), rfl⟩
theorem begins_14 (r : Int) (w : World) (hg : Gl w) (h0 : 0 ≤ r) (h1 : r < 2097152) :
    Calls Tryd.prog 70 #[.int .i64 r, .int .i64 1, .int .i64 4] w fun e w' => e = .returned (.bool (begB r 1 4)) ∧ w = w' := by
  have hb : begB r 1 4 = (lenF (r * 262144) == 4 || lenF (r * 262144 + 262143) == 4) := by
    unfold begB
    rw [show ((4 : Int) - 1).toNat = 3 from rfl]
    simp
  rw [hb]
  clear hb
  have hor : bits .or .i64 (r * 262144) 262143 = r * 262144 + 262143 := or18 (r * 262144) 262143 (by omega) (by omega) (by omega) (by omega) (by omega)
  by_cases hl : lenF (r * 262144) = 4
  · go_enter Tryd.func70, Tryd.ntmps70
    go_wp2_with (go_at_call 73; refine (len_any _ _ (by assumption)).mono ?_; rintro e w' ⟨rfl, rfl⟩)
    go_ret
    exact ⟨ret_bool (by simp [hl]), rfl⟩
  · have hf : (lenF (r * 262144) == 4) = false := by simpa using hl
    go_enter Tryd.func70, Tryd.ntmps70
    go_wp2_with (go_at_call 73; refine (len_any _ _ (by assumption)).mono ?_; rintro e w' ⟨rfl, rfl⟩)
    go_ret
    exact ⟨ret_bool (by simp [hl]), rfl⟩
theorem begins_24 (r : Int) (w : World) (hg : Gl w) (h0 : 0 ≤ r) (h1 : r < 2097152) :
    Calls Tryd.prog 70 #[.int .i64 r, .int .i64 2, .int .i64 4] w fun e w' => e = .returned (.bool (begB r 2 4)) ∧ w = w' := by
  have hb : begB r 2 4 = (lenF (r * 4096) == 4 || lenF (r * 4096 + 4095) == 4) := by
    unfold begB
    rw [show ((4 : Int) - 2).toNat = 2 from rfl]
    simp
  rw [hb]
  clear hb
  have hor : bits .or .i64 (r * 4096) 4095 = r * 4096 + 4095 := or12 (r * 4096) 4095 (by omega) (by omega) (by omega) (by omega) (by omega)
  by_cases hl : lenF (r * 4096) = 4
  · go_enter Tryd.func70, Tryd.ntmps70
    go_wp2_with (go_at_call 73; refine (len_any _ _ (by assumption)).mono ?_; rintro e w' ⟨rfl, rfl⟩)
    go_ret
    exact ⟨ret_bool (by simp [hl]), rfl⟩
  · have hf : (lenF (r * 4096) == 4) = false := by simpa using hl
    go_enter Tryd.func70, Tryd.ntmps70
    go_wp2_with (go_at_call 73; refine (len_any _ _ (by assumption)).mono ?_; rintro e w' ⟨rfl, rfl⟩)
    go_ret
    exact ⟨ret_bool (by simp [hl]), rfl⟩
theorem begins_34 (r : Int) (w : World) (hg : Gl w) (h0 : 0 ≤ r) (h1 : r < 2097152) :
    Calls Tryd.prog 70 #[.int .i64 r, .int .i64 3, .int .i64 4] w fun e w' => e = .returned (.bool (begB r 3 4)) ∧ w = w' := by
  have hb : begB r 3 4 = (lenF (r * 64) == 4 || lenF (r * 64 + 63) == 4) := by
    unfold begB
    rw [show ((4 : Int) - 3).toNat = 1 from rfl]
    simp
  rw [hb]
  clear hb
  have hor : bits .or .i64 (r * 64) 63 = r * 64 + 63 := or6 (r * 64) 63 (by omega) (by omega) (by omega) (by omega) (by omega)
  by_cases hl : lenF (r * 64) = 4
  · go_enter Tryd.func70, Tryd.ntmps70
    go_wp2_with (go_at_call 73; refine (len_any _ _ (by assumption)).mono ?_; rintro e w' ⟨rfl, rfl⟩)
    go_ret
    exact ⟨ret_bool (by simp [hl]), rfl⟩
  · have hf : (lenF (r * 64) == 4) = false := by simpa using hl
    go_enter Tryd.func70, Tryd.ntmps70
    go_wp2_with (go_at_call 73; refine (len_any _ _ (by assumption)).mono ?_; rintro e w' ⟨rfl, rfl⟩)
    go_ret
    exact ⟨ret_bool (by simp [hl]), rfl⟩
theorem begins_44 (r : Int) (w : World) (hg : Gl w) (h0 : 0 ≤ r) (h1 : r < 2097152) :
    Calls Tryd.prog 70 #[.int .i64 r, .int .i64 4, .int .i64 4] w fun e w' => e = .returned (.bool (begB r 4 4)) ∧ w = w' := by
  have hb : begB r 4 4 = (lenF r == 4 || lenF r == 4) := by
    unfold begB
    rw [show ((4 : Int) - 4).toNat = 0 from rfl]
    simp
  rw [hb]
  clear hb
  have hor : bits .or .i64 r 0 = r := or0 r (by omega) (by omega)
  by_cases hl : lenF r = 4
  · go_enter Tryd.func70, Tryd.ntmps70
    go_wp2_with (go_at_call 73; refine (len_any _ _ (by assumption)).mono ?_; rintro e w' ⟨rfl, rfl⟩)
    go_ret
    exact ⟨ret_bool (by simp [hl]), rfl⟩
  · have hf : (lenF r == 4) = false := by simpa using hl
    go_enter Tryd.func70, Tryd.ntmps70
    go_wp2_with (go_at_call 73; refine (len_any _ _ (by assumption)).mono ?_; rintro e w' ⟨rfl, rfl⟩)
    go_ret
    exact ⟨ret_bool (by simp [hl]), rfl⟩
theorem begins_any (r n z : Int) (w : World) (hg : Gl w) (h0 : 0 ≤ r) (h1 : r < 2097152) (hn : 1 ≤ n) (hnz : n ≤ z) (hz : z ≤ 4) :
    Calls Tryd.prog 70 #[.int .i64 r, .int .i64 n, .int .i64 z] w fun e w' => e = .returned (.bool (begB r n z)) ∧ w = w' := by
  have hc : (n = 1 ∧ z = 1) ∨ (n = 1 ∧ z = 2) ∨ (n = 2 ∧ z = 2) ∨ (n = 1 ∧ z = 3) ∨ (n = 2 ∧ z = 3) ∨ (n = 3 ∧ z = 3) ∨ (n = 1 ∧ z = 4) ∨ (n = 2 ∧ z = 4) ∨ (n = 3 ∧ z = 4) ∨ (n = 4 ∧ z = 4) := by omega
  rcases hc with ⟨rfl, rfl⟩ | ⟨rfl, rfl⟩ | ⟨rfl, rfl⟩ | ⟨rfl, rfl⟩ | ⟨rfl, rfl⟩ | ⟨rfl, rfl⟩ | ⟨rfl, rfl⟩ | ⟨rfl, rfl⟩ | ⟨rfl, rfl⟩ | ⟨rfl, rfl⟩
  · exact begins_11 r w hg h0 h1
  · exact begins_12 r w hg h0 h1
  · exact begins_22 r w hg h0 h1
  · exact begins_13 r w hg h0 h1
  · exact begins_23 r w hg h0 h1
  · exact begins_33 r w hg h0 h1
  · exact begins_14 r w hg h0 h1
  · exact begins_24 r w hg h0 h1
  · exact begins_34 r w hg h0 h1
  · exact begins_44 r w hg h0 h1
theorem begins_yes (r n z : Int) (w : World) (hg : Gl w) (h0 : 0 ≤ r) (h1 : r < 2097152) (hn : 1 ≤ n) (hnz : n ≤ z) (hz : z ≤ 4) (h : begB r n z = true) :
    Calls Tryd.prog 70 #[.int .i64 r, .int .i64 n, .int .i64 z] w fun e w' => e = .returned (.bool true) ∧ w = w' := by
  have := begins_any r n z w hg h0 h1 hn hnz hz; rwa [h] at this
theorem begins_no (r n z : Int) (w : World) (hg : Gl w) (h0 : 0 ≤ r) (h1 : r < 2097152) (hn : 1 ≤ n) (hnz : n ≤ z) (hz : z ≤ 4) (h : begB r n z = false) :
    Calls Tryd.prog 70 #[.int .i64 r, .int .i64 n, .int .i64 z] w fun e w' => e = .returned (.bool false) ∧ w = w' := by
  have := begins_any r n z w hg h0 h1 hn hnz hz; rwa [h] at this
end Go.Proofs.YtehehmpepkgbeaaDoor
