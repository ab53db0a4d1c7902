/- The contracts of the kinds of bytes. -/
import Derived.Test.YtgadpoahjlnheaaA
import Derived.Test.YtgadpoahjlnheaaLE
namespace Go.Proofs.Ytgadpoahjlnheaa.Med
open Go.RowKit
set_option linter.unusedVariables false
set_option linter.unusedSimpArgs false
open Lab (RetS str str_size str_list str_eta str_inj u8v st_ixb)
/-- A byte, or the end, as the reader is given it. -/
def ck : Option UInt8 → Int
  | none => -1
  | some c => (c.toNat : Int)
def kI (x n : Int) : Int := if x = 32 ∨ x = 9 then 1 else if x ≤ 32 ∨ x = 127 then 0 else if 65 ≤ x ∧ x ≤ 90 then 3
    else if (97 ≤ x ∧ x ≤ 122) ∨ (48 ≤ x ∧ x ≤ 57) ∨ 0 ≤ n then 2 else if x = 34 ∨ x = 92 then 4 else if x < 128 then 5 else 6
def signs : List UInt8 := [33, 35, 36, 37, 38, 39, 42, 43, 45, 46, 94, 95, 96, 124, 126]
theorem knd_kI (c : UInt8) : (knd (some c) : Int) = kI (c.toNat : Int) (Lib.indexByte signs c) := by
  have : ∀ c : Fin 256, (knd (some (UInt8.ofNat c)) : Int) = kI (c.val : Int) (Lib.indexByte signs (UInt8.ofNat c)) := by decide +kernel
  have k := this ⟨c.toNat, c.toNat_lt⟩
  simpa using k
theorem wrap_u8 (x : Int) (h0 : 0 ≤ x) (h1 : x < 256) : IntKind.u8.wrap x = x := by
  have : ∀ k : Fin 256, IntKind.u8.wrap (k.val : Int) = (k.val : Int) := by decide +kernel
  have k := this ⟨x.toNat, by omega⟩
  simpa [Int.toNat_of_nonneg h0] using k
set_option maxHeartbeats 4000000 in
theorem kindOf_int (x n : Int) (h0 : 0 ≤ x) (h1 : x < 256) (HC : Hid (∀ w, Calls Try.prog 57 #[.string ⟨#[33, 35, 36, 37, 38, 39, 42, 43, 45, 46, 94, 95, 96, 124, 126]⟩, .int .u8 x] w fun e w' => e = .returned (.int .i64 n) ∧ w' = w)) (w : World) :
    Calls Try.prog 55 #[.int .i64 x] w fun e w' => e = .returned (.int .i64 (kI x n)) ∧ w' = w := by
  have hwr := wrap_u8 x h0 h1
  by_cases h_e32 : x = 32
  · have d_e32 : (x == 32) = true := by simpa using h_e32
    have HK : Hid (kI x n = 1) := Lib.hid (by simp only [kI]; (repeat' split) <;> omega)
    clear h_e32
    go_enter Try.func55, Try.ntmps55
    go_wp2_with (go_at_call 57; refine (HC.out _).mono ?_; rintro e w' ⟨rfl, rfl⟩)
    go_ret
    exact ⟨ret_int HK.out.symm, rfl⟩
  · have d_e32 : (x == 32) = false := by simpa using h_e32
    by_cases h_e9 : x = 9
    · have d_e9 : (x == 9) = true := by simpa using h_e9
      have HK : Hid (kI x n = 1) := Lib.hid (by simp only [kI]; (repeat' split) <;> omega)
      clear h_e32 h_e9
      go_enter Try.func55, Try.ntmps55
      go_wp2_with (go_at_call 57; refine (HC.out _).mono ?_; rintro e w' ⟨rfl, rfl⟩)
      go_ret
      exact ⟨ret_int HK.out.symm, rfl⟩
    · have d_e9 : (x == 9) = false := by simpa using h_e9
      by_cases h_l32 : x ≤ 32
      · have d_l32 : decide (x ≤ 32) = true := by simpa using h_l32
        have HK : Hid (kI x n = 0) := Lib.hid (by simp only [kI]; (repeat' split) <;> omega)
        clear h_e32 h_e9 h_l32
        go_enter Try.func55, Try.ntmps55
        go_wp2_with (go_at_call 57; refine (HC.out _).mono ?_; rintro e w' ⟨rfl, rfl⟩)
        go_ret
        exact ⟨ret_int HK.out.symm, rfl⟩
      · have d_l32 : decide (x ≤ 32) = false := by simpa using h_l32
        by_cases h_e127 : x = 127
        · have d_e127 : (x == 127) = true := by simpa using h_e127
          have HK : Hid (kI x n = 0) := Lib.hid (by simp only [kI]; (repeat' split) <;> omega)
          clear h_e32 h_e9 h_l32 h_e127
          go_enter Try.func55, Try.ntmps55
          go_wp2_with (go_at_call 57; refine (HC.out _).mono ?_; rintro e w' ⟨rfl, rfl⟩)
          go_ret
          exact ⟨ret_int HK.out.symm, rfl⟩
        · have d_e127 : (x == 127) = false := by simpa using h_e127
          by_cases h_g65 : 65 ≤ x
          · have d_g65 : decide (65 ≤ x) = true := by simpa using h_g65
            by_cases h_l90 : x ≤ 90
            · have d_l90 : decide (x ≤ 90) = true := by simpa using h_l90
              have HK : Hid (kI x n = 3) := Lib.hid (by simp only [kI]; (repeat' split) <;> omega)
              clear h_e32 h_e9 h_l32 h_e127 h_g65 h_l90
              go_enter Try.func55, Try.ntmps55
              go_wp2_with (go_at_call 57; refine (HC.out _).mono ?_; rintro e w' ⟨rfl, rfl⟩)
              go_ret
              exact ⟨ret_int HK.out.symm, rfl⟩
            · have d_l90 : decide (x ≤ 90) = false := by simpa using h_l90
              by_cases h_g97 : 97 ≤ x
              · have d_g97 : decide (97 ≤ x) = true := by simpa using h_g97
                by_cases h_l122 : x ≤ 122
                · have d_l122 : decide (x ≤ 122) = true := by simpa using h_l122
                  have HK : Hid (kI x n = 2) := Lib.hid (by simp only [kI]; (repeat' split) <;> omega)
                  clear h_e32 h_e9 h_l32 h_e127 h_g65 h_l90 h_g97 h_l122
                  go_enter Try.func55, Try.ntmps55
                  go_wp2_with (go_at_call 57; refine (HC.out _).mono ?_; rintro e w' ⟨rfl, rfl⟩)
                  go_ret
                  exact ⟨ret_int HK.out.symm, rfl⟩
                · have d_l122 : decide (x ≤ 122) = false := by simpa using h_l122
                  by_cases h_g48 : 48 ≤ x
                  · have d_g48 : decide (48 ≤ x) = true := by simpa using h_g48
                    by_cases h_l57 : x ≤ 57
                    · have d_l57 : decide (x ≤ 57) = true := by simpa using h_l57
                      exfalso; omega
                    · have d_l57 : decide (x ≤ 57) = false := by simpa using h_l57
                      by_cases h_ix : 0 ≤ n
                      · have d_ix : decide (0 ≤ n) = true := by simpa using h_ix
                        have HK : Hid (kI x n = 2) := Lib.hid (by simp only [kI]; (repeat' split) <;> omega)
                        clear h_e32 h_e9 h_l32 h_e127 h_g65 h_l90 h_g97 h_l122 h_g48 h_l57 h_ix
                        go_enter Try.func55, Try.ntmps55
                        go_wp2_with (go_at_call 57; refine (HC.out _).mono ?_; rintro e w' ⟨rfl, rfl⟩)
                        go_ret
                        exact ⟨ret_int HK.out.symm, rfl⟩
                      · have d_ix : decide (0 ≤ n) = false := by simpa using h_ix
                        by_cases h_e34 : x = 34
                        · have d_e34 : (x == 34) = true := by simpa using h_e34
                          exfalso; omega
                        · have d_e34 : (x == 34) = false := by simpa using h_e34
                          by_cases h_e92 : x = 92
                          · have d_e92 : (x == 92) = true := by simpa using h_e92
                            exfalso; omega
                          · have d_e92 : (x == 92) = false := by simpa using h_e92
                            by_cases h_l128 : x < 128
                            · have d_l128 : decide (x < 128) = true := by simpa using h_l128
                              have HK : Hid (kI x n = 5) := Lib.hid (by simp only [kI]; (repeat' split) <;> omega)
                              clear h_e32 h_e9 h_l32 h_e127 h_g65 h_l90 h_g97 h_l122 h_g48 h_l57 h_ix h_e34 h_e92 h_l128
                              go_enter Try.func55, Try.ntmps55
                              go_wp2_with (go_at_call 57; refine (HC.out _).mono ?_; rintro e w' ⟨rfl, rfl⟩)
                              go_ret
                              exact ⟨ret_int HK.out.symm, rfl⟩
                            · have d_l128 : decide (x < 128) = false := by simpa using h_l128
                              have HK : Hid (kI x n = 6) := Lib.hid (by simp only [kI]; (repeat' split) <;> omega)
                              clear h_e32 h_e9 h_l32 h_e127 h_g65 h_l90 h_g97 h_l122 h_g48 h_l57 h_ix h_e34 h_e92 h_l128
                              go_enter Try.func55, Try.ntmps55
                              go_wp2_with (go_at_call 57; refine (HC.out _).mono ?_; rintro e w' ⟨rfl, rfl⟩)
                              go_ret
                              exact ⟨ret_int HK.out.symm, rfl⟩
                  · have d_g48 : decide (48 ≤ x) = false := by simpa using h_g48
                    exfalso; omega
              · have d_g97 : decide (97 ≤ x) = false := by simpa using h_g97
                by_cases h_g48 : 48 ≤ x
                · have d_g48 : decide (48 ≤ x) = true := by simpa using h_g48
                  by_cases h_l57 : x ≤ 57
                  · have d_l57 : decide (x ≤ 57) = true := by simpa using h_l57
                    exfalso; omega
                  · have d_l57 : decide (x ≤ 57) = false := by simpa using h_l57
                    by_cases h_ix : 0 ≤ n
                    · have d_ix : decide (0 ≤ n) = true := by simpa using h_ix
                      have HK : Hid (kI x n = 2) := Lib.hid (by simp only [kI]; (repeat' split) <;> omega)
                      clear h_e32 h_e9 h_l32 h_e127 h_g65 h_l90 h_g97 h_g48 h_l57 h_ix
                      go_enter Try.func55, Try.ntmps55
                      go_wp2_with (go_at_call 57; refine (HC.out _).mono ?_; rintro e w' ⟨rfl, rfl⟩)
                      go_ret
                      exact ⟨ret_int HK.out.symm, rfl⟩
                    · have d_ix : decide (0 ≤ n) = false := by simpa using h_ix
                      by_cases h_e34 : x = 34
                      · have d_e34 : (x == 34) = true := by simpa using h_e34
                        exfalso; omega
                      · have d_e34 : (x == 34) = false := by simpa using h_e34
                        by_cases h_e92 : x = 92
                        · have d_e92 : (x == 92) = true := by simpa using h_e92
                          have HK : Hid (kI x n = 4) := Lib.hid (by simp only [kI]; (repeat' split) <;> omega)
                          clear h_e32 h_e9 h_l32 h_e127 h_g65 h_l90 h_g97 h_g48 h_l57 h_ix h_e34 h_e92
                          go_enter Try.func55, Try.ntmps55
                          go_wp2_with (go_at_call 57; refine (HC.out _).mono ?_; rintro e w' ⟨rfl, rfl⟩)
                          go_ret
                          exact ⟨ret_int HK.out.symm, rfl⟩
                        · have d_e92 : (x == 92) = false := by simpa using h_e92
                          by_cases h_l128 : x < 128
                          · have d_l128 : decide (x < 128) = true := by simpa using h_l128
                            have HK : Hid (kI x n = 5) := Lib.hid (by simp only [kI]; (repeat' split) <;> omega)
                            clear h_e32 h_e9 h_l32 h_e127 h_g65 h_l90 h_g97 h_g48 h_l57 h_ix h_e34 h_e92 h_l128
                            go_enter Try.func55, Try.ntmps55
                            go_wp2_with (go_at_call 57; refine (HC.out _).mono ?_; rintro e w' ⟨rfl, rfl⟩)
                            go_ret
                            exact ⟨ret_int HK.out.symm, rfl⟩
                          · have d_l128 : decide (x < 128) = false := by simpa using h_l128
                            exfalso; omega
                · have d_g48 : decide (48 ≤ x) = false := by simpa using h_g48
                  exfalso; omega
          · have d_g65 : decide (65 ≤ x) = false := by simpa using h_g65
            by_cases h_g97 : 97 ≤ x
            · have d_g97 : decide (97 ≤ x) = true := by simpa using h_g97
              exfalso; omega
            · have d_g97 : decide (97 ≤ x) = false := by simpa using h_g97
              by_cases h_g48 : 48 ≤ x
              · have d_g48 : decide (48 ≤ x) = true := by simpa using h_g48
                by_cases h_l57 : x ≤ 57
                · have d_l57 : decide (x ≤ 57) = true := by simpa using h_l57
                  have HK : Hid (kI x n = 2) := Lib.hid (by simp only [kI]; (repeat' split) <;> omega)
                  clear h_e32 h_e9 h_l32 h_e127 h_g65 h_g97 h_g48 h_l57
                  go_enter Try.func55, Try.ntmps55
                  go_wp2_with (go_at_call 57; refine (HC.out _).mono ?_; rintro e w' ⟨rfl, rfl⟩)
                  go_ret
                  exact ⟨ret_int HK.out.symm, rfl⟩
                · have d_l57 : decide (x ≤ 57) = false := by simpa using h_l57
                  by_cases h_ix : 0 ≤ n
                  · have d_ix : decide (0 ≤ n) = true := by simpa using h_ix
                    have HK : Hid (kI x n = 2) := Lib.hid (by simp only [kI]; (repeat' split) <;> omega)
                    clear h_e32 h_e9 h_l32 h_e127 h_g65 h_g97 h_g48 h_l57 h_ix
                    go_enter Try.func55, Try.ntmps55
                    go_wp2_with (go_at_call 57; refine (HC.out _).mono ?_; rintro e w' ⟨rfl, rfl⟩)
                    go_ret
                    exact ⟨ret_int HK.out.symm, rfl⟩
                  · have d_ix : decide (0 ≤ n) = false := by simpa using h_ix
                    by_cases h_e34 : x = 34
                    · have d_e34 : (x == 34) = true := by simpa using h_e34
                      exfalso; omega
                    · have d_e34 : (x == 34) = false := by simpa using h_e34
                      by_cases h_e92 : x = 92
                      · have d_e92 : (x == 92) = true := by simpa using h_e92
                        exfalso; omega
                      · have d_e92 : (x == 92) = false := by simpa using h_e92
                        by_cases h_l128 : x < 128
                        · have d_l128 : decide (x < 128) = true := by simpa using h_l128
                          have HK : Hid (kI x n = 5) := Lib.hid (by simp only [kI]; (repeat' split) <;> omega)
                          clear h_e32 h_e9 h_l32 h_e127 h_g65 h_g97 h_g48 h_l57 h_ix h_e34 h_e92 h_l128
                          go_enter Try.func55, Try.ntmps55
                          go_wp2_with (go_at_call 57; refine (HC.out _).mono ?_; rintro e w' ⟨rfl, rfl⟩)
                          go_ret
                          exact ⟨ret_int HK.out.symm, rfl⟩
                        · have d_l128 : decide (x < 128) = false := by simpa using h_l128
                          exfalso; omega
              · have d_g48 : decide (48 ≤ x) = false := by simpa using h_g48
                by_cases h_ix : 0 ≤ n
                · have d_ix : decide (0 ≤ n) = true := by simpa using h_ix
                  have HK : Hid (kI x n = 2) := Lib.hid (by simp only [kI]; (repeat' split) <;> omega)
                  clear h_e32 h_e9 h_l32 h_e127 h_g65 h_g97 h_g48 h_ix
                  go_enter Try.func55, Try.ntmps55
                  go_wp2_with (go_at_call 57; refine (HC.out _).mono ?_; rintro e w' ⟨rfl, rfl⟩)
                  go_ret
                  exact ⟨ret_int HK.out.symm, rfl⟩
                · have d_ix : decide (0 ≤ n) = false := by simpa using h_ix
                  by_cases h_e34 : x = 34
                  · have d_e34 : (x == 34) = true := by simpa using h_e34
                    have HK : Hid (kI x n = 4) := Lib.hid (by simp only [kI]; (repeat' split) <;> omega)
                    clear h_e32 h_e9 h_l32 h_e127 h_g65 h_g97 h_g48 h_ix h_e34
                    go_enter Try.func55, Try.ntmps55
                    go_wp2_with (go_at_call 57; refine (HC.out _).mono ?_; rintro e w' ⟨rfl, rfl⟩)
                    go_ret
                    exact ⟨ret_int HK.out.symm, rfl⟩
                  · have d_e34 : (x == 34) = false := by simpa using h_e34
                    by_cases h_e92 : x = 92
                    · have d_e92 : (x == 92) = true := by simpa using h_e92
                      exfalso; omega
                    · have d_e92 : (x == 92) = false := by simpa using h_e92
                      by_cases h_l128 : x < 128
                      · have d_l128 : decide (x < 128) = true := by simpa using h_l128
                        have HK : Hid (kI x n = 5) := Lib.hid (by simp only [kI]; (repeat' split) <;> omega)
                        clear h_e32 h_e9 h_l32 h_e127 h_g65 h_g97 h_g48 h_ix h_e34 h_e92 h_l128
                        go_enter Try.func55, Try.ntmps55
                        go_wp2_with (go_at_call 57; refine (HC.out _).mono ?_; rintro e w' ⟨rfl, rfl⟩)
                        go_ret
                        exact ⟨ret_int HK.out.symm, rfl⟩
                      · have d_l128 : decide (x < 128) = false := by simpa using h_l128
                        exfalso; omega
theorem kindOf_any (c : Option UInt8) (w : World) : Calls Try.prog 55 #[.int .i64 (ck c)] w fun e w' => e = .returned (.int .i64 (knd c : Int)) ∧ w' = w := by
  cases c with
  | none =>
    go_enter Try.func55, Try.ntmps55
    go_wp2_with fail
    go_ret
    exact ⟨rfl, rfl⟩
  | some c =>
    rw [knd_kI]
    have hc := c.toNat_lt
    refine kindOf_int (c.toNat : Int) _ (by omega) (by omega) (Lib.hid fun w => ?_) w
    refine (st_ixb ⟨#[33, 35, 36, 37, 38, 39, 42, 43, 45, 46, 94, 95, 96, 124, 126]⟩ (c.toNat : Int) w).mono ?_
    rintro e w' ⟨rfl, rfl⟩
    refine ⟨?_, rfl⟩
    simp [signs]
def sets : List Nat := [2, 4, 12, 16, 32, 62, 110, 126]
theorem bit_and (s k : Nat) (hs : s ∈ sets) (hk : k < 7) : (bits .and .i64 ((s : Int) / 2 ^ k) 1 == 1) = s.testBit k := by
  have : ∀ s ∈ sets, ∀ k : Fin 7, (bits .and .i64 ((s : Int) / 2 ^ k.val) 1 == 1) = s.testBit k.val := by decide +kernel
  exact this s hs ⟨k, hk⟩
theorem isIn_2 (c : Option UInt8) (w : World) : Calls Try.prog 50 #[.int .i64 (ck c), .int .i64 2] w fun e w' => e = .returned (.bool (inS 2 c)) ∧ w' = w := by
  obtain ⟨k, hkc⟩ : ∃ k, knd c = k := ⟨_, rfl⟩
  have hk : k < 7 := by rw [← hkc]; exact knd_lt c
  have HC : Hid (∀ w, Calls Try.prog 55 #[.int .i64 (ck c)] w fun e w' => e = .returned (.int .i64 (k : Int)) ∧ w' = w) := Lib.hid fun w => by
    have := kindOf_any c w
    rwa [hkc] at this
  have HI : Hid ((bits .and .i64 (2 / 2 ^ k) 1 == 1) = inS 2 c) := Lib.hid (by unfold inS; rw [hkc]; exact bit_and 2 k (by decide) hk)
  clear hkc
  obtain ⟨x, hx⟩ : ∃ x : Int, ck c = x := ⟨_, rfl⟩
  rw [hx] at HC ⊢
  go_enter Try.func50, Try.ntmps50
  go_wp2_with (go_at_call 55; refine (HC.out _).mono ?_; rintro e w' ⟨rfl, rfl⟩)
  go_ret
  exact ⟨ret_bool HI.out, rfl⟩
theorem isIn_4 (c : Option UInt8) (w : World) : Calls Try.prog 50 #[.int .i64 (ck c), .int .i64 4] w fun e w' => e = .returned (.bool (inS 4 c)) ∧ w' = w := by
  obtain ⟨k, hkc⟩ : ∃ k, knd c = k := ⟨_, rfl⟩
  have hk : k < 7 := by rw [← hkc]; exact knd_lt c
  have HC : Hid (∀ w, Calls Try.prog 55 #[.int .i64 (ck c)] w fun e w' => e = .returned (.int .i64 (k : Int)) ∧ w' = w) := Lib.hid fun w => by
    have := kindOf_any c w
    rwa [hkc] at this
  have HI : Hid ((bits .and .i64 (4 / 2 ^ k) 1 == 1) = inS 4 c) := Lib.hid (by unfold inS; rw [hkc]; exact bit_and 4 k (by decide) hk)
  clear hkc
  obtain ⟨x, hx⟩ : ∃ x : Int, ck c = x := ⟨_, rfl⟩
  rw [hx] at HC ⊢
  go_enter Try.func50, Try.ntmps50
  go_wp2_with (go_at_call 55; refine (HC.out _).mono ?_; rintro e w' ⟨rfl, rfl⟩)
  go_ret
  exact ⟨ret_bool HI.out, rfl⟩
theorem isIn_12 (c : Option UInt8) (w : World) : Calls Try.prog 50 #[.int .i64 (ck c), .int .i64 12] w fun e w' => e = .returned (.bool (inS 12 c)) ∧ w' = w := by
  obtain ⟨k, hkc⟩ : ∃ k, knd c = k := ⟨_, rfl⟩
  have hk : k < 7 := by rw [← hkc]; exact knd_lt c
  have HC : Hid (∀ w, Calls Try.prog 55 #[.int .i64 (ck c)] w fun e w' => e = .returned (.int .i64 (k : Int)) ∧ w' = w) := Lib.hid fun w => by
    have := kindOf_any c w
    rwa [hkc] at this
  have HI : Hid ((bits .and .i64 (12 / 2 ^ k) 1 == 1) = inS 12 c) := Lib.hid (by unfold inS; rw [hkc]; exact bit_and 12 k (by decide) hk)
  clear hkc
  obtain ⟨x, hx⟩ : ∃ x : Int, ck c = x := ⟨_, rfl⟩
  rw [hx] at HC ⊢
  go_enter Try.func50, Try.ntmps50
  go_wp2_with (go_at_call 55; refine (HC.out _).mono ?_; rintro e w' ⟨rfl, rfl⟩)
  go_ret
  exact ⟨ret_bool HI.out, rfl⟩
theorem isIn_16 (c : Option UInt8) (w : World) : Calls Try.prog 50 #[.int .i64 (ck c), .int .i64 16] w fun e w' => e = .returned (.bool (inS 16 c)) ∧ w' = w := by
  obtain ⟨k, hkc⟩ : ∃ k, knd c = k := ⟨_, rfl⟩
  have hk : k < 7 := by rw [← hkc]; exact knd_lt c
  have HC : Hid (∀ w, Calls Try.prog 55 #[.int .i64 (ck c)] w fun e w' => e = .returned (.int .i64 (k : Int)) ∧ w' = w) := Lib.hid fun w => by
    have := kindOf_any c w
    rwa [hkc] at this
  have HI : Hid ((bits .and .i64 (16 / 2 ^ k) 1 == 1) = inS 16 c) := Lib.hid (by unfold inS; rw [hkc]; exact bit_and 16 k (by decide) hk)
  clear hkc
  obtain ⟨x, hx⟩ : ∃ x : Int, ck c = x := ⟨_, rfl⟩
  rw [hx] at HC ⊢
  go_enter Try.func50, Try.ntmps50
  go_wp2_with (go_at_call 55; refine (HC.out _).mono ?_; rintro e w' ⟨rfl, rfl⟩)
  go_ret
  exact ⟨ret_bool HI.out, rfl⟩
theorem isIn_32 (c : Option UInt8) (w : World) : Calls Try.prog 50 #[.int .i64 (ck c), .int .i64 32] w fun e w' => e = .returned (.bool (inS 32 c)) ∧ w' = w := by
  obtain ⟨k, hkc⟩ : ∃ k, knd c = k := ⟨_, rfl⟩
  have hk : k < 7 := by rw [← hkc]; exact knd_lt c
  have HC : Hid (∀ w, Calls Try.prog 55 #[.int .i64 (ck c)] w fun e w' => e = .returned (.int .i64 (k : Int)) ∧ w' = w) := Lib.hid fun w => by
    have := kindOf_any c w
    rwa [hkc] at this
  have HI : Hid ((bits .and .i64 (32 / 2 ^ k) 1 == 1) = inS 32 c) := Lib.hid (by unfold inS; rw [hkc]; exact bit_and 32 k (by decide) hk)
  clear hkc
  obtain ⟨x, hx⟩ : ∃ x : Int, ck c = x := ⟨_, rfl⟩
  rw [hx] at HC ⊢
  go_enter Try.func50, Try.ntmps50
  go_wp2_with (go_at_call 55; refine (HC.out _).mono ?_; rintro e w' ⟨rfl, rfl⟩)
  go_ret
  exact ⟨ret_bool HI.out, rfl⟩
theorem isIn_62 (c : Option UInt8) (w : World) : Calls Try.prog 50 #[.int .i64 (ck c), .int .i64 62] w fun e w' => e = .returned (.bool (inS 62 c)) ∧ w' = w := by
  obtain ⟨k, hkc⟩ : ∃ k, knd c = k := ⟨_, rfl⟩
  have hk : k < 7 := by rw [← hkc]; exact knd_lt c
  have HC : Hid (∀ w, Calls Try.prog 55 #[.int .i64 (ck c)] w fun e w' => e = .returned (.int .i64 (k : Int)) ∧ w' = w) := Lib.hid fun w => by
    have := kindOf_any c w
    rwa [hkc] at this
  have HI : Hid ((bits .and .i64 (62 / 2 ^ k) 1 == 1) = inS 62 c) := Lib.hid (by unfold inS; rw [hkc]; exact bit_and 62 k (by decide) hk)
  clear hkc
  obtain ⟨x, hx⟩ : ∃ x : Int, ck c = x := ⟨_, rfl⟩
  rw [hx] at HC ⊢
  go_enter Try.func50, Try.ntmps50
  go_wp2_with (go_at_call 55; refine (HC.out _).mono ?_; rintro e w' ⟨rfl, rfl⟩)
  go_ret
  exact ⟨ret_bool HI.out, rfl⟩
theorem isIn_110 (c : Option UInt8) (w : World) : Calls Try.prog 50 #[.int .i64 (ck c), .int .i64 110] w fun e w' => e = .returned (.bool (inS 110 c)) ∧ w' = w := by
  obtain ⟨k, hkc⟩ : ∃ k, knd c = k := ⟨_, rfl⟩
  have hk : k < 7 := by rw [← hkc]; exact knd_lt c
  have HC : Hid (∀ w, Calls Try.prog 55 #[.int .i64 (ck c)] w fun e w' => e = .returned (.int .i64 (k : Int)) ∧ w' = w) := Lib.hid fun w => by
    have := kindOf_any c w
    rwa [hkc] at this
  have HI : Hid ((bits .and .i64 (110 / 2 ^ k) 1 == 1) = inS 110 c) := Lib.hid (by unfold inS; rw [hkc]; exact bit_and 110 k (by decide) hk)
  clear hkc
  obtain ⟨x, hx⟩ : ∃ x : Int, ck c = x := ⟨_, rfl⟩
  rw [hx] at HC ⊢
  go_enter Try.func50, Try.ntmps50
  go_wp2_with (go_at_call 55; refine (HC.out _).mono ?_; rintro e w' ⟨rfl, rfl⟩)
  go_ret
  exact ⟨ret_bool HI.out, rfl⟩
theorem isIn_126 (c : Option UInt8) (w : World) : Calls Try.prog 50 #[.int .i64 (ck c), .int .i64 126] w fun e w' => e = .returned (.bool (inS 126 c)) ∧ w' = w := by
  obtain ⟨k, hkc⟩ : ∃ k, knd c = k := ⟨_, rfl⟩
  have hk : k < 7 := by rw [← hkc]; exact knd_lt c
  have HC : Hid (∀ w, Calls Try.prog 55 #[.int .i64 (ck c)] w fun e w' => e = .returned (.int .i64 (k : Int)) ∧ w' = w) := Lib.hid fun w => by
    have := kindOf_any c w
    rwa [hkc] at this
  have HI : Hid ((bits .and .i64 (126 / 2 ^ k) 1 == 1) = inS 126 c) := Lib.hid (by unfold inS; rw [hkc]; exact bit_and 126 k (by decide) hk)
  clear hkc
  obtain ⟨x, hx⟩ : ∃ x : Int, ck c = x := ⟨_, rfl⟩
  rw [hx] at HC ⊢
  go_enter Try.func50, Try.ntmps50
  go_wp2_with (go_at_call 55; refine (HC.out _).mono ?_; rintro e w' ⟨rfl, rfl⟩)
  go_ret
  exact ⟨ret_bool HI.out, rfl⟩
theorem isIn_any (s : Nat) (hs : s ∈ sets) (c : Option UInt8) (w : World) : Calls Try.prog 50 #[.int .i64 (ck c), .int .i64 (s : Int)] w fun e w' => e = .returned (.bool (inS s c)) ∧ w' = w := by
  simp only [sets, List.mem_cons, List.not_mem_nil, or_false] at hs
  rcases hs with rfl | rfl | rfl | rfl | rfl | rfl | rfl | rfl
  · exact isIn_2 c w
  · exact isIn_4 c w
  · exact isIn_12 c w
  · exact isIn_16 c w
  · exact isIn_32 c w
  · exact isIn_62 c w
  · exact isIn_110 c w
  · exact isIn_126 c w
end Go.Proofs.Ytgadpoahjlnheaa.Med
