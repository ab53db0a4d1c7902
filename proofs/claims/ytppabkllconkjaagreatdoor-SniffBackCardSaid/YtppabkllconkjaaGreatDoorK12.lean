/- Joined: MB, MC, MD, ME, MF, MG, MR. -/
import Derived.BigQuiet
import Derived.Deep.AppendLies
import Derived.Deep.DeepCutAuto
import Derived.Deep.LoopGhost
import Derived.Deep.QuietTactic
import Derived.Deep.RegionHeld3
import Derived.Deep.RegionLaw
import Derived.Laws.AppendOwn
import Derived.Laws.BytesArg
import Derived.Laws.DeepStrings4
import Derived.Laws.Externs
import Derived.Laws.IdiomStrings
import Derived.Lib.Bytealg
import Derived.Lib.Hide
import Derived.LoopN
import Derived.Maps.AppendAt
import Derived.Maps.Own
import Derived.Maps.OwnSet
import Derived.OpenShut
import Derived.Outline
import Derived.ProofKit
import Derived.StillTailTactics
import Derived.Test.YtppabkllconkjaaGreatDoorRows
import Derived.WalkKit
import Derived.WalkMore
import Derived.Test.YtppabkllconkjaaGreatDoorK05
import Derived.Test.YtppabkllconkjaaGreatDoorK09
import Derived.Test.YtppabkllconkjaaGreatDoorK10
import Derived.Test.YtppabkllconkjaaGreatDoorK11
/- The contracts of the kinds of bytes. -/
namespace Go.Proofs.YtppabkllconkjaaGreatDoor.Med
open Go.RowKit
set_option linter.unusedVariables false
set_option linter.unusedSimpArgs false
set_option maxRecDepth 100000
open Lab (RetS str str_size str_list str_eta str_inj u8v st_ixb)
/-- A byte, or the end, as the reader is given it. -/
def ck : Option UInt8 → Int
  | none => -1
  | some c => (c.toNat : Int)
def kI (x n : Int) : Int := if x = 32 ∨ x = 9 then 1 else if x ≤ 32 ∨ x = 127 then 0 else if 65 ≤ x ∧ x ≤ 90 then 3
    else if (97 ≤ x ∧ x ≤ 122) ∨ (48 ≤ x ∧ x ≤ 57) ∨ 0 ≤ n then 2 else if x = 34 ∨ x = 92 then 4 else if x < 128 then 5 else 6
def signs : List UInt8 := [33, 35, 36, 37, 38, 39, 42, 43, 45, 46, 94, 95, 96, 124, 126]
theorem knd_kI (c : UInt8) : (knd (some c) : Int) = kI (c.toNat : Int) (Lib.indexByte signs c) := by
  have : ∀ c : Fin 256, (knd (some (UInt8.ofNat c)) : Int) = kI (c.val : Int) (Lib.indexByte signs (UInt8.ofNat c)) := by decide +kernel
  have k := this ⟨c.toNat, c.toNat_lt⟩
  simpa using k
theorem wrap_u8 (x : Int) (h0 : 0 ≤ x) (h1 : x < 256) : IntKind.u8.wrap x = x := by
  have : ∀ k : Fin 256, IntKind.u8.wrap (k.val : Int) = (k.val : Int) := by decide +kernel
  have k := this ⟨x.toNat, by omega⟩
  simpa [Int.toNat_of_nonneg h0] using k
set_option maxHeartbeats 4000000 in
theorem kindOf_int (x n : Int) (h0 : 0 ≤ x) (h1 : x < 256) (HC : Hid (∀ w, Calls Tryz.prog 167 #[.string ⟨#[33, 35, 36, 37, 38, 39, 42, 43, 45, 46, 94, 95, 96, 124, 126]⟩, .int .u8 x] w fun e w' => e = .returned (.int .i64 n) ∧ w' = w)) (w : World) :
    Calls Tryz.prog 171 #[.int .i64 x] w fun e w' => e = .returned (.int .i64 (kI x n)) ∧ w' = w := by
  have hwr := wrap_u8 x h0 h1
  by_cases h_e32 : x = 32
  · have d_e32 : (x == 32) = true := by simpa using h_e32
    have HK : Hid (kI x n = 1) := Lib.hid (by simp only [kI]; (repeat' split) <;> omega)
    clear h_e32
    go_enter Tryz.func171, Tryz.ntmps171
    go_wp2_with (go_at_call 167; refine (HC.out _).mono ?_; rintro e w' ⟨rfl, rfl⟩)
    go_ret
    exact ⟨ret_int HK.out.symm, rfl⟩
  · have d_e32 : (x == 32) = false := by simpa using h_e32
    by_cases h_e9 : x = 9
    · have d_e9 : (x == 9) = true := by simpa using h_e9
      have HK : Hid (kI x n = 1) := Lib.hid (by simp only [kI]; (repeat' split) <;> omega)
      clear h_e32 h_e9
      go_enter Tryz.func171, Tryz.ntmps171
      go_wp2_with (go_at_call 167; refine (HC.out _).mono ?_; rintro e w' ⟨rfl, rfl⟩)
      go_ret
      exact ⟨ret_int HK.out.symm, rfl⟩
    · have d_e9 : (x == 9) = false := by simpa using h_e9
      by_cases h_l32 : x ≤ 32
      · have d_l32 : decide (x ≤ 32) = true := by simpa using h_l32
        have HK : Hid (kI x n = 0) := Lib.hid (by simp only [kI]; (repeat' split) <;> omega)
        clear h_e32 h_e9 h_l32
        go_enter Tryz.func171, Tryz.ntmps171
        go_wp2_with (go_at_call 167; refine (HC.out _).mono ?_; rintro e w' ⟨rfl, rfl⟩)
        go_ret
        exact ⟨ret_int HK.out.symm, rfl⟩
      · have d_l32 : decide (x ≤ 32) = false := by simpa using h_l32
        by_cases h_e127 : x = 127
        · have d_e127 : (x == 127) = true := by simpa using h_e127
          have HK : Hid (kI x n = 0) := Lib.hid (by simp only [kI]; (repeat' split) <;> omega)
          clear h_e32 h_e9 h_l32 h_e127
          go_enter Tryz.func171, Tryz.ntmps171
          go_wp2_with (go_at_call 167; refine (HC.out _).mono ?_; rintro e w' ⟨rfl, rfl⟩)
          go_ret
          exact ⟨ret_int HK.out.symm, rfl⟩
        · have d_e127 : (x == 127) = false := by simpa using h_e127
          by_cases h_g65 : 65 ≤ x
          · have d_g65 : decide (65 ≤ x) = true := by simpa using h_g65
            by_cases h_l90 : x ≤ 90
            · have d_l90 : decide (x ≤ 90) = true := by simpa using h_l90
              have HK : Hid (kI x n = 3) := Lib.hid (by simp only [kI]; (repeat' split) <;> omega)
              clear h_e32 h_e9 h_l32 h_e127 h_g65 h_l90
              go_enter Tryz.func171, Tryz.ntmps171
              go_wp2_with (go_at_call 167; refine (HC.out _).mono ?_; rintro e w' ⟨rfl, rfl⟩)
              go_ret
              exact ⟨ret_int HK.out.symm, rfl⟩
            · have d_l90 : decide (x ≤ 90) = false := by simpa using h_l90
              by_cases h_g97 : 97 ≤ x
              · have d_g97 : decide (97 ≤ x) = true := by simpa using h_g97
                by_cases h_l122 : x ≤ 122
                · have d_l122 : decide (x ≤ 122) = true := by simpa using h_l122
                  have HK : Hid (kI x n = 2) := Lib.hid (by simp only [kI]; (repeat' split) <;> omega)
                  clear h_e32 h_e9 h_l32 h_e127 h_g65 h_l90 h_g97 h_l122
                  go_enter Tryz.func171, Tryz.ntmps171
                  go_wp2_with (go_at_call 167; refine (HC.out _).mono ?_; rintro e w' ⟨rfl, rfl⟩)
                  go_ret
                  exact ⟨ret_int HK.out.symm, rfl⟩
                · have d_l122 : decide (x ≤ 122) = false := by simpa using h_l122
                  by_cases h_g48 : 48 ≤ x
                  · have d_g48 : decide (48 ≤ x) = true := by simpa using h_g48
                    by_cases h_l57 : x ≤ 57
                    · have d_l57 : decide (x ≤ 57) = true := by simpa using h_l57
                      exfalso; omega
                    · have d_l57 : decide (x ≤ 57) = false := by simpa using h_l57
                      by_cases h_ix : 0 ≤ n
                      · have d_ix : decide (0 ≤ n) = true := by simpa using h_ix
                        have HK : Hid (kI x n = 2) := Lib.hid (by simp only [kI]; (repeat' split) <;> omega)
                        clear h_e32 h_e9 h_l32 h_e127 h_g65 h_l90 h_g97 h_l122 h_g48 h_l57 h_ix
                        go_enter Tryz.func171, Tryz.ntmps171
                        go_wp2_with (go_at_call 167; refine (HC.out _).mono ?_; rintro e w' ⟨rfl, rfl⟩)
                        go_ret
                        exact ⟨ret_int HK.out.symm, rfl⟩
                      · have d_ix : decide (0 ≤ n) = false := by simpa using h_ix
                        by_cases h_e34 : x = 34
                        · have d_e34 : (x == 34) = true := by simpa using h_e34
                          exfalso; omega
                        · have d_e34 : (x == 34) = false := by simpa using h_e34
                          by_cases h_e92 : x = 92
                          · have d_e92 : (x == 92) = true := by simpa using h_e92
                            exfalso; omega
                          · have d_e92 : (x == 92) = false := by simpa using h_e92
                            by_cases h_l128 : x < 128
                            · have d_l128 : decide (x < 128) = true := by simpa using h_l128
                              have HK : Hid (kI x n = 5) := Lib.hid (by simp only [kI]; (repeat' split) <;> omega)
                              clear h_e32 h_e9 h_l32 h_e127 h_g65 h_l90 h_g97 h_l122 h_g48 h_l57 h_ix h_e34 h_e92 h_l128
                              go_enter Tryz.func171, Tryz.ntmps171
                              go_wp2_with (go_at_call 167; refine (HC.out _).mono ?_; rintro e w' ⟨rfl, rfl⟩)
                              go_ret
                              exact ⟨ret_int HK.out.symm, rfl⟩
                            · have d_l128 : decide (x < 128) = false := by simpa using h_l128
                              have HK : Hid (kI x n = 6) := Lib.hid (by simp only [kI]; (repeat' split) <;> omega)
                              clear h_e32 h_e9 h_l32 h_e127 h_g65 h_l90 h_g97 h_l122 h_g48 h_l57 h_ix h_e34 h_e92 h_l128
                              go_enter Tryz.func171, Tryz.ntmps171
                              go_wp2_with (go_at_call 167; refine (HC.out _).mono ?_; rintro e w' ⟨rfl, rfl⟩)
                              go_ret
                              exact ⟨ret_int HK.out.symm, rfl⟩
                  · have d_g48 : decide (48 ≤ x) = false := by simpa using h_g48
                    exfalso; omega
              · have d_g97 : decide (97 ≤ x) = false := by simpa using h_g97
                by_cases h_g48 : 48 ≤ x
                · have d_g48 : decide (48 ≤ x) = true := by simpa using h_g48
                  by_cases h_l57 : x ≤ 57
                  · have d_l57 : decide (x ≤ 57) = true := by simpa using h_l57
                    exfalso; omega
                  · have d_l57 : decide (x ≤ 57) = false := by simpa using h_l57
                    by_cases h_ix : 0 ≤ n
                    · have d_ix : decide (0 ≤ n) = true := by simpa using h_ix
                      have HK : Hid (kI x n = 2) := Lib.hid (by simp only [kI]; (repeat' split) <;> omega)
                      clear h_e32 h_e9 h_l32 h_e127 h_g65 h_l90 h_g97 h_g48 h_l57 h_ix
                      go_enter Tryz.func171, Tryz.ntmps171
                      go_wp2_with (go_at_call 167; refine (HC.out _).mono ?_; rintro e w' ⟨rfl, rfl⟩)
                      go_ret
                      exact ⟨ret_int HK.out.symm, rfl⟩
                    · have d_ix : decide (0 ≤ n) = false := by simpa using h_ix
                      by_cases h_e34 : x = 34
                      · have d_e34 : (x == 34) = true := by simpa using h_e34
                        exfalso; omega
                      · have d_e34 : (x == 34) = false := by simpa using h_e34
                        by_cases h_e92 : x = 92
                        · have d_e92 : (x == 92) = true := by simpa using h_e92
                          have HK : Hid (kI x n = 4) := Lib.hid (by simp only [kI]; (repeat' split) <;> omega)
                          clear h_e32 h_e9 h_l32 h_e127 h_g65 h_l90 h_g97 h_g48 h_l57 h_ix h_e34 h_e92
                          go_enter Tryz.func171, Tryz.ntmps171
                          go_wp2_with (go_at_call 167; refine (HC.out _).mono ?_; rintro e w' ⟨rfl, rfl⟩)
                          go_ret
                          exact ⟨ret_int HK.out.symm, rfl⟩
                        · have d_e92 : (x == 92) = false := by simpa using h_e92
                          by_cases h_l128 : x < 128
                          · have d_l128 : decide (x < 128) = true := by simpa using h_l128
                            have HK : Hid (kI x n = 5) := Lib.hid (by simp only [kI]; (repeat' split) <;> omega)
                            clear h_e32 h_e9 h_l32 h_e127 h_g65 h_l90 h_g97 h_g48 h_l57 h_ix h_e34 h_e92 h_l128
                            go_enter Tryz.func171, Tryz.ntmps171
                            go_wp2_with (go_at_call 167; refine (HC.out _).mono ?_; rintro e w' ⟨rfl, rfl⟩)
                            go_ret
                            exact ⟨ret_int HK.out.symm, rfl⟩
                          · have d_l128 : decide (x < 128) = false := by simpa using h_l128
                            exfalso; omega
                · have d_g48 : decide (48 ≤ x) = false := by simpa using h_g48
                  exfalso; omega
          · have d_g65 : decide (65 ≤ x) = false := by simpa using h_g65
            by_cases h_g97 : 97 ≤ x
            · have d_g97 : decide (97 ≤ x) = true := by simpa using h_g97
              exfalso; omega
            · have d_g97 : decide (97 ≤ x) = false := by simpa using h_g97
              by_cases h_g48 : 48 ≤ x
              · have d_g48 : decide (48 ≤ x) = true := by simpa using h_g48
                by_cases h_l57 : x ≤ 57
                · have d_l57 : decide (x ≤ 57) = true := by simpa using h_l57
                  have HK : Hid (kI x n = 2) := Lib.hid (by simp only [kI]; (repeat' split) <;> omega)
                  clear h_e32 h_e9 h_l32 h_e127 h_g65 h_g97 h_g48 h_l57
                  go_enter Tryz.func171, Tryz.ntmps171
                  go_wp2_with (go_at_call 167; refine (HC.out _).mono ?_; rintro e w' ⟨rfl, rfl⟩)
                  go_ret
                  exact ⟨ret_int HK.out.symm, rfl⟩
                · have d_l57 : decide (x ≤ 57) = false := by simpa using h_l57
                  by_cases h_ix : 0 ≤ n
                  · have d_ix : decide (0 ≤ n) = true := by simpa using h_ix
                    have HK : Hid (kI x n = 2) := Lib.hid (by simp only [kI]; (repeat' split) <;> omega)
                    clear h_e32 h_e9 h_l32 h_e127 h_g65 h_g97 h_g48 h_l57 h_ix
                    go_enter Tryz.func171, Tryz.ntmps171
                    go_wp2_with (go_at_call 167; refine (HC.out _).mono ?_; rintro e w' ⟨rfl, rfl⟩)
                    go_ret
                    exact ⟨ret_int HK.out.symm, rfl⟩
                  · have d_ix : decide (0 ≤ n) = false := by simpa using h_ix
                    by_cases h_e34 : x = 34
                    · have d_e34 : (x == 34) = true := by simpa using h_e34
                      exfalso; omega
                    · have d_e34 : (x == 34) = false := by simpa using h_e34
                      by_cases h_e92 : x = 92
                      · have d_e92 : (x == 92) = true := by simpa using h_e92
                        exfalso; omega
                      · have d_e92 : (x == 92) = false := by simpa using h_e92
                        by_cases h_l128 : x < 128
                        · have d_l128 : decide (x < 128) = true := by simpa using h_l128
                          have HK : Hid (kI x n = 5) := Lib.hid (by simp only [kI]; (repeat' split) <;> omega)
                          clear h_e32 h_e9 h_l32 h_e127 h_g65 h_g97 h_g48 h_l57 h_ix h_e34 h_e92 h_l128
                          go_enter Tryz.func171, Tryz.ntmps171
                          go_wp2_with (go_at_call 167; refine (HC.out _).mono ?_; rintro e w' ⟨rfl, rfl⟩)
                          go_ret
                          exact ⟨ret_int HK.out.symm, rfl⟩
                        · have d_l128 : decide (x < 128) = false := by simpa using h_l128
                          exfalso; omega
              · have d_g48 : decide (48 ≤ x) = false := by simpa using h_g48
                by_cases h_ix : 0 ≤ n
                · have d_ix : decide (0 ≤ n) = true := by simpa using h_ix
                  have HK : Hid (kI x n = 2) := Lib.hid (by simp only [kI]; (repeat' split) <;> omega)
                  clear h_e32 h_e9 h_l32 h_e127 h_g65 h_g97 h_g48 h_ix
                  go_enter Tryz.func171, Tryz.ntmps171
                  go_wp2_with (go_at_call 167; refine (HC.out _).mono ?_; rintro e w' ⟨rfl, rfl⟩)
                  go_ret
                  exact ⟨ret_int HK.out.symm, rfl⟩
                · have d_ix : decide (0 ≤ n) = false := by simpa using h_ix
                  by_cases h_e34 : x = 34
                  · have d_e34 : (x == 34) = true := by simpa using h_e34
                    have HK : Hid (kI x n = 4) := Lib.hid (by simp only [kI]; (repeat' split) <;> omega)
                    clear h_e32 h_e9 h_l32 h_e127 h_g65 h_g97 h_g48 h_ix h_e34
                    go_enter Tryz.func171, Tryz.ntmps171
                    go_wp2_with (go_at_call 167; refine (HC.out _).mono ?_; rintro e w' ⟨rfl, rfl⟩)
                    go_ret
                    exact ⟨ret_int HK.out.symm, rfl⟩
                  · have d_e34 : (x == 34) = false := by simpa using h_e34
                    by_cases h_e92 : x = 92
                    · have d_e92 : (x == 92) = true := by simpa using h_e92
                      exfalso; omega
                    · have d_e92 : (x == 92) = false := by simpa using h_e92
                      by_cases h_l128 : x < 128
                      · have d_l128 : decide (x < 128) = true := by simpa using h_l128
                        have HK : Hid (kI x n = 5) := Lib.hid (by simp only [kI]; (repeat' split) <;> omega)
                        clear h_e32 h_e9 h_l32 h_e127 h_g65 h_g97 h_g48 h_ix h_e34 h_e92 h_l128
                        go_enter Tryz.func171, Tryz.ntmps171
                        go_wp2_with (go_at_call 167; refine (HC.out _).mono ?_; rintro e w' ⟨rfl, rfl⟩)
                        go_ret
                        exact ⟨ret_int HK.out.symm, rfl⟩
                      · have d_l128 : decide (x < 128) = false := by simpa using h_l128
                        exfalso; omega
theorem kindOf_any (c : Option UInt8) (w : World) : Calls Tryz.prog 171 #[.int .i64 (ck c)] w fun e w' => e = .returned (.int .i64 (knd c : Int)) ∧ w' = w := by
  cases c with
  | none =>
    go_enter Tryz.func171, Tryz.ntmps171
    go_wp2_with fail
    go_ret
    exact ⟨rfl, rfl⟩
  | some c =>
    rw [knd_kI]
    have hc := c.toNat_lt
    refine kindOf_int (c.toNat : Int) _ (by omega) (by omega) (Lib.hid fun w => ?_) w
    refine (st_ixb ⟨#[33, 35, 36, 37, 38, 39, 42, 43, 45, 46, 94, 95, 96, 124, 126]⟩ (c.toNat : Int) w).mono ?_
    rintro e w' ⟨rfl, rfl⟩
    refine ⟨?_, rfl⟩
    simp [signs]
def sets : List Nat := [2, 4, 12, 16, 32, 62, 110, 126]
theorem bit_and (s k : Nat) (hs : s ∈ sets) (hk : k < 7) : (bits .and .i64 ((s : Int) / 2 ^ k) 1 == 1) = s.testBit k := by
  have : ∀ s ∈ sets, ∀ k : Fin 7, (bits .and .i64 ((s : Int) / 2 ^ k.val) 1 == 1) = s.testBit k.val := by decide +kernel
  exact this s hs ⟨k, hk⟩
theorem isIn_2 (c : Option UInt8) (w : World) : Calls Tryz.prog 143 #[.int .i64 (ck c), .int .i64 2] w fun e w' => e = .returned (.bool (inS 2 c)) ∧ w' = w := by
  obtain ⟨k, hkc⟩ : ∃ k, knd c = k := ⟨_, rfl⟩
  have hk : k < 7 := by rw [← hkc]; exact knd_lt c
  have HC : Hid (∀ w, Calls Tryz.prog 171 #[.int .i64 (ck c)] w fun e w' => e = .returned (.int .i64 (k : Int)) ∧ w' = w) := Lib.hid fun w => by
    have := kindOf_any c w
    rwa [hkc] at this
  have HI : Hid ((bits .and .i64 (2 / 2 ^ k) 1 == 1) = inS 2 c) := Lib.hid (by unfold inS; rw [hkc]; exact bit_and 2 k (by decide) hk)
  clear hkc
  obtain ⟨x, hx⟩ : ∃ x : Int, ck c = x := ⟨_, rfl⟩
  rw [hx] at HC ⊢
  go_enter Tryz.func143, Tryz.ntmps143
  go_wp2_with (go_at_call 171; refine (HC.out _).mono ?_; rintro e w' ⟨rfl, rfl⟩)
  go_ret
  exact ⟨ret_bool HI.out, rfl⟩
theorem isIn_4 (c : Option UInt8) (w : World) : Calls Tryz.prog 143 #[.int .i64 (ck c), .int .i64 4] w fun e w' => e = .returned (.bool (inS 4 c)) ∧ w' = w := by
  obtain ⟨k, hkc⟩ : ∃ k, knd c = k := ⟨_, rfl⟩
  have hk : k < 7 := by rw [← hkc]; exact knd_lt c
  have HC : Hid (∀ w, Calls Tryz.prog 171 #[.int .i64 (ck c)] w fun e w' => e = .returned (.int .i64 (k : Int)) ∧ w' = w) := Lib.hid fun w => by
    have := kindOf_any c w
    rwa [hkc] at this
  have HI : Hid ((bits .and .i64 (4 / 2 ^ k) 1 == 1) = inS 4 c) := Lib.hid (by unfold inS; rw [hkc]; exact bit_and 4 k (by decide) hk)
  clear hkc
  obtain ⟨x, hx⟩ : ∃ x : Int, ck c = x := ⟨_, rfl⟩
  rw [hx] at HC ⊢
  go_enter Tryz.func143, Tryz.ntmps143
  go_wp2_with (go_at_call 171; refine (HC.out _).mono ?_; rintro e w' ⟨rfl, rfl⟩)
  go_ret
  exact ⟨ret_bool HI.out, rfl⟩
theorem isIn_12 (c : Option UInt8) (w : World) : Calls Tryz.prog 143 #[.int .i64 (ck c), .int .i64 12] w fun e w' => e = .returned (.bool (inS 12 c)) ∧ w' = w := by
  obtain ⟨k, hkc⟩ : ∃ k, knd c = k := ⟨_, rfl⟩
  have hk : k < 7 := by rw [← hkc]; exact knd_lt c
  have HC : Hid (∀ w, Calls Tryz.prog 171 #[.int .i64 (ck c)] w fun e w' => e = .returned (.int .i64 (k : Int)) ∧ w' = w) := Lib.hid fun w => by
    have := kindOf_any c w
    rwa [hkc] at this
  have HI : Hid ((bits .and .i64 (12 / 2 ^ k) 1 == 1) = inS 12 c) := Lib.hid (by unfold inS; rw [hkc]; exact bit_and 12 k (by decide) hk)
  clear hkc
  obtain ⟨x, hx⟩ : ∃ x : Int, ck c = x := ⟨_, rfl⟩
  rw [hx] at HC ⊢
  go_enter Tryz.func143, Tryz.ntmps143
  go_wp2_with (go_at_call 171; refine (HC.out _).mono ?_; rintro e w' ⟨rfl, rfl⟩)
  go_ret
  exact ⟨ret_bool HI.out, rfl⟩
theorem isIn_16 (c : Option UInt8) (w : World) : Calls Tryz.prog 143 #[.int .i64 (ck c), .int .i64 16] w fun e w' => e = .returned (.bool (inS 16 c)) ∧ w' = w := by
  obtain ⟨k, hkc⟩ : ∃ k, knd c = k := ⟨_, rfl⟩
  have hk : k < 7 := by rw [← hkc]; exact knd_lt c
  have HC : Hid (∀ w, Calls Tryz.prog 171 #[.int .i64 (ck c)] w fun e w' => e = .returned (.int .i64 (k : Int)) ∧ w' = w) := Lib.hid fun w => by
    have := kindOf_any c w
    rwa [hkc] at this
  have HI : Hid ((bits .and .i64 (16 / 2 ^ k) 1 == 1) = inS 16 c) := Lib.hid (by unfold inS; rw [hkc]; exact bit_and 16 k (by decide) hk)
  clear hkc
  obtain ⟨x, hx⟩ : ∃ x : Int, ck c = x := ⟨_, rfl⟩
  rw [hx] at HC ⊢
  go_enter Tryz.func143, Tryz.ntmps143
  go_wp2_with (go_at_call 171; refine (HC.out _).mono ?_; rintro e w' ⟨rfl, rfl⟩)
  go_ret
  exact ⟨ret_bool HI.out, rfl⟩
theorem isIn_32 (c : Option UInt8) (w : World) : Calls Tryz.prog 143 #[.int .i64 (ck c), .int .i64 32] w fun e w' => e = .returned (.bool (inS 32 c)) ∧ w' = w := by
  obtain ⟨k, hkc⟩ : ∃ k, knd c = k := ⟨_, rfl⟩
  have hk : k < 7 := by rw [← hkc]; exact knd_lt c
  have HC : Hid (∀ w, Calls Tryz.prog 171 #[.int .i64 (ck c)] w fun e w' => e = .returned (.int .i64 (k : Int)) ∧ w' = w) := Lib.hid fun w => by
    have := kindOf_any c w
    rwa [hkc] at this
  have HI : Hid ((bits .and .i64 (32 / 2 ^ k) 1 == 1) = inS 32 c) := Lib.hid (by unfold inS; rw [hkc]; exact bit_and 32 k (by decide) hk)
  clear hkc
  obtain ⟨x, hx⟩ : ∃ x : Int, ck c = x := ⟨_, rfl⟩
  rw [hx] at HC ⊢
  go_enter Tryz.func143, Tryz.ntmps143
  go_wp2_with (go_at_call 171; refine (HC.out _).mono ?_; rintro e w' ⟨rfl, rfl⟩)
  go_ret
  exact ⟨ret_bool HI.out, rfl⟩
theorem isIn_62 (c : Option UInt8) (w : World) : Calls Tryz.prog 143 #[.int .i64 (ck c), .int .i64 62] w fun e w' => e = .returned (.bool (inS 62 c)) ∧ w' = w := by
  obtain ⟨k, hkc⟩ : ∃ k, knd c = k := ⟨_, rfl⟩
  have hk : k < 7 := by rw [← hkc]; exact knd_lt c
  have HC : Hid (∀ w, Calls Tryz.prog 171 #[.int .i64 (ck c)] w fun e w' => e = .returned (.int .i64 (k : Int)) ∧ w' = w) := Lib.hid fun w => by
    have := kindOf_any c w
    rwa [hkc] at this
  have HI : Hid ((bits .and .i64 (62 / 2 ^ k) 1 == 1) = inS 62 c) := Lib.hid (by unfold inS; rw [hkc]; exact bit_and 62 k (by decide) hk)
  clear hkc
  obtain ⟨x, hx⟩ : ∃ x : Int, ck c = x := ⟨_, rfl⟩
  rw [hx] at HC ⊢
  go_enter Tryz.func143, Tryz.ntmps143
  go_wp2_with (go_at_call 171; refine (HC.out _).mono ?_; rintro e w' ⟨rfl, rfl⟩)
  go_ret
  exact ⟨ret_bool HI.out, rfl⟩
theorem isIn_110 (c : Option UInt8) (w : World) : Calls Tryz.prog 143 #[.int .i64 (ck c), .int .i64 110] w fun e w' => e = .returned (.bool (inS 110 c)) ∧ w' = w := by
  obtain ⟨k, hkc⟩ : ∃ k, knd c = k := ⟨_, rfl⟩
  have hk : k < 7 := by rw [← hkc]; exact knd_lt c
  have HC : Hid (∀ w, Calls Tryz.prog 171 #[.int .i64 (ck c)] w fun e w' => e = .returned (.int .i64 (k : Int)) ∧ w' = w) := Lib.hid fun w => by
    have := kindOf_any c w
    rwa [hkc] at this
  have HI : Hid ((bits .and .i64 (110 / 2 ^ k) 1 == 1) = inS 110 c) := Lib.hid (by unfold inS; rw [hkc]; exact bit_and 110 k (by decide) hk)
  clear hkc
  obtain ⟨x, hx⟩ : ∃ x : Int, ck c = x := ⟨_, rfl⟩
  rw [hx] at HC ⊢
  go_enter Tryz.func143, Tryz.ntmps143
  go_wp2_with (go_at_call 171; refine (HC.out _).mono ?_; rintro e w' ⟨rfl, rfl⟩)
  go_ret
  exact ⟨ret_bool HI.out, rfl⟩
theorem isIn_126 (c : Option UInt8) (w : World) : Calls Tryz.prog 143 #[.int .i64 (ck c), .int .i64 126] w fun e w' => e = .returned (.bool (inS 126 c)) ∧ w' = w := by
  obtain ⟨k, hkc⟩ : ∃ k, knd c = k := ⟨_, rfl⟩
  have hk : k < 7 := by rw [← hkc]; exact knd_lt c
  have HC : Hid (∀ w, Calls Tryz.prog 171 #[.int .i64 (ck c)] w fun e w' => e = .returned (.int .i64 (k : Int)) ∧ w' = w) := Lib.hid fun w => by
    have := kindOf_any c w
    rwa [hkc] at this
  have HI : Hid ((bits .and .i64 (126 / 2 ^ k) 1 == 1) = inS 126 c) := Lib.hid (by unfold inS; rw [hkc]; exact bit_and 126 k (by decide) hk)
  clear hkc
  obtain ⟨x, hx⟩ : ∃ x : Int, ck c = x := ⟨_, rfl⟩
  rw [hx] at HC ⊢
  go_enter Tryz.func143, Tryz.ntmps143
  go_wp2_with (go_at_call 171; refine (HC.out _).mono ?_; rintro e w' ⟨rfl, rfl⟩)
  go_ret
  exact ⟨ret_bool HI.out, rfl⟩
theorem isIn_any (s : Nat) (hs : s ∈ sets) (c : Option UInt8) (w : World) : Calls Tryz.prog 143 #[.int .i64 (ck c), .int .i64 (s : Int)] w fun e w' => e = .returned (.bool (inS s c)) ∧ w' = w := by
  simp only [sets, List.mem_cons, List.not_mem_nil, or_false] at hs
  rcases hs with rfl | rfl | rfl | rfl | rfl | rfl | rfl | rfl
  · exact isIn_2 c w
  · exact isIn_4 c w
  · exact isIn_12 c w
  · exact isIn_16 c w
  · exact isIn_32 c w
  · exact isIn_62 c w
  · exact isIn_110 c w
  · exact isIn_126 c w
end Go.Proofs.YtppabkllconkjaaGreatDoor.Med
/- The reader's box; the contracts of keep, take and Lower. -/
namespace Go.Proofs.YtppabkllconkjaaGreatDoor.Med
open Go.RowKit
set_option linter.unusedVariables false
set_option linter.unusedSimpArgs false
set_option maxRecDepth 100000
open Lab (RetS ret_str str str_size str_list str_eta str_inj u8v st_ixb info5 info_parts)
theorem grown_set (w : World) (a : Addr) (v : Value) : w.grownBy (w.setCell a v) (some a.block) := by
  refine ⟨rfl, rfl, rfl, ?_, ?_⟩
  · simp [World.setCell]
  · intro k hk hne
    exact Below.heap_setCell _ _ _ _ (by intro e; exact hne (by rw [e]))
theorem blk_kept {w w' : World} {b : Nat} {xs : Array Value} {T : TypeId} {row : Option Nat} (h : Blk w b xs T) (hg : w.grownBy w' row) (hne : some b ≠ row) : Blk w' b xs T :=
  (hg.block b h.lt hne).trans h
theorem not_row {w : World} {b : Nat} {C : Array Value} {T e : TypeId} (hb : Blk w b C T) (hT : T ≠ e) {base size n : Nat} {v : Value} {xs : List Value} (h : w.ownsRow base e size v n xs) : some b ≠ v.ownBlock := by
  rcases h.2 with ⟨rfl, _⟩ | ⟨g, cap, cur, rfl, _, hg, _⟩
  · simp [Value.ownBlock]
  · intro e'
    have : b = g := by simpa [Value.ownBlock] using e'
    subst this
    unfold Blk at hb
    rw [hb] at hg
    cases hg
    exact hT rfl
theorem rows_apart {w : World} {base e e' size size' n n' : Nat} {v v' : Value} {xs xs' : List Value} (hT : e ≠ e') (h : w.ownsRow base e size v n xs) (h' : w.ownsRow base e' size' v' n' xs') : v.ownBlock = none ∨ v.ownBlock ≠ v'.ownBlock := by
  rcases h.2 with ⟨rfl, _⟩ | ⟨g, cap, cur, rfl, _, hg, _⟩
  · exact .inl rfl
  · right
    exact not_row (b := g) (C := cur) hg hT h'
theorem own_set {w : World} {B : Nat} {C : Array Value} {T : TypeId} {base e size n : Nat} {v : Value} {xs : List Value} (h : w.ownsRow base e size v n xs) (hb : Blk w B C T) (hT : T ≠ e) (o : Nat) (x : Value) : (w.setCell ⟨B, o, none⟩ x).ownsRow base e size v n xs :=
  h.kept (grown_set w ⟨B, o, none⟩ x) (.inr (fun e' => not_row hb hT h e'.symm))
theorem own_below {w w' : World} {m base e size n : Nat} {v : Value} {xs : List Value} (h : w.ownsRow base e size v n xs) (hb : Below w.heap.size w w') : w'.ownsRow base e size v n xs := by
  refine ⟨h.1, ?_⟩
  rcases h.2 with h1 | ⟨g, cap, cur, rfl, h1, hg, h2⟩
  · exact .inl h1
  · have hl : g < w.heap.size := (Array.getElem?_eq_some_iff.1 hg).1
    exact .inr ⟨g, cap, cur, rfl, h1, (hb.block g hl).trans hg, h2⟩
/-- The cells of parameters. -/
def cellsP (ps : List Par) : List Value := ps.flatMap fun p => [.string (str p.1), .string (str p.2)]
theorem cellsP_len (ps : List Par) : (cellsP ps).length = ps.length * 2 := by
  induction ps with
  | nil => rfl
  | cons p t ih => simp only [cellsP, List.flatMap_cons, List.length_append, List.length_cons, List.length_nil] at *; omega
theorem cellsP_app (a b : List Par) : cellsP (a ++ b) = cellsP a ++ cellsP b := by simp [cellsP]
theorem cellsP_at : ∀ (ps : List Par) (i : Nat) (h : i < ps.length), (cellsP ps)[2 * i]? = some (.string (str ps[i].1)) ∧ (cellsP ps)[2 * i + 1]? = some (.string (str ps[i].2))
  | [], i, h => by simp at h
  | p :: t, 0, h => ⟨rfl, rfl⟩
  | p :: t, i + 1, h => by
    have := cellsP_at t i (by simpa using h)
    have e : cellsP (p :: t) = .string (str p.1) :: .string (str p.2) :: cellsP t := rfl
    rw [e, show 2 * (i + 1) = 2 * i + 1 + 1 by omega, show 2 * i + 1 + 1 + 1 = (2 * i + 1) + 1 + 1 by omega]
    simpa using this
/-- All below n but for block B is as it was. -/
structure Fr (n B : Nat) (w w' : World) : Prop where
  os : w'.os = w.os
  tape : w'.tape = w.tape
  output : w'.output = w.output
  size : w.heap.size ≤ w'.heap.size
  block : ∀ k, k < n → k ≠ B → w'.heap[k]? = w.heap[k]?
namespace Fr
variable {n B : Nat} {a b c : World}
theorem refl (n B : Nat) (w : World) : Fr n B w w := ⟨rfl, rfl, rfl, Nat.le_refl _, fun _ _ _ => rfl⟩
theorem trans (h : Fr n B a b) (k : Fr n B b c) : Fr n B a c := ⟨k.os.trans h.os, k.tape.trans h.tape, k.output.trans h.output, Nat.le_trans h.size k.size, fun i hi hb => (k.block i hi hb).trans (h.block i hi hb)⟩
theorem of (h : Below n a b) : Fr n B a b := ⟨h.os, h.tape, h.output, h.size, fun i hi _ => h.block i hi⟩
theorem of' (h : Below a.heap.size a b) (hn : n ≤ a.heap.size) : Fr n B a b := of (h.mono hn)
theorem setB (h : Fr n B a b) (o : Nat) (v : Value) : Fr n B a (b.setCell ⟨B, o, none⟩ v) :=
  ⟨h.os, h.tape, h.output, by simpa [World.setCell] using h.size, fun i hi hb => (Below.heap_setCell _ _ _ _ hb).trans (h.block i hi hb)⟩
theorem below {m : Nat} (h : Fr n B a b) (hm : m ≤ n) (hb : m ≤ B) : Below m a b := ⟨h.os, h.tape, h.output, h.size, fun i hi => h.block i (by omega) (by omega)⟩
end Fr
/-- The reader's box holds what was read. -/
structure Rd (w : World) (n₀ B : Nat) (s : St) (u v : Value) : Prop where
  blk : Blk w B #[.string (str s.ty), u, v] 118
  pr : w.ownsRow n₀ 92 2 u s.ps.length (cellsP s.ps)
  wr : w.ownsRow n₀ 5 1 v s.wd.length (s.wd.map u8v)
  sz : n₀ ≤ w.heap.size
def RdS (w : World) (n₀ B : Nat) (s : St) : Prop := ∃ u v, Rd w n₀ B s u v
namespace Rd
variable {w w' : World} {n₀ B : Nat} {s : St} {u v : Value}
theorem c0 (h : Rd w n₀ B s u v) : w.cell? ⟨B, 0, none⟩ = some (.string (str s.ty)) := by rw [h.blk.cell]; rfl
theorem c1 (h : Rd w n₀ B s u v) : w.cell? ⟨B, 1, none⟩ = some u := by rw [h.blk.cell]; rfl
theorem c2 (h : Rd w n₀ B s u v) : w.cell? ⟨B, 2, none⟩ = some v := by rw [h.blk.cell]; rfl
theorem fz (h : Rd w n₀ B s u v) (o : Nat) : w.frozen? ⟨B, o, none⟩ = false := h.blk.froz o
theorem below (h : Rd w n₀ B s u v) (hb : Below w.heap.size w w') : Rd w' n₀ B s u v := ⟨h.blk.below hb, own_below (m := 0) h.pr hb, own_below (m := 0) h.wr hb, Nat.le_trans h.sz hb.size⟩
/-- The word has grown. -/
theorem appW {w1 : World} {tmp : Obj} {v1 : Value} {c : UInt8} (h : Rd w n₀ B s u v) (hown : w1.ownsRow n₀ 5 1 v1 (s.wd.length + 1) (s.wd.map u8v ++ [.int .u8 (c.toNat : Int)])) (hg : (w.alloc tmp).grownBy w1 v.ownBlock) :
    (w1.cell? ⟨B, 2, none⟩ = some v ∧ w1.frozen? ⟨B, 2, none⟩ = false) ∧ Rd (w1.setCell ⟨B, 2, none⟩ v1) n₀ B ⟨s.ty, s.ps, s.wd ++ [c]⟩ u v1 ∧ Fr n₀ B w (w1.setCell ⟨B, 2, none⟩ v1) := by
  have hsz := h.sz
  have b1 : Blk w1 B #[.string (str s.ty), u, v] 118 := blk_kept (h.blk.alloc tmp) hg (not_row (h.blk.alloc tmp) (by decide) (h.wr.alloc tmp))
  have p1 : w1.ownsRow n₀ 92 2 u s.ps.length (cellsP s.ps) := (h.pr.alloc tmp).kept hg (rows_apart (by decide) (h.pr.alloc tmp) (h.wr.alloc tmp))
  have g1 : w.heap.size + 1 ≤ w1.heap.size := by have := hg.size; simpa using this
  refine ⟨⟨by rw [b1.cell]; rfl, b1.froz 2⟩, ⟨b1.set (by simp), own_set p1 b1 (by decide) _ _, ?_, by simp [World.setCell]; omega⟩, ?_⟩
  · have := own_set hown b1 (by decide) 2 v1
    simpa [u8v] using this
  · exact (Fr.of (((Below.refl n₀ w).alloc hsz tmp).grown hg (by simp; omega) (fun k e => (World.ownsRow.lt h.wr k e).1))).setB _ _
/-- The word is taken. -/
theorem tookW {v1 : Value} (h : Rd w n₀ B s u v) (hv : (w.setCell ⟨B, 2, none⟩ v1).ownsRow n₀ 5 1 v1 0 []) : Rd (w.setCell ⟨B, 2, none⟩ v1) n₀ B ⟨s.ty, s.ps, []⟩ u v1 ∧ Fr n₀ B w (w.setCell ⟨B, 2, none⟩ v1) :=
  ⟨⟨h.blk.set (by simp), own_set h.pr h.blk (by decide) _ _, hv, by simpa [World.setCell] using h.sz⟩, (Fr.refl _ _ _).setB _ _⟩
/-- The type is laid. -/
theorem setT (h : Rd w n₀ B s u v) (t : List UInt8) : Rd (w.setCell ⟨B, 0, none⟩ (.string (str t))) n₀ B ⟨t, s.ps, s.wd⟩ u v ∧ Fr n₀ B w (w.setCell ⟨B, 0, none⟩ (.string (str t))) :=
  ⟨⟨h.blk.set (by simp), own_set h.pr h.blk (by decide) _ _, own_set h.wr h.blk (by decide) _ _, by simpa [World.setCell] using h.sz⟩, (Fr.refl _ _ _).setB _ _⟩
end Rd
theorem mlower_any (s : ByteArray) (w : World) (hs : s.size ≤ maxLen) : Calls Tryz.prog 145 #[.string s] w fun e w' => RetS (lwr s.data.toList) w e w' := by
  have HL := Lab.lower_any
  have e : Lab.lwr s.data.toList = lwr s.data.toList := rfl
  go_enter Tryz.func145, Tryz.ntmps145
  go_wp2_with (go_at_call 149; refine (Lab.lower_any _ _ hs).mono ?_; rintro _ w' ⟨rfl, hb⟩)
  go_ret
  exact ⟨rfl, hb⟩
set_option maxHeartbeats 1000000 in
theorem keep_any (k pl : Nat) (hk : k ∈ sets) (c : Option UInt8) (s : St) (n₀ B : Nat) (w : World) (h : RdS w n₀ B s) (hl : s.wd.length ≤ 1000000) :
    Calls Tryz.prog 144 #[.pointer (some ⟨B, 0, none⟩), .int .i64 (ck c), .int .i64 (k : Int), .int .i64 (pl : Int)] w fun e w' => e = .returned (.int .i64 ((kp k pl c s).1 : Int)) ∧ RdS w' n₀ B (kp k pl c s).2 ∧ Fr n₀ B w w' := by
  obtain ⟨u, v, hr⟩ := h
  have hI := isIn_any k hk c
  by_cases hin : inS k c = true
  · cases c with
    | none =>
      exfalso
      simp only [sets, List.mem_cons, List.not_mem_nil, or_false] at hk
      rcases hk with rfl | rfl | rfl | rfl | rfl | rfl | rfl | rfl <;> exact absurd hin (by decide)
    | some c =>
      rw [kp_yes hin]
      rw [hin] at hI
      have hwr := wrap_u8 (c.toNat : Int) (by omega) (by have := c.toNat_lt; omega)
      have c2 := hr.c2
      have f2 := hr.fz 2
      have hsz := hr.sz
      have HR := Lib.hid hr
      have HI := Lib.hid hI
      clear hI hin hk
      obtain ⟨i0, hi, hz0, hz1, hz2⟩ := info_parts info5
      obtain ⟨x, hx⟩ : ∃ x : Int, (c.toNat : Int) = x := ⟨_, rfl⟩
      have hck : ck (some c) = x := hx
      rw [hck] at HI ⊢
      rw [hx] at hwr
      obtain ⟨n, hn⟩ : ∃ n, s.wd.length = n := ⟨_, rfl⟩
      have HN := Lib.hid hn
      rw [hn] at hl
      clear hn
      have HO : Hid (w.ownsRow n₀ 5 1 v n (s.wd.map u8v)) := Lib.hid (by have := HR.out.wr; rwa [HN.out] at this)
      go_enter Tryz.func144, Tryz.ntmps144
      go_wp2_with (first
        | (go_at_call 143; refine (HI.out _).mono ?_; rintro e w9 ⟨rfl, hw9⟩; subst w9)
        | (at_builtin; refine wpList_append_lies _ rfl _ _ _ rfl n₀ 5 i0 _ 1 1 Tryz.underlying99 hi hz0 hz1 hz2 rfl (by omega) v n (s.wd.map u8v) rfl (World.ownsRow.alloc HO.out _) ⟨w.heap.size, 0, none⟩ 1 1 [_] rfl rfl (cell_one_new _ _ _) (by simp [Value.oneCell']) (by omega) (by unfold maxLen; omega) (by omega) (by simp; omega) (w.heap.size + 1) (by simp) ?_; intro g1 cap1 w1 hown1 hgrow1 hat1 hlt1; have H := Lib.hid (HR.out.appW (c := c) (by rw [hx, HN.out]; exact hown1) hgrow1); have c21 := H.out.1.1; have f21 := H.out.1.2; clear hown1 hgrow1 hat1 hlt1))
      go_ret
      exact ⟨rfl, ⟨_, _, H.out.2.1⟩, H.out.2.2⟩
  · have hinf : inS k c = false := by simpa using hin
    rw [kp_no hinf]
    rw [hinf] at hI
    have HR := Lib.hid hr
    have HI := Lib.hid hI
    clear hI hin hk hinf
    obtain ⟨x, hx⟩ : ∃ x : Int, ck c = x := ⟨_, rfl⟩
    rw [hx] at HI ⊢
    go_enter Tryz.func144, Tryz.ntmps144
    go_wp2_with (go_at_call 143; refine (HI.out _).mono ?_; rintro e w9 ⟨rfl, hw9⟩; subst w9)
    go_ret
    exact ⟨rfl, ⟨_, _, HR.out⟩, Fr.refl _ _ _⟩
theorem own_zero {w : World} {base e size n cap : Nat} {p : Option Addr} {xs : List Value} (h : w.ownsRow base e size (.slice p n cap) n xs) : w.ownsRow base e size (.slice p 0 cap) 0 [] := by
  refine ⟨by simp, ?_⟩
  rcases h.2 with ⟨h1, h0⟩ | ⟨g, cap', cur, h1, h2, h3, h4, h5, h6, h7⟩
  · cases h1; exact .inl ⟨rfl, rfl⟩
  · cases h1; exact .inr ⟨g, cap, cur, rfl, h2, h3, Nat.zero_le _, h5, h6, by simp⟩
set_option maxHeartbeats 1000000 in
theorem take_any (s : St) (n₀ B : Nat) (u v : Value) (w : World) (hr : Rd w n₀ B s u v) :
    Calls Tryz.prog 146 #[.pointer (some ⟨B, 0, none⟩)] w fun e w' => e = .returned (.string (str s.wd)) ∧ (∃ v', Rd w' n₀ B ⟨s.ty, s.ps, []⟩ u v') ∧ Fr n₀ B w w' ∧ (w'.heap.size = w.heap.size) ∧ ∀ j, j ≠ B → w'.heap[j]? = w.heap[j]? := by
  have hconv := Lab.conv_own (xs := s.wd) hr.wr
  have c2 := hr.c2
  have f2 := hr.fz 2
  have HR := Lib.hid hr
  rcases hr.wr.2 with ⟨rfl, h0⟩ | ⟨g, cap, cur, rfl, _, _, hcap, _⟩
  · have H := Lib.hid (HR.out.tookW (v1 := .slice none 0 0) (World.ownsRow_nil _ _ _ _))
    clear h0 hr
    go_enter Tryz.func146, Tryz.ntmps146
    go_wp2_with fail
    go_ret
    exact ⟨rfl, ⟨_, H.out.1⟩, H.out.2, by simp [World.setCell], fun j hj => Below.heap_setCell _ _ _ _ hj⟩
  · have H := Lib.hid (HR.out.tookW (v1 := .slice (some ⟨g, 0, none⟩) 0 cap) (own_set (own_zero HR.out.wr) HR.out.blk (by decide) _ _))
    clear hr
    go_enter Tryz.func146, Tryz.ntmps146
    go_wp2_with fail
    go_ret
    exact ⟨rfl, ⟨_, H.out.1⟩, H.out.2, by simp [World.setCell], fun j hj => Below.heap_setCell _ _ _ _ hj⟩
end Go.Proofs.YtppabkllconkjaaGreatDoor.Med
/- The contracts of the methods that read a byte. -/
namespace Go.Proofs.YtppabkllconkjaaGreatDoor.Med
open Go.RowKit
set_option linter.unusedVariables false
set_option linter.unusedSimpArgs false
set_option maxRecDepth 100000
open Lab (RetS ret_str str str_size str_list str_eta str_inj u8v st_ixb info5 info_parts)
theorem own_store {w : World} {base e size n cap g : Nat} {xs : List Value} (h : w.ownsRow base e size (.slice (some ⟨g, 0, none⟩) n cap) n xs) (o : Nat) (x : Value) :
    (w.setCell ⟨g, o, none⟩ x).ownsRow base e size (.slice (some ⟨g, 0, none⟩) n cap) n (xs.set o x) := by
  exact (h.stored o x).1
theorem cellsP_set (qs : List Par) (p : Par) (v : List UInt8) : (cellsP (qs ++ [p])).set (2 * qs.length + 1) (.string (str v)) = cellsP (qs ++ [(p.1, v)]) := by
  rw [cellsP_app, cellsP_app, List.set_append_right _ _ (by rw [cellsP_len]; omega), cellsP_len]
  have : 2 * qs.length + 1 - qs.length * 2 = 1 := by omega
  rw [this]; rfl
theorem Rd.form {w : World} {n₀ B : Nat} {s : St} {u v : Value} (h : Rd w n₀ B s u v) (hne : s.ps ≠ []) : ∃ g cap, u = .slice (some ⟨g, 0, none⟩) s.ps.length cap ∧ n₀ ≤ g ∧ g ≠ B ∧ s.ps.length ≤ cap := by
  have hp : 0 < s.ps.length := List.length_pos_iff.2 hne
  have hx := not_row h.blk (by decide) h.pr
  rcases h.pr.2 with ⟨_, h0⟩ | ⟨g, cap, cur, rfl, hb, hg, hc, _⟩
  · omega
  · exact ⟨g, cap, rfl, hb, fun e => by subst e; exact hx rfl, hc⟩
theorem Rd.setV {w : World} {n₀ B : Nat} {s : St} {qs : List Par} {p : Par} {g cap : Nat} {v : Value} (h : Rd w n₀ B ⟨s.ty, s.ps, []⟩ (.slice (some ⟨g, 0, none⟩) (qs.length + 1) cap) v) (hq : s.ps = qs ++ [p]) (hgn : n₀ ≤ g) :
    (w.cell? ⟨g, qs.length * 2 + 1, none⟩ = some (.string (str p.2)) ∧ w.frozen? ⟨g, qs.length * 2 + 1, none⟩ = false) ∧ Rd (w.setCell ⟨g, qs.length * 2 + 1, none⟩ (.string (str s.wd))) n₀ B (vl s) (.slice (some ⟨g, 0, none⟩) (qs.length + 1) cap) v ∧ Fr n₀ B w (w.setCell ⟨g, qs.length * 2 + 1, none⟩ (.string (str s.wd))) := by
  have hp := h.pr
  simp only at hp
  have hn : s.ps.length = qs.length + 1 := by rw [hq]; simp
  rw [hn, hq] at hp
  have hx := not_row h.blk (by decide) h.pr
  have hvl : vl s = ⟨s.ty, qs ++ [(p.1, s.wd)], []⟩ := by unfold vl; rw [hq, setL_snoc]
  have hgB : B ≠ g := fun e => hx (by rw [e]; rfl)
  refine ⟨⟨?_, hp.frozenAt _⟩, ?_, Fr.of ((Below.refl _ _).setCell hgn _)⟩
  · rw [hp.cellAt _ (by omega), show qs.length * 2 + 1 = 2 * qs.length + 1 by omega, (cellsP_at (qs ++ [p]) qs.length (by simp)).2]
    simp
  · rw [hvl]
    refine ⟨h.blk.set' (by simpa using hgB), ?_, ?_, by simpa [World.setCell] using h.sz⟩
    · have := own_store hp (qs.length * 2 + 1) (.string (str s.wd))
      rw [show qs.length * 2 + 1 = 2 * qs.length + 1 by omega, cellsP_set] at this
      simpa [Nat.mul_comm] using this
    · exact h.wr.kept (grown_set w _ _) (rows_apart (by decide) h.wr h.pr)
set_option maxHeartbeats 2000000 in
theorem value_any (s : St) (n₀ B : Nat) (w : World) (h : RdS w n₀ B s) (hne : s.ps ≠ []) (hl : s.ps.length ≤ 1000000) :
    Calls Tryz.prog 147 #[.pointer (some ⟨B, 0, none⟩)] w fun e w' => e = .returned (.tuple #[]) ∧ RdS w' n₀ B (vl s) ∧ Fr n₀ B w w' := by
  obtain ⟨u, v, hr⟩ := h
  obtain ⟨g, cap, rfl, hgn, hgB, hcap⟩ := hr.form hne
  obtain ⟨qs, p, hqs⟩ : ∃ qs p, s.ps = qs ++ [p] := ⟨s.ps.dropLast, s.ps.getLast hne, (List.dropLast_concat_getLast hne).symm⟩
  have hn : s.ps.length = qs.length + 1 := by rw [hqs]; simp
  have HV : Hid (vl s = ⟨s.ty, qs ++ [(p.1, s.wd)], []⟩) := Lib.hid (by unfold vl; rw [hqs, setL_snoc])
  have HT := Lib.hid fun w u v h => take_any s n₀ B u v w h
  have HQ := Lib.hid hqs
  have c1 := hr.c1
  have HR := Lib.hid hr
  rw [hn] at c1 hcap HR
  clear hr hqs hne hn
  obtain ⟨m, hm⟩ : ∃ m, qs.length = m := ⟨_, rfl⟩
  have HM := Lib.hid hm
  rw [hm] at c1 hcap HR
  have HS : Hid (∀ w1 v1, Rd w1 n₀ B ⟨s.ty, s.ps, []⟩ (.slice (some ⟨g, 0, none⟩) (m + 1) cap) v1 → (w1.cell? ⟨g, m * 2 + 1, none⟩ = some (.string (str p.2)) ∧ w1.frozen? ⟨g, m * 2 + 1, none⟩ = false) ∧ Rd (w1.setCell ⟨g, m * 2 + 1, none⟩ (.string (str s.wd))) n₀ B (vl s) (.slice (some ⟨g, 0, none⟩) (m + 1) cap) v1 ∧ Fr n₀ B w1 (w1.setCell ⟨g, m * 2 + 1, none⟩ (.string (str s.wd)))) := Lib.hid fun w1 v1 h1 => by
    have := Rd.setV (qs := qs) (p := p) (s := s) (by rw [hm]; exact h1) HQ.out hgn
    rwa [hm] at this
  clear hm
  have hm6 : m ≤ 1000000 := by have := congrArg List.length HQ.out; rw [List.length_append, HM.out] at this; simp at this; omega
  have hwm : IntKind.i64.wrap (m : Int) = m := by rw [IntKind.wrap_i64]; omega
  have hi0 : (0 : Int) ≤ (m : Int) := by omega
  have hi1 : (m : Int) < (m : Int) + 1 := by omega
  have hi2 : m < m + 1 := by omega
  clear hl
  go_enter Tryz.func147, Tryz.ntmps147
  go_region_held3 (fun wx => wx.cell? ⟨B, 1, none⟩ = some (.slice (some ⟨g, 0, none⟩) (m + 1) cap))
    (first
      | exact c1
      | exact h1.c1
      | go_keep)
    (first
      | (go_at_call 146; refine (HT.out _ _ _ (HR.out.below ((Below.refl _ w).drew))).mono ?_; rintro _ w1 ⟨rfl, ⟨v1, h1⟩, hb1, hs1, hk1⟩; have H := Lib.hid (HS.out _ _ h1); have cS := H.out.1.1; have fS := H.out.1.2))
  all_goals
    go_wp2_with fail
    go_end0
    exact ⟨rfl, ⟨_, _, H.out.2.1⟩, ((Fr.of (Below.refl _ _).drew).trans hb1).trans H.out.2.2⟩
end Go.Proofs.YtppabkllconkjaaGreatDoor.Med
/- The contracts of the methods that read a byte. -/
namespace Go.Proofs.YtppabkllconkjaaGreatDoor.Med
open Go.RowKit
set_option linter.unusedVariables false
set_option linter.unusedSimpArgs false
set_option maxRecDepth 100000
open Lab (RetS ret_str str str_size str_list str_eta str_inj u8v st_ixb info5 info_parts)
def StepE (w : World) (n₀ B : Nat) (r : Nat × St) (e : Ending) (w' : World) : Prop := e = .returned (.int .i64 (r.1 : Int)) ∧ RdS w' n₀ B r.2 ∧ Fr n₀ B w w'
theorem step_same {w w' : World} {n₀ B : Nat} {r q : Nat × St} {i : Int} (h : r = q) (hi : i = (q.1 : Int)) (hr : RdS w' n₀ B q.2) (hb : Fr n₀ B w w') : StepE w n₀ B r (.returned (.int .i64 i)) w' := by
  subst h; subst hi; exact ⟨rfl, hr, hb⟩
theorem ck_yes {c : Option UInt8} {b : UInt8} (h : c = some b) : (ck c == (b.toNat : Int)) = true := by subst h; simp [ck]
theorem ck_no {c : Option UInt8} {b : UInt8} (h : ¬ c = some b) : (ck c == (b.toNat : Int)) = false := by
  cases c with
  | none => simp [ck]
  | some d =>
    have : d ≠ b := fun e => h (by rw [e])
    have h2 : d.toNat ≠ b.toNat := fun e => this (UInt8.toNat_inj.1 e)
    simp [ck]; omega
theorem ck_end {c : Option UInt8} (h : c = none) : (ck c == (-1 : Int)) = true := by subst h; rfl
theorem ck_noend {c : Option UInt8} (h : ¬ c = none) : (ck c == (-1 : Int)) = false := by
  cases c with
  | none => exact absurd rfl h
  | some d => simp [ck]
set_option maxHeartbeats 1000000 in
theorem m_start (c : Option UInt8) (s : St) (n₀ B : Nat) (w : World) (h : RdS w n₀ B s) (hl : s.wd.length ≤ 1000000) (hp : s.ps.length ≤ 1000000) :
    Calls Tryz.prog 108 #[.pointer (some ⟨B, 0, none⟩), .int .i64 (ck c)] w fun e w' => StepE w n₀ B (stp 2 c s) e w' := by
  by_cases h2 : inS 2 c = true
  · have HI2 : Hid (∀ w, Calls Tryz.prog 143 #[.int .i64 (ck c), .int .i64 2] w fun e w' => e = .returned (.bool true) ∧ w' = w) := Lib.hid fun w => by
          have := isIn_2 c w
          rwa [h2] at this
    have HE : Hid (stp 2 c s = (2, s)) := Lib.hid (by simp [stp, h2])
    have HS := Lib.hid h
    obtain ⟨x, hx⟩ : ∃ x : Int, ck c = x := ⟨_, rfl⟩
    rw [hx] at HI2 ⊢
    clear h hx h2 hl hp
    go_enter Tryz.func108, Tryz.ntmps108
    go_wp2_with (first
      | (go_at_call 143; refine (HI2.out _).mono ?_; rintro _ w9 ⟨rfl, hw9⟩; subst w9))
    go_ret
    exact step_same HE.out rfl HS.out (Fr.refl _ _ _)
  · have h2 : inS 2 c = false := by simpa using h2
    have HI2 : Hid (∀ w, Calls Tryz.prog 143 #[.int .i64 (ck c), .int .i64 2] w fun e w' => e = .returned (.bool false) ∧ w' = w) := Lib.hid fun w => by
          have := isIn_2 c w
          rwa [h2] at this
    have HE : Hid (stp 2 c s = kp 12 3 c s) := Lib.hid (by simp [stp, h2])
    have HK : Hid (Calls Tryz.prog 144 #[.pointer (some ⟨B, 0, none⟩), .int .i64 (ck c), .int .i64 12, .int .i64 3] w fun e w' => StepE w n₀ B (kp 12 3 c s) e w') := Lib.hid (keep_any 12 3 (by decide) c s n₀ B w h hl)
    obtain ⟨r, hr⟩ : ∃ r, kp 12 3 c s = r := ⟨_, rfl⟩
    rw [hr] at HE HK
    clear hr
    have HS := Lib.hid h
    obtain ⟨x, hx⟩ : ∃ x : Int, ck c = x := ⟨_, rfl⟩
    rw [hx] at HI2 HK ⊢
    clear h hx h2 hl hp
    go_enter Tryz.func108, Tryz.ntmps108
    go_wp2_with (first
      | (go_at_call 143; refine (HI2.out _).mono ?_; rintro _ w9 ⟨rfl, hw9⟩; subst w9)
      | (go_at_call 144; refine HK.out.mono ?_; rintro _ w9 ⟨rfl, hr9, hb9⟩))
    go_ret
    exact step_same HE.out rfl hr9 hb9
set_option maxHeartbeats 1000000 in
theorem m_top (c : Option UInt8) (s : St) (n₀ B : Nat) (w : World) (h : RdS w n₀ B s) (hl : s.wd.length ≤ 1000000) (hp : s.ps.length ≤ 1000000) :
    Calls Tryz.prog 109 #[.pointer (some ⟨B, 0, none⟩), .int .i64 (ck c)] w fun e w' => StepE w n₀ B (stp 3 c s) e w' := by
  by_cases h7 : c = some 47
  · have HE : Hid (stp 3 c s = kp 32 4 c s) := Lib.hid (by simp [stp, h7])
    have HK : Hid (Calls Tryz.prog 144 #[.pointer (some ⟨B, 0, none⟩), .int .i64 (ck c), .int .i64 32, .int .i64 4] w fun e w' => StepE w n₀ B (kp 32 4 c s) e w') := Lib.hid (keep_any 32 4 (by decide) c s n₀ B w h hl)
    obtain ⟨r, hr⟩ : ∃ r, kp 32 4 c s = r := ⟨_, rfl⟩
    rw [hr] at HE HK
    clear hr
    have HS := Lib.hid h
    obtain ⟨x, hx⟩ : ∃ x : Int, ck c = x := ⟨_, rfl⟩
    have d1 : (x == 47) = true := by rw [← hx]; exact ck_yes h7
    rw [hx] at HK ⊢
    clear h hx h7 hl hp
    go_enter Tryz.func109, Tryz.ntmps109
    go_wp2_with (first
      | (go_at_call 144; refine HK.out.mono ?_; rintro _ w9 ⟨rfl, hr9, hb9⟩))
    go_ret
    exact step_same HE.out rfl hr9 hb9
  · have HE : Hid (stp 3 c s = kp 12 3 c s) := Lib.hid (by simp [stp, h7])
    have HK : Hid (Calls Tryz.prog 144 #[.pointer (some ⟨B, 0, none⟩), .int .i64 (ck c), .int .i64 12, .int .i64 3] w fun e w' => StepE w n₀ B (kp 12 3 c s) e w') := Lib.hid (keep_any 12 3 (by decide) c s n₀ B w h hl)
    obtain ⟨r, hr⟩ : ∃ r, kp 12 3 c s = r := ⟨_, rfl⟩
    rw [hr] at HE HK
    clear hr
    have HS := Lib.hid h
    obtain ⟨x, hx⟩ : ∃ x : Int, ck c = x := ⟨_, rfl⟩
    have d1 : (x == 47) = false := by rw [← hx]; exact ck_no h7
    rw [hx] at HK ⊢
    clear h hx h7 hl hp
    go_enter Tryz.func109, Tryz.ntmps109
    go_wp2_with (first
      | (go_at_call 144; refine HK.out.mono ?_; rintro _ w9 ⟨rfl, hr9, hb9⟩))
    go_ret
    exact step_same HE.out rfl hr9 hb9
set_option maxHeartbeats 1000000 in
theorem m_slashed (c : Option UInt8) (s : St) (n₀ B : Nat) (w : World) (h : RdS w n₀ B s) (hl : s.wd.length ≤ 1000000) (hp : s.ps.length ≤ 1000000) :
    Calls Tryz.prog 110 #[.pointer (some ⟨B, 0, none⟩), .int .i64 (ck c)] w fun e w' => StepE w n₀ B (stp 4 c s) e w' := by
  have HE : Hid (stp 4 c s = kp 12 5 c s) := Lib.hid (rfl)
  have HK : Hid (Calls Tryz.prog 144 #[.pointer (some ⟨B, 0, none⟩), .int .i64 (ck c), .int .i64 12, .int .i64 5] w fun e w' => StepE w n₀ B (kp 12 5 c s) e w') := Lib.hid (keep_any 12 5 (by decide) c s n₀ B w h hl)
  obtain ⟨r, hr⟩ : ∃ r, kp 12 5 c s = r := ⟨_, rfl⟩
  rw [hr] at HE HK
  clear hr
  have HS := Lib.hid h
  obtain ⟨x, hx⟩ : ∃ x : Int, ck c = x := ⟨_, rfl⟩
  rw [hx] at HK ⊢
  clear h hx hl hp
  go_enter Tryz.func110, Tryz.ntmps110
  go_wp2_with (first
    | (go_at_call 144; refine HK.out.mono ?_; rintro _ w9 ⟨rfl, hr9, hb9⟩))
  go_ret
  exact step_same HE.out rfl hr9 hb9
set_option maxHeartbeats 1000000 in
theorem m_opened (c : Option UInt8) (s : St) (n₀ B : Nat) (w : World) (h : RdS w n₀ B s) (hl : s.wd.length ≤ 1000000) (hp : s.ps.length ≤ 1000000) :
    Calls Tryz.prog 113 #[.pointer (some ⟨B, 0, none⟩), .int .i64 (ck c)] w fun e w' => StepE w n₀ B (stp 7 c s) e w' := by
  by_cases h0 : c = none
  · have HE : Hid (stp 7 c s = (1, s)) := Lib.hid (by simp [stp, h0])
    have HS := Lib.hid h
    obtain ⟨x, hx⟩ : ∃ x : Int, ck c = x := ⟨_, rfl⟩
    have d1 : (x == -1) = true := by rw [← hx]; exact ck_end h0
    rw [hx]
    clear h hx h0 hl hp
    go_enter Tryz.func113, Tryz.ntmps113
    go_wp2_with fail
    go_ret
    exact step_same HE.out rfl HS.out (Fr.refl _ _ _)
  by_cases h9 : c = some 59
  · have HE : Hid (stp 7 c s = (7, s)) := Lib.hid (by simp [stp, h0, h9])
    have HS := Lib.hid h
    obtain ⟨x, hx⟩ : ∃ x : Int, ck c = x := ⟨_, rfl⟩
    have d1 : (x == -1) = false := by rw [← hx]; exact ck_noend h0
    have d2 : (x == 59) = true := by rw [← hx]; exact ck_yes h9
    rw [hx]
    clear h hx h0 h9 hl hp
    go_enter Tryz.func113, Tryz.ntmps113
    go_wp2_with fail
    go_ret
    exact step_same HE.out rfl HS.out (Fr.refl _ _ _)
  by_cases h2 : inS 2 c = true
  · have HI2 : Hid (∀ w, Calls Tryz.prog 143 #[.int .i64 (ck c), .int .i64 2] w fun e w' => e = .returned (.bool true) ∧ w' = w) := Lib.hid fun w => by
          have := isIn_2 c w
          rwa [h2] at this
    have HE : Hid (stp 7 c s = (7, s)) := Lib.hid (by simp [stp, h0, h9, h2])
    have HS := Lib.hid h
    obtain ⟨x, hx⟩ : ∃ x : Int, ck c = x := ⟨_, rfl⟩
    have d1 : (x == -1) = false := by rw [← hx]; exact ck_noend h0
    have d2 : (x == 59) = false := by rw [← hx]; exact ck_no h9
    rw [hx] at HI2 ⊢
    clear h hx h0 h9 h2 hl hp
    go_enter Tryz.func113, Tryz.ntmps113
    go_wp2_with (first
      | (go_at_call 143; refine (HI2.out _).mono ?_; rintro _ w9 ⟨rfl, hw9⟩; subst w9))
    go_ret
    exact step_same HE.out rfl HS.out (Fr.refl _ _ _)
  · have h2 : inS 2 c = false := by simpa using h2
    have HI2 : Hid (∀ w, Calls Tryz.prog 143 #[.int .i64 (ck c), .int .i64 2] w fun e w' => e = .returned (.bool false) ∧ w' = w) := Lib.hid fun w => by
          have := isIn_2 c w
          rwa [h2] at this
    have HE : Hid (stp 7 c s = kp 12 8 c s) := Lib.hid (by simp [stp, h0, h9, h2])
    have HK : Hid (Calls Tryz.prog 144 #[.pointer (some ⟨B, 0, none⟩), .int .i64 (ck c), .int .i64 12, .int .i64 8] w fun e w' => StepE w n₀ B (kp 12 8 c s) e w') := Lib.hid (keep_any 12 8 (by decide) c s n₀ B w h hl)
    obtain ⟨r, hr⟩ : ∃ r, kp 12 8 c s = r := ⟨_, rfl⟩
    rw [hr] at HE HK
    clear hr
    have HS := Lib.hid h
    obtain ⟨x, hx⟩ : ∃ x : Int, ck c = x := ⟨_, rfl⟩
    have d1 : (x == -1) = false := by rw [← hx]; exact ck_noend h0
    have d2 : (x == 59) = false := by rw [← hx]; exact ck_no h9
    rw [hx] at HI2 HK ⊢
    clear h hx h0 h9 h2 hl hp
    go_enter Tryz.func113, Tryz.ntmps113
    go_wp2_with (first
      | (go_at_call 143; refine (HI2.out _).mono ?_; rintro _ w9 ⟨rfl, hw9⟩; subst w9)
      | (go_at_call 144; refine HK.out.mono ?_; rintro _ w9 ⟨rfl, hr9, hb9⟩))
    go_ret
    exact step_same HE.out rfl hr9 hb9
set_option maxHeartbeats 1000000 in
theorem m_assigned (c : Option UInt8) (s : St) (n₀ B : Nat) (w : World) (h : RdS w n₀ B s) (hl : s.wd.length ≤ 1000000) (hp : s.ps.length ≤ 1000000) :
    Calls Tryz.prog 115 #[.pointer (some ⟨B, 0, none⟩), .int .i64 (ck c)] w fun e w' => StepE w n₀ B (stp 9 c s) e w' := by
  by_cases h4 : c = some 34
  · have HE : Hid (stp 9 c s = (11, s)) := Lib.hid (by simp [stp, h4])
    have HS := Lib.hid h
    obtain ⟨x, hx⟩ : ∃ x : Int, ck c = x := ⟨_, rfl⟩
    have d1 : (x == 34) = true := by rw [← hx]; exact ck_yes h4
    rw [hx]
    clear h hx h4 hl hp
    go_enter Tryz.func115, Tryz.ntmps115
    go_wp2_with fail
    go_ret
    exact step_same HE.out rfl HS.out (Fr.refl _ _ _)
  · have HE : Hid (stp 9 c s = kp 12 10 c s) := Lib.hid (by simp [stp, h4])
    have HK : Hid (Calls Tryz.prog 144 #[.pointer (some ⟨B, 0, none⟩), .int .i64 (ck c), .int .i64 12, .int .i64 10] w fun e w' => StepE w n₀ B (kp 12 10 c s) e w') := Lib.hid (keep_any 12 10 (by decide) c s n₀ B w h hl)
    obtain ⟨r, hr⟩ : ∃ r, kp 12 10 c s = r := ⟨_, rfl⟩
    rw [hr] at HE HK
    clear hr
    have HS := Lib.hid h
    obtain ⟨x, hx⟩ : ∃ x : Int, ck c = x := ⟨_, rfl⟩
    have d1 : (x == 34) = false := by rw [← hx]; exact ck_no h4
    rw [hx] at HK ⊢
    clear h hx h4 hl hp
    go_enter Tryz.func115, Tryz.ntmps115
    go_wp2_with (first
      | (go_at_call 144; refine HK.out.mono ?_; rintro _ w9 ⟨rfl, hr9, hb9⟩))
    go_ret
    exact step_same HE.out rfl hr9 hb9
set_option maxHeartbeats 1000000 in
theorem m_escaped (c : Option UInt8) (s : St) (n₀ B : Nat) (w : World) (h : RdS w n₀ B s) (hl : s.wd.length ≤ 1000000) (hp : s.ps.length ≤ 1000000) :
    Calls Tryz.prog 118 #[.pointer (some ⟨B, 0, none⟩), .int .i64 (ck c)] w fun e w' => StepE w n₀ B (stp 12 c s) e w' := by
  have HE : Hid (stp 12 c s = kp 62 11 c s) := Lib.hid (rfl)
  have HK : Hid (Calls Tryz.prog 144 #[.pointer (some ⟨B, 0, none⟩), .int .i64 (ck c), .int .i64 62, .int .i64 11] w fun e w' => StepE w n₀ B (kp 62 11 c s) e w') := Lib.hid (keep_any 62 11 (by decide) c s n₀ B w h hl)
  obtain ⟨r, hr⟩ : ∃ r, kp 62 11 c s = r := ⟨_, rfl⟩
  rw [hr] at HE HK
  clear hr
  have HS := Lib.hid h
  obtain ⟨x, hx⟩ : ∃ x : Int, ck c = x := ⟨_, rfl⟩
  rw [hx] at HK ⊢
  clear h hx hl hp
  go_enter Tryz.func118, Tryz.ntmps118
  go_wp2_with (first
    | (go_at_call 144; refine HK.out.mono ?_; rintro _ w9 ⟨rfl, hr9, hb9⟩))
  go_ret
  exact step_same HE.out rfl hr9 hb9
end Go.Proofs.YtppabkllconkjaaGreatDoor.Med
/- The contracts of the methods that read a byte and end a word. -/
namespace Go.Proofs.YtppabkllconkjaaGreatDoor.Med
open Go.RowKit
set_option linter.unusedVariables false
set_option linter.unusedSimpArgs false
set_option maxRecDepth 100000
open Lab (RetS ret_str str str_size str_list str_eta str_inj u8v st_ixb info5 info_parts)
theorem m_behind (c : Option UInt8) (B : Nat) (w : World) : Calls Tryz.prog 112 #[.pointer (some ⟨B, 0, none⟩), .int .i64 (ck c)] w fun e w' => e = .returned (.int .i64 (beh c : Int)) ∧ w' = w := by
  by_cases h0 : c = none
  · have HE : Hid (beh c = 1) := Lib.hid (by simp [beh, h0])
    obtain ⟨x, hx⟩ : ∃ x : Int, ck c = x := ⟨_, rfl⟩
    have d1 : (x == -1) = true := by rw [← hx]; exact ck_end h0
    rw [hx]
    clear h0 hx
    go_enter Tryz.func112, Tryz.ntmps112
    go_wp2_with fail
    go_ret
    exact ⟨by rw [HE.out]; rfl, rfl⟩
  by_cases h9 : c = some 59
  · have HE : Hid (beh c = 7) := Lib.hid (by simp [beh, h0, h9])
    obtain ⟨x, hx⟩ : ∃ x : Int, ck c = x := ⟨_, rfl⟩
    have d1 : (x == -1) = false := by rw [← hx]; exact ck_noend h0
    have d2 : (x == 59) = true := by rw [← hx]; exact ck_yes h9
    rw [hx]
    clear h0 h9 hx
    go_enter Tryz.func112, Tryz.ntmps112
    go_wp2_with fail
    go_ret
    exact ⟨by rw [HE.out]; rfl, rfl⟩
  obtain ⟨b, hb⟩ : ∃ b, inS 2 c = b := ⟨_, rfl⟩
  have HI2 : Hid (∀ w, Calls Tryz.prog 143 #[.int .i64 (ck c), .int .i64 2] w fun e w' => e = .returned (.bool b) ∧ w' = w) := Lib.hid fun w => by
    have := isIn_2 c w
    rwa [hb] at this
  have HE : Hid (beh c = if b = true then 6 else 0) := Lib.hid (by simp [beh, h0, h9, hb])
  obtain ⟨x, hx⟩ : ∃ x : Int, ck c = x := ⟨_, rfl⟩
  have d1 : (x == -1) = false := by rw [← hx]; exact ck_noend h0
  have d2 : (x == 59) = false := by rw [← hx]; exact ck_no h9
  rw [hx] at HI2 ⊢
  clear h0 h9 hx hb
  cases b with
  | true =>
    go_enter Tryz.func112, Tryz.ntmps112
    go_wp2_with (go_at_call 143; refine (HI2.out _).mono ?_; rintro _ w9 ⟨rfl, hw9⟩; subst w9)
    go_ret
    exact ⟨by rw [HE.out]; rfl, rfl⟩
  | false =>
    go_enter Tryz.func112, Tryz.ntmps112
    go_wp2_with (go_at_call 143; refine (HI2.out _).mono ?_; rintro _ w9 ⟨rfl, hw9⟩; subst w9)
    go_ret
    exact ⟨by rw [HE.out]; rfl, rfl⟩
theorem str_max {l : List UInt8} (h : l.length ≤ 1000000) : (str l).size ≤ maxLen := by rw [str_size]; unfold maxLen; omega
set_option maxHeartbeats 1000000 in
theorem m_sub (c : Option UInt8) (s : St) (n₀ B : Nat) (w : World) (h : RdS w n₀ B s) (hl : s.wd.length ≤ 1000000) (hp : s.ps.length ≤ 1000000) :
    Calls Tryz.prog 111 #[.pointer (some ⟨B, 0, none⟩), .int .i64 (ck c)] w fun e w' => StepE w n₀ B (stp 5 c s) e w' := by
  by_cases h2 : inS 12 c = true
  · have HI12 : Hid (∀ w, Calls Tryz.prog 143 #[.int .i64 (ck c), .int .i64 12] w fun e w' => e = .returned (.bool true) ∧ w' = w) := Lib.hid fun w => by
      have := isIn_12 c w
      rwa [h2] at this
    have HE : Hid (stp 5 c s = kp 12 5 c s) := Lib.hid (by simp [stp, h2])
    have HK : Hid (Calls Tryz.prog 144 #[.pointer (some ⟨B, 0, none⟩), .int .i64 (ck c), .int .i64 12, .int .i64 5] w fun e w' => StepE w n₀ B (kp 12 5 c s) e w') := Lib.hid (keep_any 12 5 (by decide) c s n₀ B w h hl)
    obtain ⟨r, hr⟩ : ∃ r, kp 12 5 c s = r := ⟨_, rfl⟩
    rw [hr] at HE HK
    obtain ⟨x, hx⟩ : ∃ x : Int, ck c = x := ⟨_, rfl⟩
    rw [hx] at HI12 HK ⊢
    clear h hx hr h2 hl hp
    go_enter Tryz.func111, Tryz.ntmps111
    go_wp2_with (first
      | (go_at_call 143; refine (HI12.out _).mono ?_; rintro _ w9 ⟨rfl, hw9⟩; subst w9)
      | (go_at_call 144; refine HK.out.mono ?_; rintro _ w9 ⟨rfl, hr9, hb9⟩))
    go_ret
    exact step_same HE.out rfl hr9 hb9
  · have h2 : inS 12 c = false := by simpa using h2
    have HI12 : Hid (∀ w, Calls Tryz.prog 143 #[.int .i64 (ck c), .int .i64 12] w fun e w' => e = .returned (.bool false) ∧ w' = w) := Lib.hid fun w => by
      have := isIn_12 c w
      rwa [h2] at this
    have HE : Hid (stp 5 c s = (beh c, ⟨lwr s.wd, s.ps, []⟩)) := Lib.hid (by simp [stp, h2])
    obtain ⟨u, v, hr⟩ := h
    have HT := Lib.hid (take_any s n₀ B u v w hr)
    have HL : Hid (∀ w, Calls Tryz.prog 145 #[.string (str s.wd)] w fun e w' => RetS (lwr s.wd) w e w') := Lib.hid fun w => mlower_any _ w (str_max hl)
    have HB : Hid (∀ w, Calls Tryz.prog 112 #[.pointer (some ⟨B, 0, none⟩), .int .i64 (ck c)] w fun e w' => e = .returned (.int .i64 (beh c : Int)) ∧ w' = w) := Lib.hid fun w => m_behind c B w
    obtain ⟨x, hx⟩ : ∃ x : Int, ck c = x := ⟨_, rfl⟩
    rw [hx] at HI12 HB ⊢
    clear h2 hl hp hr hx
    go_enter Tryz.func111, Tryz.ntmps111
    go_wp2_with (first
      | (go_at_call 143; refine (HI12.out _).mono ?_; rintro _ w9 ⟨rfl, hw9⟩; subst w9)
      | (go_at_call 146; refine HT.out.mono ?_; rintro _ w1 ⟨rfl, ⟨v1, h1⟩, hb1, _, _⟩)
      | (go_at_call 145; refine (HL.out _).mono ?_; rintro _ w2 ⟨rfl, hb2⟩; have h2 := h1.below hb2; have c0 := h2.c0; have f0 := h2.fz 0; have H := Lib.hid (h2.setT (lwr s.wd)))
      | (go_at_call 112; refine (HB.out _).mono ?_; rintro _ w9 ⟨rfl, hw9⟩; subst w9))
    go_ret
    exact step_same HE.out rfl ⟨_, _, H.out.1⟩ ((hb1.trans (Fr.of' hb2 h1.sz)).trans H.out.2)
set_option maxHeartbeats 1000000 in
theorem m_worded (c : Option UInt8) (s : St) (n₀ B : Nat) (w : World) (h : RdS w n₀ B s) (hl : s.wd.length ≤ 1000000) (hp : s.ps.length ≤ 1000000) (hne : s.ps ≠ []) :
    Calls Tryz.prog 116 #[.pointer (some ⟨B, 0, none⟩), .int .i64 (ck c)] w fun e w' => StepE w n₀ B (stp 10 c s) e w' := by
  by_cases h2 : inS 12 c = true
  · have HI12 : Hid (∀ w, Calls Tryz.prog 143 #[.int .i64 (ck c), .int .i64 12] w fun e w' => e = .returned (.bool true) ∧ w' = w) := Lib.hid fun w => by
      have := isIn_12 c w
      rwa [h2] at this
    have HE : Hid (stp 10 c s = kp 12 10 c s) := Lib.hid (by simp [stp, h2])
    have HK : Hid (Calls Tryz.prog 144 #[.pointer (some ⟨B, 0, none⟩), .int .i64 (ck c), .int .i64 12, .int .i64 10] w fun e w' => StepE w n₀ B (kp 12 10 c s) e w') := Lib.hid (keep_any 12 10 (by decide) c s n₀ B w h hl)
    obtain ⟨r, hr⟩ : ∃ r, kp 12 10 c s = r := ⟨_, rfl⟩
    rw [hr] at HE HK
    obtain ⟨x, hx⟩ : ∃ x : Int, ck c = x := ⟨_, rfl⟩
    rw [hx] at HI12 HK ⊢
    clear h hx hr h2 hl hp hne
    go_enter Tryz.func116, Tryz.ntmps116
    go_wp2_with (first
      | (go_at_call 143; refine (HI12.out _).mono ?_; rintro _ w9 ⟨rfl, hw9⟩; subst w9)
      | (go_at_call 144; refine HK.out.mono ?_; rintro _ w9 ⟨rfl, hr9, hb9⟩))
    go_ret
    exact step_same HE.out rfl hr9 hb9
  · have h2 : inS 12 c = false := by simpa using h2
    have HI12 : Hid (∀ w, Calls Tryz.prog 143 #[.int .i64 (ck c), .int .i64 12] w fun e w' => e = .returned (.bool false) ∧ w' = w) := Lib.hid fun w => by
      have := isIn_12 c w
      rwa [h2] at this
    have HE : Hid (stp 10 c s = (beh c, vl s)) := Lib.hid (by simp [stp, h2])
    have HV := Lib.hid (value_any s n₀ B w h hne hp)
    have HB : Hid (∀ w, Calls Tryz.prog 112 #[.pointer (some ⟨B, 0, none⟩), .int .i64 (ck c)] w fun e w' => e = .returned (.int .i64 (beh c : Int)) ∧ w' = w) := Lib.hid fun w => m_behind c B w
    obtain ⟨x, hx⟩ : ∃ x : Int, ck c = x := ⟨_, rfl⟩
    rw [hx] at HI12 HB ⊢
    clear h2 hl hp h hx hne
    go_enter Tryz.func116, Tryz.ntmps116
    go_wp2_with (first
      | (go_at_call 143; refine (HI12.out _).mono ?_; rintro _ w9 ⟨rfl, hw9⟩; subst w9)
      | (go_at_call 147; refine HV.out.mono ?_; rintro _ w1 ⟨rfl, h1, hb1⟩)
      | (go_at_call 112; refine (HB.out _).mono ?_; rintro _ w9 ⟨rfl, hw9⟩; subst w9))
    go_ret
    exact step_same HE.out rfl h1 hb1
set_option maxHeartbeats 1000000 in
theorem m_quoted (c : Option UInt8) (s : St) (n₀ B : Nat) (w : World) (h : RdS w n₀ B s) (hl : s.wd.length ≤ 1000000) (hp : s.ps.length ≤ 1000000) (hne : s.ps ≠ []) :
    Calls Tryz.prog 117 #[.pointer (some ⟨B, 0, none⟩), .int .i64 (ck c)] w fun e w' => StepE w n₀ B (stp 11 c s) e w' := by
  by_cases h4 : c = some 34
  · have HE : Hid (stp 11 c s = (6, vl s)) := Lib.hid (by simp [stp, h4])
    have HV := Lib.hid (value_any s n₀ B w h hne hp)
    obtain ⟨x, hx⟩ : ∃ x : Int, ck c = x := ⟨_, rfl⟩
    have d1 : (x == 34) = true := by rw [← hx]; exact ck_yes h4
    rw [hx]
    clear h4 hl hp h hx hne
    go_enter Tryz.func117, Tryz.ntmps117
    go_wp2_with (first
      | (go_at_call 147; refine HV.out.mono ?_; rintro _ w1 ⟨rfl, h1, hb1⟩))
    go_ret
    exact step_same HE.out rfl h1 hb1
  by_cases h9 : c = some 92
  · have HE : Hid (stp 11 c s = (12, s)) := Lib.hid (by simp [stp, h9])
    have HS := Lib.hid h
    obtain ⟨x, hx⟩ : ∃ x : Int, ck c = x := ⟨_, rfl⟩
    have d1 : (x == 34) = false := by rw [← hx]; exact ck_no h4
    have d2 : (x == 92) = true := by rw [← hx]; exact ck_yes h9
    rw [hx]
    clear h4 h9 hl hp h hx hne
    go_enter Tryz.func117, Tryz.ntmps117
    go_wp2_with fail
    go_ret
    exact step_same HE.out rfl HS.out (Fr.refl _ _ _)
  · have HE : Hid (stp 11 c s = kp 110 11 c s) := Lib.hid (by simp [stp, h4, h9])
    have HK : Hid (Calls Tryz.prog 144 #[.pointer (some ⟨B, 0, none⟩), .int .i64 (ck c), .int .i64 110, .int .i64 11] w fun e w' => StepE w n₀ B (kp 110 11 c s) e w') := Lib.hid (keep_any 110 11 (by decide) c s n₀ B w h hl)
    obtain ⟨r, hr⟩ : ∃ r, kp 110 11 c s = r := ⟨_, rfl⟩
    rw [hr] at HE HK
    obtain ⟨x, hx⟩ : ∃ x : Int, ck c = x := ⟨_, rfl⟩
    have d1 : (x == 34) = false := by rw [← hx]; exact ck_no h4
    have d2 : (x == 92) = false := by rw [← hx]; exact ck_no h9
    rw [hx] at HK ⊢
    clear h4 h9 hl hp h hx hne hr
    go_enter Tryz.func117, Tryz.ntmps117
    go_wp2_with (first
      | (go_at_call 144; refine HK.out.mono ?_; rintro _ w9 ⟨rfl, hr9, hb9⟩))
    go_ret
    exact step_same HE.out rfl hr9 hb9
end Go.Proofs.YtppabkllconkjaaGreatDoor.Med
/- The contract of the method that reads a parameter's name. -/
namespace Go.Proofs.YtppabkllconkjaaGreatDoor.Med
open Go.RowKit
set_option linter.unusedVariables false
set_option linter.unusedSimpArgs false
set_option maxRecDepth 100000
open Lab (RetS ret_str str str_size str_list str_eta str_inj u8v st_ixb info5 info_parts)
theorem info48 : (Tryz.prog.info? 92).map (fun i => (i.zero, i.size, i.bytes)) = some (some (.agg #[.string ⟨#[]⟩, .string ⟨#[]⟩]), 2, 32) := by kernel_rfl
theorem Rd.appP {w w1 : World} {n₀ B : Nat} {s : St} {u v : Value} {tmp : Obj} {u1 : Value} {p : Par} (h : Rd w n₀ B s u v) (hown : w1.ownsRow n₀ 92 2 u1 (s.ps.length + 1) (cellsP s.ps ++ [.string (str p.1), .string (str p.2)])) (hg : (w.alloc tmp).grownBy w1 u.ownBlock) :
    (w1.cell? ⟨B, 1, none⟩ = some u ∧ w1.frozen? ⟨B, 1, none⟩ = false) ∧ Rd (w1.setCell ⟨B, 1, none⟩ u1) n₀ B ⟨s.ty, s.ps ++ [p], s.wd⟩ u1 v ∧ Fr n₀ B w (w1.setCell ⟨B, 1, none⟩ u1) := by
  have hsz := h.sz
  have b1 : Blk w1 B #[.string (str s.ty), u, v] 118 := blk_kept (h.blk.alloc tmp) hg (not_row (h.blk.alloc tmp) (by decide) (h.pr.alloc tmp))
  have p1 : w1.ownsRow n₀ 5 1 v s.wd.length (s.wd.map u8v) := (h.wr.alloc tmp).kept hg (rows_apart (by decide) (h.wr.alloc tmp) (h.pr.alloc tmp))
  have g1 : w.heap.size + 1 ≤ w1.heap.size := by have := hg.size; simpa using this
  refine ⟨⟨by rw [b1.cell]; rfl, b1.froz 1⟩, ⟨b1.set (by simp), ?_, own_set p1 b1 (by decide) _ _, by simp [World.setCell]; omega⟩, ?_⟩
  · have := own_set hown b1 (by decide) 1 u1
    simpa [cellsP] using this
  · exact (Fr.of (((Below.refl n₀ w).alloc hsz tmp).grown hg (by simp; omega) (fun k e => (World.ownsRow.lt h.pr k e).1))).setB _ _
set_option maxHeartbeats 2000000 in
theorem m_named (c : Option UInt8) (s : St) (n₀ B : Nat) (w : World) (h : RdS w n₀ B s) (hl : s.wd.length ≤ 1000000) (hp : s.ps.length ≤ 1000000) :
    Calls Tryz.prog 114 #[.pointer (some ⟨B, 0, none⟩), .int .i64 (ck c)] w fun e w' => StepE w n₀ B (stp 8 c s) e w' := by
  by_cases h6 : c = some 61
  · have HE : Hid (stp 8 c s = (9, ⟨s.ty, s.ps ++ [(lwr s.wd, [])], []⟩)) := Lib.hid (by simp [stp, h6])
    obtain ⟨u, v, hr⟩ := h
    have HT := Lib.hid fun w u v h => take_any s n₀ B u v w h
    have HL : Hid (∀ w, Calls Tryz.prog 145 #[.string (str s.wd)] w fun e w' => RetS (lwr s.wd) w e w') := Lib.hid fun w => mlower_any _ w (str_max hl)
    obtain ⟨i0, hi, hz0, hz1, hz2⟩ := info_parts info48
    have c1 := hr.c1
    have HR := Lib.hid hr
    obtain ⟨n, hn⟩ : ∃ n, s.ps.length = n := ⟨_, rfl⟩
    have HN := Lib.hid hn
    rw [hn] at hp
    have HA : Hid (∀ w2 v1, Rd w2 n₀ B ⟨s.ty, s.ps, []⟩ u v1 → w2.ownsRow n₀ 92 2 u n (cellsP s.ps) ∧ n₀ ≤ w2.heap.size ∧ ∀ tmp w3 g cap, w3.ownsRow n₀ 92 2 (.slice (some ⟨g, 0, none⟩) (n + 1) cap) (n + 1) (cellsP s.ps ++ [.string (str (lwr s.wd)), .string ⟨#[]⟩]) → (w2.alloc tmp).grownBy w3 u.ownBlock →
        (w3.cell? ⟨B, 1, none⟩ = some u ∧ w3.frozen? ⟨B, 1, none⟩ = false) ∧ Rd (w3.setCell ⟨B, 1, none⟩ (.slice (some ⟨g, 0, none⟩) (n + 1) cap)) n₀ B ⟨s.ty, s.ps ++ [(lwr s.wd, [])], []⟩ (.slice (some ⟨g, 0, none⟩) (n + 1) cap) v1 ∧ Fr n₀ B w2 (w3.setCell ⟨B, 1, none⟩ (.slice (some ⟨g, 0, none⟩) (n + 1) cap))) := Lib.hid fun w2 v1 h2 => by
      have hpr := h2.pr
      simp only [hn] at hpr
      exact ⟨hpr, h2.sz, fun tmp w3 g cap h3 h4 => Rd.appP (p := (lwr s.wd, [])) h2 (by simp only [hn]; exact h3) h4⟩
    obtain ⟨x, hx⟩ : ∃ x : Int, ck c = x := ⟨_, rfl⟩
    have d1 : (x != 61) = false := by rw [← hx]; simpa using ck_yes h6
    rw [hx]
    clear h6 hl hr hx hn
    go_enter Tryz.func114, Tryz.ntmps114
    go_wp2_with fail
    go_region_law (first
      | (refine step_append_lies _ (by rfl) _ _ _ (by rfl) n₀ 92 i0 _ 2 32 Tryz.underlying55 hi hz0 hz1 hz2 rfl (by omega) u n (cellsP s.ps) (by rfl) (World.ownsRow.alloc (HA.out _ _ h2).1 _)
            ⟨w2.heap.size, 0, none⟩ 1 1 [.string (str (lwr s.wd)), .string ⟨#[]⟩] (by rfl) (by rfl) (World.news_of_block (t := 92) (fr := (0, 0)) (heap_alloc_new w2 _)) (by simp [Value.oneCell'])
            (by omega) (by unfold maxLen; omega) (by omega) (by have := (HA.out _ _ h2).2.1; simp; omega) (w2.heap.size + 1) (by simp) ?_; intro g3 cap3 w3 hown3 hgrow3 hat3 hlt3; have H := Lib.hid ((HA.out _ _ h2).2.2 _ _ _ _ hown3 hgrow3); have c3 := H.out.1.1; have f3 := H.out.1.2)
      | (go_simp; go_at_call 146; refine (HT.out _ _ _ (HR.out.below ((Below.refl _ w).drew))).mono ?_; rintro _ w1 ⟨rfl, ⟨v1, h1⟩, hb1, _, _⟩; have cc1 := h1.c1)
      | (go_simp; go_at_call 145; refine (HL.out _).mono ?_; rintro _ w2 ⟨rfl, hb2⟩; have h2 := h1.below hb2; have cc2 := h2.c1; have cc3 := (h2.below ((Below.refl _ _).alloc (Nat.le_refl _) (Obj.cells #[.string (str (lwr s.wd)), .string ⟨#[]⟩] 92))).c1))
    all_goals
      go_wp2_with fail
      go_ret
      exact step_same HE.out rfl ⟨_, _, H.out.2.1⟩ ((((Fr.of (Below.refl _ _).drew).trans hb1).trans (Fr.of' hb2 h1.sz)).trans H.out.2.2)
  · have HE : Hid (stp 8 c s = kp 12 8 c s) := Lib.hid (by simp [stp, h6])
    have HK : Hid (Calls Tryz.prog 144 #[.pointer (some ⟨B, 0, none⟩), .int .i64 (ck c), .int .i64 12, .int .i64 8] w fun e w' => StepE w n₀ B (kp 12 8 c s) e w') := Lib.hid (keep_any 12 8 (by decide) c s n₀ B w h hl)
    obtain ⟨r, hr⟩ : ∃ r, kp 12 8 c s = r := ⟨_, rfl⟩
    rw [hr] at HE HK
    obtain ⟨x, hx⟩ : ∃ x : Int, ck c = x := ⟨_, rfl⟩
    have d1 : (x != 61) = true := by rw [← hx]; simpa using ck_no h6
    rw [hx] at HK ⊢
    clear h hx hr h6 hl hp
    go_enter Tryz.func114, Tryz.ntmps114
    go_wp2_with (first
      | (go_at_call 144; refine HK.out.mono ?_; rintro _ w9 ⟨rfl, hr9, hb9⟩))
    go_ret
    exact step_same HE.out rfl hr9 hb9
end Go.Proofs.YtppabkllconkjaaGreatDoor.Med
/- The map of what reads a byte at a place. -/
namespace Go.Proofs.YtppabkllconkjaaGreatDoor.Med
open Go.RowKit
set_option linter.unusedVariables false
set_option linter.unusedSimpArgs false
set_option maxRecDepth 100000
open Lab (RetS ret_str str str_size str_list str_eta str_inj u8v st_ixb info5 info_parts)
section
open Go.Maps
/-- A map literal's entry at the operation. -/
theorem wpList_insert_own {H : Type} {P : Program} (w : World) {ops : Array Oper} {rest : List Oper} {o : Oper} {a : Act} {Q : Exit → Act → World → Prop}
    (hg : o.guard = none) (m x v : Operand) (t : TypeId) (hop : o.op = Op.insert t m x v)
    (k e : TypeId) (K : Keyed P k) (ht : P.underlying t = some (.map k e)) (R : Value → Option (DataW H × List MemPlace)) (b n : Nat) (D : DataW H)
    (hm : a.eval m = .map (some b)) (hown : w.ownsMap P k R b n D) (hn : n < maxLen) (key val : Value) (kl : Lit) (hx : a.eval x = key) (hv : a.eval v = val) (hkey : keyOf P k key = some kl)
    (d : DataW H) (ps : List MemPlace) (hval : R val = some (d, ps))
    (hK : ∀ w', w'.ownsMap P k R b (n + 1) (D.put kl d) → w.grownBy w' (some b) → wpList P ops Q rest (a.put o.dst undef) w') :
    wpList P ops Q (o :: rest) a w := by
  refine wpList_plain hg fun K' hK' => ?_
  obtain ⟨w', hrun, r1, r2⟩ := hown.update K ht hn hkey hval
  unfold Oper.wp
  simp [execOp, hop, hm, hx, hv, hrun, Result.andThen]
  exact hK' _ _ (hK w' r1 r2)
/-- A function value among a map's elements reads as itself. -/
def fnR (v : Value) : Option (DataW Value × List MemPlace) := some (.held v, [])
end
open Go.Maps
theorem lawI64 : Keyed Tryz.prog 3 := int_keyed (q := .i64) Tryz.underlying3
/-- What reads a byte at a place. -/
def fnV (B : Nat) (f : Nat) : Value := .func (.func f) #[.pointer (some ⟨B, 0, none⟩)] #[]

def mapD (B : Nat) : DataW Value := (((((((((((DataW.map []).put (.int .i64 2) (.held (fnV B 108))).put (.int .i64 3) (.held (fnV B 109))).put (.int .i64 4) (.held (fnV B 110))).put (.int .i64 5) (.held (fnV B 111))).put (.int .i64 6) (.held (fnV B 112))).put (.int .i64 7) (.held (fnV B 113))).put (.int .i64 8) (.held (fnV B 114))).put (.int .i64 9) (.held (fnV B 115))).put (.int .i64 10) (.held (fnV B 116))).put (.int .i64 11) (.held (fnV B 117))).put (.int .i64 12) (.held (fnV B 118))
set_option maxHeartbeats 4000000 in
theorem reads_own (B : Nat) (w : World) : Calls Tryz.prog 79 #[.pointer (some ⟨B, 0, none⟩)] w fun e w' => ∃ g, e = .returned (.map (some g)) ∧ w.heap.size ≤ g ∧
    w'.ownsMap Tryz.prog 3 fnR g 11 (mapD B) ∧ Below w.heap.size w w' := by
  have hmm := @run_makeMap Tryz.prog
  go_enter Tryz.func79, Tryz.ntmps79
  go_wp2_with (first
    | (refine wpList_insert_own _ rfl _ _ _ 119 rfl 3 121 lawI64 Tryz.underlying119 fnR w.heap.size 0 (DataW.map []) rfl (World.ownsMap_made _ _ _ _) (by unfold maxLen; omega) (.int .i64 2) (fnV B 108) (.int .i64 2) rfl rfl (keyOf_int_mk Tryz.underlying3 (by decide)) _ _ rfl ?_; intro w0 hown0 hgrow0)
    | (refine wpList_insert_own _ rfl _ _ _ 119 rfl 3 121 lawI64 Tryz.underlying119 fnR w.heap.size 1 ((DataW.map []).put (.int .i64 2) (.held (fnV B 108))) rfl hown0 (by unfold maxLen; omega) (.int .i64 3) (fnV B 109) (.int .i64 3) rfl rfl (keyOf_int_mk Tryz.underlying3 (by decide)) _ _ rfl ?_; intro w1 hown1 hgrow1)
    | (refine wpList_insert_own _ rfl _ _ _ 119 rfl 3 121 lawI64 Tryz.underlying119 fnR w.heap.size 2 (((DataW.map []).put (.int .i64 2) (.held (fnV B 108))).put (.int .i64 3) (.held (fnV B 109))) rfl hown1 (by unfold maxLen; omega) (.int .i64 4) (fnV B 110) (.int .i64 4) rfl rfl (keyOf_int_mk Tryz.underlying3 (by decide)) _ _ rfl ?_; intro w2 hown2 hgrow2)
    | (refine wpList_insert_own _ rfl _ _ _ 119 rfl 3 121 lawI64 Tryz.underlying119 fnR w.heap.size 3 ((((DataW.map []).put (.int .i64 2) (.held (fnV B 108))).put (.int .i64 3) (.held (fnV B 109))).put (.int .i64 4) (.held (fnV B 110))) rfl hown2 (by unfold maxLen; omega) (.int .i64 5) (fnV B 111) (.int .i64 5) rfl rfl (keyOf_int_mk Tryz.underlying3 (by decide)) _ _ rfl ?_; intro w3 hown3 hgrow3)
    | (refine wpList_insert_own _ rfl _ _ _ 119 rfl 3 121 lawI64 Tryz.underlying119 fnR w.heap.size 4 (((((DataW.map []).put (.int .i64 2) (.held (fnV B 108))).put (.int .i64 3) (.held (fnV B 109))).put (.int .i64 4) (.held (fnV B 110))).put (.int .i64 5) (.held (fnV B 111))) rfl hown3 (by unfold maxLen; omega) (.int .i64 6) (fnV B 112) (.int .i64 6) rfl rfl (keyOf_int_mk Tryz.underlying3 (by decide)) _ _ rfl ?_; intro w4 hown4 hgrow4)
    | (refine wpList_insert_own _ rfl _ _ _ 119 rfl 3 121 lawI64 Tryz.underlying119 fnR w.heap.size 5 ((((((DataW.map []).put (.int .i64 2) (.held (fnV B 108))).put (.int .i64 3) (.held (fnV B 109))).put (.int .i64 4) (.held (fnV B 110))).put (.int .i64 5) (.held (fnV B 111))).put (.int .i64 6) (.held (fnV B 112))) rfl hown4 (by unfold maxLen; omega) (.int .i64 7) (fnV B 113) (.int .i64 7) rfl rfl (keyOf_int_mk Tryz.underlying3 (by decide)) _ _ rfl ?_; intro w5 hown5 hgrow5)
    | (refine wpList_insert_own _ rfl _ _ _ 119 rfl 3 121 lawI64 Tryz.underlying119 fnR w.heap.size 6 (((((((DataW.map []).put (.int .i64 2) (.held (fnV B 108))).put (.int .i64 3) (.held (fnV B 109))).put (.int .i64 4) (.held (fnV B 110))).put (.int .i64 5) (.held (fnV B 111))).put (.int .i64 6) (.held (fnV B 112))).put (.int .i64 7) (.held (fnV B 113))) rfl hown5 (by unfold maxLen; omega) (.int .i64 8) (fnV B 114) (.int .i64 8) rfl rfl (keyOf_int_mk Tryz.underlying3 (by decide)) _ _ rfl ?_; intro w6 hown6 hgrow6)
    | (refine wpList_insert_own _ rfl _ _ _ 119 rfl 3 121 lawI64 Tryz.underlying119 fnR w.heap.size 7 ((((((((DataW.map []).put (.int .i64 2) (.held (fnV B 108))).put (.int .i64 3) (.held (fnV B 109))).put (.int .i64 4) (.held (fnV B 110))).put (.int .i64 5) (.held (fnV B 111))).put (.int .i64 6) (.held (fnV B 112))).put (.int .i64 7) (.held (fnV B 113))).put (.int .i64 8) (.held (fnV B 114))) rfl hown6 (by unfold maxLen; omega) (.int .i64 9) (fnV B 115) (.int .i64 9) rfl rfl (keyOf_int_mk Tryz.underlying3 (by decide)) _ _ rfl ?_; intro w7 hown7 hgrow7)
    | (refine wpList_insert_own _ rfl _ _ _ 119 rfl 3 121 lawI64 Tryz.underlying119 fnR w.heap.size 8 (((((((((DataW.map []).put (.int .i64 2) (.held (fnV B 108))).put (.int .i64 3) (.held (fnV B 109))).put (.int .i64 4) (.held (fnV B 110))).put (.int .i64 5) (.held (fnV B 111))).put (.int .i64 6) (.held (fnV B 112))).put (.int .i64 7) (.held (fnV B 113))).put (.int .i64 8) (.held (fnV B 114))).put (.int .i64 9) (.held (fnV B 115))) rfl hown7 (by unfold maxLen; omega) (.int .i64 10) (fnV B 116) (.int .i64 10) rfl rfl (keyOf_int_mk Tryz.underlying3 (by decide)) _ _ rfl ?_; intro w8 hown8 hgrow8)
    | (refine wpList_insert_own _ rfl _ _ _ 119 rfl 3 121 lawI64 Tryz.underlying119 fnR w.heap.size 9 ((((((((((DataW.map []).put (.int .i64 2) (.held (fnV B 108))).put (.int .i64 3) (.held (fnV B 109))).put (.int .i64 4) (.held (fnV B 110))).put (.int .i64 5) (.held (fnV B 111))).put (.int .i64 6) (.held (fnV B 112))).put (.int .i64 7) (.held (fnV B 113))).put (.int .i64 8) (.held (fnV B 114))).put (.int .i64 9) (.held (fnV B 115))).put (.int .i64 10) (.held (fnV B 116))) rfl hown8 (by unfold maxLen; omega) (.int .i64 11) (fnV B 117) (.int .i64 11) rfl rfl (keyOf_int_mk Tryz.underlying3 (by decide)) _ _ rfl ?_; intro w9 hown9 hgrow9)
    | (refine wpList_insert_own _ rfl _ _ _ 119 rfl 3 121 lawI64 Tryz.underlying119 fnR w.heap.size 10 (((((((((((DataW.map []).put (.int .i64 2) (.held (fnV B 108))).put (.int .i64 3) (.held (fnV B 109))).put (.int .i64 4) (.held (fnV B 110))).put (.int .i64 5) (.held (fnV B 111))).put (.int .i64 6) (.held (fnV B 112))).put (.int .i64 7) (.held (fnV B 113))).put (.int .i64 8) (.held (fnV B 114))).put (.int .i64 9) (.held (fnV B 115))).put (.int .i64 10) (.held (fnV B 116))).put (.int .i64 11) (.held (fnV B 117))) rfl hown9 (by unfold maxLen; omega) (.int .i64 12) (fnV B 118) (.int .i64 12) rfl rfl (keyOf_int_mk Tryz.underlying3 (by decide)) _ _ rfl ?_; intro w10 hown10 hgrow10))
  have HB0 : Hid (Below w.heap.size w (w.alloc (.map #[] 0))) := Lib.hid ((Below.refl _ w).alloc (Nat.le_refl _) _)
  have q0 : w.heap.size + 1 ≤ w0.heap.size := by have := hgrow0.size; simpa using this
  have q1 := hgrow1.size
  have q2 := hgrow2.size
  have q3 := hgrow3.size
  have q4 := hgrow4.size
  have q5 := hgrow5.size
  have q6 := hgrow6.size
  have q7 := hgrow7.size
  have q8 := hgrow8.size
  have q9 := hgrow9.size
  have q10 := hgrow10.size
  have HB : Hid (Below w.heap.size w w10) := Lib.hid ((((((((((((HB0.out).grown hgrow0 (by simp) (fun k e => by cases e; exact Nat.le_refl _)).grown hgrow1 (by omega) (fun k e => by cases e; exact Nat.le_refl _)).grown hgrow2 (by omega) (fun k e => by cases e; exact Nat.le_refl _)).grown hgrow3 (by omega) (fun k e => by cases e; exact Nat.le_refl _)).grown hgrow4 (by omega) (fun k e => by cases e; exact Nat.le_refl _)).grown hgrow5 (by omega) (fun k e => by cases e; exact Nat.le_refl _)).grown hgrow6 (by omega) (fun k e => by cases e; exact Nat.le_refl _)).grown hgrow7 (by omega) (fun k e => by cases e; exact Nat.le_refl _)).grown hgrow8 (by omega) (fun k e => by cases e; exact Nat.le_refl _)).grown hgrow9 (by omega) (fun k e => by cases e; exact Nat.le_refl _)).grown hgrow10 (by omega) (fun k e => by cases e; exact Nat.le_refl _))
  have HO := Lib.hid hown10
  clear hown0 hown1 hown2 hown3 hown4 hown5 hown6 hown7 hown8 hown9 hown10
  go_ret
  exact ⟨_, rfl, Nat.le_refl _, HO.out, HB.out⟩

theorem fnZ (w : World) : (zeroValue 121).run Tryz.prog w = .ok .nilFunc w := by kernel_rfl
theorem map_at_2 (B : Nat) : (mapD B).atKey (.int .i64 2) (.held .nilFunc) = .held (fnV B 108) := by kernel_rfl
theorem map_at_3 (B : Nat) : (mapD B).atKey (.int .i64 3) (.held .nilFunc) = .held (fnV B 109) := by kernel_rfl
theorem map_at_4 (B : Nat) : (mapD B).atKey (.int .i64 4) (.held .nilFunc) = .held (fnV B 110) := by kernel_rfl
theorem map_at_5 (B : Nat) : (mapD B).atKey (.int .i64 5) (.held .nilFunc) = .held (fnV B 111) := by kernel_rfl
theorem map_at_6 (B : Nat) : (mapD B).atKey (.int .i64 6) (.held .nilFunc) = .held (fnV B 112) := by kernel_rfl
theorem map_at_7 (B : Nat) : (mapD B).atKey (.int .i64 7) (.held .nilFunc) = .held (fnV B 113) := by kernel_rfl
theorem map_at_8 (B : Nat) : (mapD B).atKey (.int .i64 8) (.held .nilFunc) = .held (fnV B 114) := by kernel_rfl
theorem map_at_9 (B : Nat) : (mapD B).atKey (.int .i64 9) (.held .nilFunc) = .held (fnV B 115) := by kernel_rfl
theorem map_at_10 (B : Nat) : (mapD B).atKey (.int .i64 10) (.held .nilFunc) = .held (fnV B 116) := by kernel_rfl
theorem map_at_11 (B : Nat) : (mapD B).atKey (.int .i64 11) (.held .nilFunc) = .held (fnV B 117) := by kernel_rfl
theorem map_at_12 (B : Nat) : (mapD B).atKey (.int .i64 12) (.held .nilFunc) = .held (fnV B 118) := by kernel_rfl
theorem map_at (B a : Nat) (h2 : 2 ≤ a) (h12 : a ≤ 12) : (mapD B).atKey (.int .i64 (a : Int)) (.held .nilFunc) = .held (fnV B (106 + a)) := by
  have : a = 2 ∨ a = 3 ∨ a = 4 ∨ a = 5 ∨ a = 6 ∨ a = 7 ∨ a = 8 ∨ a = 9 ∨ a = 10 ∨ a = 11 ∨ a = 12 := by omega
  rcases this with rfl | rfl | rfl | rfl | rfl | rfl | rfl | rfl | rfl | rfl | rfl
  · exact map_at_2 B
  · exact map_at_3 B
  · exact map_at_4 B
  · exact map_at_5 B
  · exact map_at_6 B
  · exact map_at_7 B
  · exact map_at_8 B
  · exact map_at_9 B
  · exact map_at_10 B
  · exact map_at_11 B
  · exact map_at_12 B
/-- What reads hands back: at each place it is looked up what reads a byte there. -/
def ReadsS (B : Nat) (w : World) (e : Ending) (w' : World) : Prop :=
  ∃ g, e = .returned (.map (some g)) ∧ w.heap.size ≤ g ∧ g < w'.heap.size ∧ (∀ w2, w2.heap[g]? = w'.heap[g]? → ∀ a : Nat, 2 ≤ a → a ≤ 12 → (Instr.lookup 119 (.map (some g)) (.int .i64 (a : Int)) false).run Tryz.prog w2 = .ok (fnV B (106 + a)) w2) ∧ Below w.heap.size w w'
theorem reads_any (B : Nat) (w : World) : Calls Tryz.prog 79 #[.pointer (some ⟨B, 0, none⟩)] w fun e w' => ReadsS B w e w' := by
  refine (reads_own B w).mono ?_
  rintro e w' ⟨g, rfl, hg, hown, hb⟩
  refine ⟨g, rfl, hg, hown.lt, fun w2 hw2 a h2 h12 => ?_, hb⟩
  have hown2 : w2.ownsMap Tryz.prog 3 fnR g 11 (mapD B) := by
    obtain ⟨es, clock, h1, h3⟩ := hown
    exact ⟨es, clock, hw2.trans h1, h3⟩
  obtain ⟨v, ps, hrun, hv⟩ := hown2.lookup lawI64 Tryz.underlying119 (fnZ w2) (zd := .held .nilFunc) (zp := []) rfl (keyOf_int_mk Tryz.underlying3 (a := (a : Int)) (by
    have : a = 2 ∨ a = 3 ∨ a = 4 ∨ a = 5 ∨ a = 6 ∨ a = 7 ∨ a = 8 ∨ a = 9 ∨ a = 10 ∨ a = 11 ∨ a = 12 := by omega
    rcases this with rfl | rfl | rfl | rfl | rfl | rfl | rfl | rfl | rfl | rfl | rfl <;> decide))
  rw [map_at B a h2 h12] at hv
  unfold fnR at hv
  simp at hv
  obtain ⟨rfl, _⟩ := hv
  exact hrun
end Go.Proofs.YtppabkllconkjaaGreatDoor.Med
