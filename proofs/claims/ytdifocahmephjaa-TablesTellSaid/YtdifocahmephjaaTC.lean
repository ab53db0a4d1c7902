/- The contracts of Class and Mark, the program's and the document's own, and of the document's Hangul. -/
import Derived.Test.YtdifocahmephjaaTB
namespace Go.Proofs.Ytdifocahmephjaa.Tab
open Go.RowKit
set_option linter.unusedVariables false
set_option linter.unusedSimpArgs false
set_option maxRecDepth 100000 in
set_option maxHeartbeats 8000000 in
theorem class_any (r : Int) (w : World) : Calls Try.prog 11 #[.int .i64 r] w fun e w' => e = .returned (.int .i64 (cls r)) ∧ w' = w := by
  have hall : r ≤ 767 ∨ (768 ≤ r ∧ r ≤ 788) ∨ r = 789 ∨ (790 ≤ r ∧ r ≤ 793) ∨ r = 794 ∨ r = 795 ∨ (796 ≤ r ∧ r ≤ 802) ∨ (803 ≤ r ∧ r ≤ 806) ∨ r = 807 ∨ r = 808 ∨ (809 ≤ r ∧ r ≤ 823) ∨ r = 824 ∨ (825 ≤ r ∧ r ≤ 831) ∨ r = 832 ∨ r = 833 ∨ (834 ≤ r ∧ r ≤ 836) ∨ r = 837 ∨ 838 ≤ r := by omega
  rcases hall with h | h | rfl | h | rfl | rfl | h | h | rfl | rfl | h | rfl | h | rfl | rfl | h | rfl | h
  · have HZ : Hid (cls r = 0) := Lib.hid (by unfold cls; rw [if_neg (by omega), if_neg (by omega), if_neg (by omega), if_neg (by omega), if_neg (by omega), if_neg (by omega), if_neg (by omega)])
    have g0 : r < 768 := by omega
    have g1 : r ≤ 788 := by omega
    have g2 : r < 790 := by omega
    have g3 : r ≤ 793 := by omega
    have g4 : r < 803 := by omega
    have g5 : r ≤ 806 := by omega
    have g6 : r < 807 := by omega
    have g7 : r ≤ 808 := by omega
    have g8 : (r == 832) = false := by rw [beq_eq_false_iff_ne]; omega
    have g9 : (r == 833) = false := by rw [beq_eq_false_iff_ne]; omega
    have g10 : (r == 789) = false := by rw [beq_eq_false_iff_ne]; omega
    have g11 : (r == 795) = false := by rw [beq_eq_false_iff_ne]; omega
    have g12 : (r == 807) = false := by rw [beq_eq_false_iff_ne]; omega
    have g13 : (r == 808) = false := by rw [beq_eq_false_iff_ne]; omega
    have g14 : (r == 824) = false := by rw [beq_eq_false_iff_ne]; omega
    have g15 : (r == 837) = false := by rw [beq_eq_false_iff_ne]; omega
    clear h
    rw [HZ.out]
    go_enter Try.func11, Try.ntmps11
    go_wp2_with fail
    go_ret
    exact ⟨rfl, rfl⟩
  · have HZ : Hid (cls r = 230) := Lib.hid (by unfold cls; rw [if_pos (by omega)])
    have g0 : (768 : Int) ≤ r := by omega
    have g1 : r ≤ 788 := by omega
    have g2 : r < 790 := by omega
    have g3 : r ≤ 793 := by omega
    have g4 : r < 803 := by omega
    have g5 : r ≤ 806 := by omega
    have g6 : r < 807 := by omega
    have g7 : r ≤ 808 := by omega
    have g8 : (r == 832) = false := by rw [beq_eq_false_iff_ne]; omega
    have g9 : (r == 833) = false := by rw [beq_eq_false_iff_ne]; omega
    have g10 : (r == 789) = false := by rw [beq_eq_false_iff_ne]; omega
    have g11 : (r == 795) = false := by rw [beq_eq_false_iff_ne]; omega
    have g12 : (r == 807) = false := by rw [beq_eq_false_iff_ne]; omega
    have g13 : (r == 808) = false := by rw [beq_eq_false_iff_ne]; omega
    have g14 : (r == 824) = false := by rw [beq_eq_false_iff_ne]; omega
    have g15 : (r == 837) = false := by rw [beq_eq_false_iff_ne]; omega
    clear h
    rw [HZ.out]
    go_enter Try.func11, Try.ntmps11
    go_wp2_with fail
    go_ret
    exact ⟨rfl, rfl⟩
  · have HZ : Hid (cls 789 = 232) := Lib.hid (by unfold cls; rw [if_neg (by omega), if_pos (by omega)])
    rw [HZ.out]
    go_enter Try.func11, Try.ntmps11
    go_wp2_with fail
    go_ret
    exact ⟨rfl, rfl⟩
  · have HZ : Hid (cls r = 220) := Lib.hid (by unfold cls; rw [if_neg (by omega), if_neg (by omega), if_pos (by omega)])
    have g0 : (768 : Int) ≤ r := by omega
    have g1 : 788 < r := by omega
    have g2 : (790 : Int) ≤ r := by omega
    have g3 : r ≤ 793 := by omega
    have g4 : r < 803 := by omega
    have g5 : r ≤ 806 := by omega
    have g6 : r < 807 := by omega
    have g7 : r ≤ 808 := by omega
    have g8 : (r == 832) = false := by rw [beq_eq_false_iff_ne]; omega
    have g9 : (r == 833) = false := by rw [beq_eq_false_iff_ne]; omega
    have g10 : (r == 789) = false := by rw [beq_eq_false_iff_ne]; omega
    have g11 : (r == 795) = false := by rw [beq_eq_false_iff_ne]; omega
    have g12 : (r == 807) = false := by rw [beq_eq_false_iff_ne]; omega
    have g13 : (r == 808) = false := by rw [beq_eq_false_iff_ne]; omega
    have g14 : (r == 824) = false := by rw [beq_eq_false_iff_ne]; omega
    have g15 : (r == 837) = false := by rw [beq_eq_false_iff_ne]; omega
    clear h
    rw [HZ.out]
    go_enter Try.func11, Try.ntmps11
    go_wp2_with fail
    go_ret
    exact ⟨rfl, rfl⟩
  · have HZ : Hid (cls 794 = 0) := Lib.hid (by unfold cls; rw [if_neg (by omega), if_neg (by omega), if_neg (by omega), if_neg (by omega), if_neg (by omega), if_neg (by omega), if_neg (by omega)])
    rw [HZ.out]
    go_enter Try.func11, Try.ntmps11
    go_wp2_with fail
    go_ret
    exact ⟨rfl, rfl⟩
  · have HZ : Hid (cls 795 = 216) := Lib.hid (by unfold cls; rw [if_neg (by omega), if_neg (by omega), if_neg (by omega), if_pos (by omega)])
    rw [HZ.out]
    go_enter Try.func11, Try.ntmps11
    go_wp2_with fail
    go_ret
    exact ⟨rfl, rfl⟩
  · have HZ : Hid (cls r = 0) := Lib.hid (by unfold cls; rw [if_neg (by omega), if_neg (by omega), if_neg (by omega), if_neg (by omega), if_neg (by omega), if_neg (by omega), if_neg (by omega)])
    have g0 : (768 : Int) ≤ r := by omega
    have g1 : 788 < r := by omega
    have g2 : (790 : Int) ≤ r := by omega
    have g3 : 793 < r := by omega
    have g4 : r < 803 := by omega
    have g5 : r ≤ 806 := by omega
    have g6 : r < 807 := by omega
    have g7 : r ≤ 808 := by omega
    have g8 : (r == 832) = false := by rw [beq_eq_false_iff_ne]; omega
    have g9 : (r == 833) = false := by rw [beq_eq_false_iff_ne]; omega
    have g10 : (r == 789) = false := by rw [beq_eq_false_iff_ne]; omega
    have g11 : (r == 795) = false := by rw [beq_eq_false_iff_ne]; omega
    have g12 : (r == 807) = false := by rw [beq_eq_false_iff_ne]; omega
    have g13 : (r == 808) = false := by rw [beq_eq_false_iff_ne]; omega
    have g14 : (r == 824) = false := by rw [beq_eq_false_iff_ne]; omega
    have g15 : (r == 837) = false := by rw [beq_eq_false_iff_ne]; omega
    clear h
    rw [HZ.out]
    go_enter Try.func11, Try.ntmps11
    go_wp2_with fail
    go_ret
    exact ⟨rfl, rfl⟩
  · have HZ : Hid (cls r = 220) := Lib.hid (by unfold cls; rw [if_neg (by omega), if_neg (by omega), if_pos (by omega)])
    have g0 : (768 : Int) ≤ r := by omega
    have g1 : 788 < r := by omega
    have g2 : (790 : Int) ≤ r := by omega
    have g3 : 793 < r := by omega
    have g4 : (803 : Int) ≤ r := by omega
    have g5 : r ≤ 806 := by omega
    have g6 : r < 807 := by omega
    have g7 : r ≤ 808 := by omega
    have g8 : (r == 832) = false := by rw [beq_eq_false_iff_ne]; omega
    have g9 : (r == 833) = false := by rw [beq_eq_false_iff_ne]; omega
    have g10 : (r == 789) = false := by rw [beq_eq_false_iff_ne]; omega
    have g11 : (r == 795) = false := by rw [beq_eq_false_iff_ne]; omega
    have g12 : (r == 807) = false := by rw [beq_eq_false_iff_ne]; omega
    have g13 : (r == 808) = false := by rw [beq_eq_false_iff_ne]; omega
    have g14 : (r == 824) = false := by rw [beq_eq_false_iff_ne]; omega
    have g15 : (r == 837) = false := by rw [beq_eq_false_iff_ne]; omega
    clear h
    rw [HZ.out]
    go_enter Try.func11, Try.ntmps11
    go_wp2_with fail
    go_ret
    exact ⟨rfl, rfl⟩
  · have HZ : Hid (cls 807 = 202) := Lib.hid (by unfold cls; rw [if_neg (by omega), if_neg (by omega), if_neg (by omega), if_neg (by omega), if_pos (by omega)])
    rw [HZ.out]
    go_enter Try.func11, Try.ntmps11
    go_wp2_with fail
    go_ret
    exact ⟨rfl, rfl⟩
  · have HZ : Hid (cls 808 = 202) := Lib.hid (by unfold cls; rw [if_neg (by omega), if_neg (by omega), if_neg (by omega), if_neg (by omega), if_pos (by omega)])
    rw [HZ.out]
    go_enter Try.func11, Try.ntmps11
    go_wp2_with fail
    go_ret
    exact ⟨rfl, rfl⟩
  · have HZ : Hid (cls r = 0) := Lib.hid (by unfold cls; rw [if_neg (by omega), if_neg (by omega), if_neg (by omega), if_neg (by omega), if_neg (by omega), if_neg (by omega), if_neg (by omega)])
    have g0 : (768 : Int) ≤ r := by omega
    have g1 : 788 < r := by omega
    have g2 : (790 : Int) ≤ r := by omega
    have g3 : 793 < r := by omega
    have g4 : (803 : Int) ≤ r := by omega
    have g5 : 806 < r := by omega
    have g6 : (807 : Int) ≤ r := by omega
    have g7 : 808 < r := by omega
    have g8 : (r == 832) = false := by rw [beq_eq_false_iff_ne]; omega
    have g9 : (r == 833) = false := by rw [beq_eq_false_iff_ne]; omega
    have g10 : (r == 789) = false := by rw [beq_eq_false_iff_ne]; omega
    have g11 : (r == 795) = false := by rw [beq_eq_false_iff_ne]; omega
    have g12 : (r == 807) = false := by rw [beq_eq_false_iff_ne]; omega
    have g13 : (r == 808) = false := by rw [beq_eq_false_iff_ne]; omega
    have g14 : (r == 824) = false := by rw [beq_eq_false_iff_ne]; omega
    have g15 : (r == 837) = false := by rw [beq_eq_false_iff_ne]; omega
    clear h
    rw [HZ.out]
    go_enter Try.func11, Try.ntmps11
    go_wp2_with fail
    go_ret
    exact ⟨rfl, rfl⟩
  · have HZ : Hid (cls 824 = 1) := Lib.hid (by unfold cls; rw [if_neg (by omega), if_neg (by omega), if_neg (by omega), if_neg (by omega), if_neg (by omega), if_pos (by omega)])
    rw [HZ.out]
    go_enter Try.func11, Try.ntmps11
    go_wp2_with fail
    go_ret
    exact ⟨rfl, rfl⟩
  · have HZ : Hid (cls r = 0) := Lib.hid (by unfold cls; rw [if_neg (by omega), if_neg (by omega), if_neg (by omega), if_neg (by omega), if_neg (by omega), if_neg (by omega), if_neg (by omega)])
    have g0 : (768 : Int) ≤ r := by omega
    have g1 : 788 < r := by omega
    have g2 : (790 : Int) ≤ r := by omega
    have g3 : 793 < r := by omega
    have g4 : (803 : Int) ≤ r := by omega
    have g5 : 806 < r := by omega
    have g6 : (807 : Int) ≤ r := by omega
    have g7 : 808 < r := by omega
    have g8 : (r == 832) = false := by rw [beq_eq_false_iff_ne]; omega
    have g9 : (r == 833) = false := by rw [beq_eq_false_iff_ne]; omega
    have g10 : (r == 789) = false := by rw [beq_eq_false_iff_ne]; omega
    have g11 : (r == 795) = false := by rw [beq_eq_false_iff_ne]; omega
    have g12 : (r == 807) = false := by rw [beq_eq_false_iff_ne]; omega
    have g13 : (r == 808) = false := by rw [beq_eq_false_iff_ne]; omega
    have g14 : (r == 824) = false := by rw [beq_eq_false_iff_ne]; omega
    have g15 : (r == 837) = false := by rw [beq_eq_false_iff_ne]; omega
    clear h
    rw [HZ.out]
    go_enter Try.func11, Try.ntmps11
    go_wp2_with fail
    go_ret
    exact ⟨rfl, rfl⟩
  · have HZ : Hid (cls 832 = 230) := Lib.hid (by unfold cls; rw [if_pos (by omega)])
    rw [HZ.out]
    go_enter Try.func11, Try.ntmps11
    go_wp2_with fail
    go_ret
    exact ⟨rfl, rfl⟩
  · have HZ : Hid (cls 833 = 230) := Lib.hid (by unfold cls; rw [if_pos (by omega)])
    rw [HZ.out]
    go_enter Try.func11, Try.ntmps11
    go_wp2_with fail
    go_ret
    exact ⟨rfl, rfl⟩
  · have HZ : Hid (cls r = 0) := Lib.hid (by unfold cls; rw [if_neg (by omega), if_neg (by omega), if_neg (by omega), if_neg (by omega), if_neg (by omega), if_neg (by omega), if_neg (by omega)])
    have g0 : (768 : Int) ≤ r := by omega
    have g1 : 788 < r := by omega
    have g2 : (790 : Int) ≤ r := by omega
    have g3 : 793 < r := by omega
    have g4 : (803 : Int) ≤ r := by omega
    have g5 : 806 < r := by omega
    have g6 : (807 : Int) ≤ r := by omega
    have g7 : 808 < r := by omega
    have g8 : (r == 832) = false := by rw [beq_eq_false_iff_ne]; omega
    have g9 : (r == 833) = false := by rw [beq_eq_false_iff_ne]; omega
    have g10 : (r == 789) = false := by rw [beq_eq_false_iff_ne]; omega
    have g11 : (r == 795) = false := by rw [beq_eq_false_iff_ne]; omega
    have g12 : (r == 807) = false := by rw [beq_eq_false_iff_ne]; omega
    have g13 : (r == 808) = false := by rw [beq_eq_false_iff_ne]; omega
    have g14 : (r == 824) = false := by rw [beq_eq_false_iff_ne]; omega
    have g15 : (r == 837) = false := by rw [beq_eq_false_iff_ne]; omega
    clear h
    rw [HZ.out]
    go_enter Try.func11, Try.ntmps11
    go_wp2_with fail
    go_ret
    exact ⟨rfl, rfl⟩
  · have HZ : Hid (cls 837 = 240) := Lib.hid (by unfold cls; rw [if_neg (by omega), if_neg (by omega), if_neg (by omega), if_neg (by omega), if_neg (by omega), if_neg (by omega), if_pos (by omega)])
    rw [HZ.out]
    go_enter Try.func11, Try.ntmps11
    go_wp2_with fail
    go_ret
    exact ⟨rfl, rfl⟩
  · have HZ : Hid (cls r = 0) := Lib.hid (by unfold cls; rw [if_neg (by omega), if_neg (by omega), if_neg (by omega), if_neg (by omega), if_neg (by omega), if_neg (by omega), if_neg (by omega)])
    have g0 : (768 : Int) ≤ r := by omega
    have g1 : 788 < r := by omega
    have g2 : (790 : Int) ≤ r := by omega
    have g3 : 793 < r := by omega
    have g4 : (803 : Int) ≤ r := by omega
    have g5 : 806 < r := by omega
    have g6 : (807 : Int) ≤ r := by omega
    have g7 : 808 < r := by omega
    have g8 : (r == 832) = false := by rw [beq_eq_false_iff_ne]; omega
    have g9 : (r == 833) = false := by rw [beq_eq_false_iff_ne]; omega
    have g10 : (r == 789) = false := by rw [beq_eq_false_iff_ne]; omega
    have g11 : (r == 795) = false := by rw [beq_eq_false_iff_ne]; omega
    have g12 : (r == 807) = false := by rw [beq_eq_false_iff_ne]; omega
    have g13 : (r == 808) = false := by rw [beq_eq_false_iff_ne]; omega
    have g14 : (r == 824) = false := by rw [beq_eq_false_iff_ne]; omega
    have g15 : (r == 837) = false := by rw [beq_eq_false_iff_ne]; omega
    clear h
    rw [HZ.out]
    go_enter Try.func11, Try.ntmps11
    go_wp2_with fail
    go_ret
    exact ⟨rfl, rfl⟩
set_option maxRecDepth 100000 in
set_option maxHeartbeats 8000000 in
theorem rclass_any (r : Int) (w : World) : Calls Try.prog 12 #[.int .i64 r] w fun e w' => e = .returned (.int .i64 (cls r)) ∧ w' = w := by
  have hall : r ≤ 767 ∨ (768 ≤ r ∧ r ≤ 788) ∨ r = 789 ∨ (790 ≤ r ∧ r ≤ 793) ∨ r = 794 ∨ r = 795 ∨ (796 ≤ r ∧ r ≤ 802) ∨ (803 ≤ r ∧ r ≤ 806) ∨ r = 807 ∨ r = 808 ∨ (809 ≤ r ∧ r ≤ 823) ∨ r = 824 ∨ (825 ≤ r ∧ r ≤ 831) ∨ r = 832 ∨ r = 833 ∨ (834 ≤ r ∧ r ≤ 836) ∨ r = 837 ∨ 838 ≤ r := by omega
  rcases hall with h | h | rfl | h | rfl | rfl | h | h | rfl | rfl | h | rfl | h | rfl | rfl | h | rfl | h
  · have HZ : Hid (cls r = 0) := Lib.hid (by unfold cls; rw [if_neg (by omega), if_neg (by omega), if_neg (by omega), if_neg (by omega), if_neg (by omega), if_neg (by omega), if_neg (by omega)])
    have g0 : r < 768 := by omega
    have g1 : r ≤ 788 := by omega
    have g2 : r < 790 := by omega
    have g3 : r ≤ 793 := by omega
    have g4 : r < 803 := by omega
    have g5 : r ≤ 806 := by omega
    have g6 : r < 807 := by omega
    have g7 : r ≤ 808 := by omega
    have g8 : (r == 832) = false := by rw [beq_eq_false_iff_ne]; omega
    have g9 : (r == 833) = false := by rw [beq_eq_false_iff_ne]; omega
    have g10 : (r == 789) = false := by rw [beq_eq_false_iff_ne]; omega
    have g11 : (r == 795) = false := by rw [beq_eq_false_iff_ne]; omega
    have g12 : (r == 807) = false := by rw [beq_eq_false_iff_ne]; omega
    have g13 : (r == 808) = false := by rw [beq_eq_false_iff_ne]; omega
    have g14 : (r == 824) = false := by rw [beq_eq_false_iff_ne]; omega
    have g15 : (r == 837) = false := by rw [beq_eq_false_iff_ne]; omega
    clear h
    rw [HZ.out]
    go_enter Try.func12, Try.ntmps12
    go_wp2_with fail
    go_ret
    exact ⟨rfl, rfl⟩
  · have HZ : Hid (cls r = 230) := Lib.hid (by unfold cls; rw [if_pos (by omega)])
    have g0 : r ≥ 768 := by omega
    have g1 : r ≤ 788 := by omega
    have g2 : r < 790 := by omega
    have g3 : r ≤ 793 := by omega
    have g4 : r < 803 := by omega
    have g5 : r ≤ 806 := by omega
    have g6 : r < 807 := by omega
    have g7 : r ≤ 808 := by omega
    have g8 : (r == 832) = false := by rw [beq_eq_false_iff_ne]; omega
    have g9 : (r == 833) = false := by rw [beq_eq_false_iff_ne]; omega
    have g10 : (r == 789) = false := by rw [beq_eq_false_iff_ne]; omega
    have g11 : (r == 795) = false := by rw [beq_eq_false_iff_ne]; omega
    have g12 : (r == 807) = false := by rw [beq_eq_false_iff_ne]; omega
    have g13 : (r == 808) = false := by rw [beq_eq_false_iff_ne]; omega
    have g14 : (r == 824) = false := by rw [beq_eq_false_iff_ne]; omega
    have g15 : (r == 837) = false := by rw [beq_eq_false_iff_ne]; omega
    clear h
    rw [HZ.out]
    go_enter Try.func12, Try.ntmps12
    go_wp2_with fail
    go_ret
    exact ⟨rfl, rfl⟩
  · have HZ : Hid (cls 789 = 232) := Lib.hid (by unfold cls; rw [if_neg (by omega), if_pos (by omega)])
    rw [HZ.out]
    go_enter Try.func12, Try.ntmps12
    go_wp2_with fail
    go_ret
    exact ⟨rfl, rfl⟩
  · have HZ : Hid (cls r = 220) := Lib.hid (by unfold cls; rw [if_neg (by omega), if_neg (by omega), if_pos (by omega)])
    have g0 : r ≥ 768 := by omega
    have g1 : 788 < r := by omega
    have g2 : r ≥ 790 := by omega
    have g3 : r ≤ 793 := by omega
    have g4 : r < 803 := by omega
    have g5 : r ≤ 806 := by omega
    have g6 : r < 807 := by omega
    have g7 : r ≤ 808 := by omega
    have g8 : (r == 832) = false := by rw [beq_eq_false_iff_ne]; omega
    have g9 : (r == 833) = false := by rw [beq_eq_false_iff_ne]; omega
    have g10 : (r == 789) = false := by rw [beq_eq_false_iff_ne]; omega
    have g11 : (r == 795) = false := by rw [beq_eq_false_iff_ne]; omega
    have g12 : (r == 807) = false := by rw [beq_eq_false_iff_ne]; omega
    have g13 : (r == 808) = false := by rw [beq_eq_false_iff_ne]; omega
    have g14 : (r == 824) = false := by rw [beq_eq_false_iff_ne]; omega
    have g15 : (r == 837) = false := by rw [beq_eq_false_iff_ne]; omega
    clear h
    rw [HZ.out]
    go_enter Try.func12, Try.ntmps12
    go_wp2_with fail
    go_ret
    exact ⟨rfl, rfl⟩
  · have HZ : Hid (cls 794 = 0) := Lib.hid (by unfold cls; rw [if_neg (by omega), if_neg (by omega), if_neg (by omega), if_neg (by omega), if_neg (by omega), if_neg (by omega), if_neg (by omega)])
    rw [HZ.out]
    go_enter Try.func12, Try.ntmps12
    go_wp2_with fail
    go_ret
    exact ⟨rfl, rfl⟩
  · have HZ : Hid (cls 795 = 216) := Lib.hid (by unfold cls; rw [if_neg (by omega), if_neg (by omega), if_neg (by omega), if_pos (by omega)])
    rw [HZ.out]
    go_enter Try.func12, Try.ntmps12
    go_wp2_with fail
    go_ret
    exact ⟨rfl, rfl⟩
  · have HZ : Hid (cls r = 0) := Lib.hid (by unfold cls; rw [if_neg (by omega), if_neg (by omega), if_neg (by omega), if_neg (by omega), if_neg (by omega), if_neg (by omega), if_neg (by omega)])
    have g0 : r ≥ 768 := by omega
    have g1 : 788 < r := by omega
    have g2 : r ≥ 790 := by omega
    have g3 : 793 < r := by omega
    have g4 : r < 803 := by omega
    have g5 : r ≤ 806 := by omega
    have g6 : r < 807 := by omega
    have g7 : r ≤ 808 := by omega
    have g8 : (r == 832) = false := by rw [beq_eq_false_iff_ne]; omega
    have g9 : (r == 833) = false := by rw [beq_eq_false_iff_ne]; omega
    have g10 : (r == 789) = false := by rw [beq_eq_false_iff_ne]; omega
    have g11 : (r == 795) = false := by rw [beq_eq_false_iff_ne]; omega
    have g12 : (r == 807) = false := by rw [beq_eq_false_iff_ne]; omega
    have g13 : (r == 808) = false := by rw [beq_eq_false_iff_ne]; omega
    have g14 : (r == 824) = false := by rw [beq_eq_false_iff_ne]; omega
    have g15 : (r == 837) = false := by rw [beq_eq_false_iff_ne]; omega
    clear h
    rw [HZ.out]
    go_enter Try.func12, Try.ntmps12
    go_wp2_with fail
    go_ret
    exact ⟨rfl, rfl⟩
  · have HZ : Hid (cls r = 220) := Lib.hid (by unfold cls; rw [if_neg (by omega), if_neg (by omega), if_pos (by omega)])
    have g0 : r ≥ 768 := by omega
    have g1 : 788 < r := by omega
    have g2 : r ≥ 790 := by omega
    have g3 : 793 < r := by omega
    have g4 : r ≥ 803 := by omega
    have g5 : r ≤ 806 := by omega
    have g6 : r < 807 := by omega
    have g7 : r ≤ 808 := by omega
    have g8 : (r == 832) = false := by rw [beq_eq_false_iff_ne]; omega
    have g9 : (r == 833) = false := by rw [beq_eq_false_iff_ne]; omega
    have g10 : (r == 789) = false := by rw [beq_eq_false_iff_ne]; omega
    have g11 : (r == 795) = false := by rw [beq_eq_false_iff_ne]; omega
    have g12 : (r == 807) = false := by rw [beq_eq_false_iff_ne]; omega
    have g13 : (r == 808) = false := by rw [beq_eq_false_iff_ne]; omega
    have g14 : (r == 824) = false := by rw [beq_eq_false_iff_ne]; omega
    have g15 : (r == 837) = false := by rw [beq_eq_false_iff_ne]; omega
    clear h
    rw [HZ.out]
    go_enter Try.func12, Try.ntmps12
    go_wp2_with fail
    go_ret
    exact ⟨rfl, rfl⟩
  · have HZ : Hid (cls 807 = 202) := Lib.hid (by unfold cls; rw [if_neg (by omega), if_neg (by omega), if_neg (by omega), if_neg (by omega), if_pos (by omega)])
    rw [HZ.out]
    go_enter Try.func12, Try.ntmps12
    go_wp2_with fail
    go_ret
    exact ⟨rfl, rfl⟩
  · have HZ : Hid (cls 808 = 202) := Lib.hid (by unfold cls; rw [if_neg (by omega), if_neg (by omega), if_neg (by omega), if_neg (by omega), if_pos (by omega)])
    rw [HZ.out]
    go_enter Try.func12, Try.ntmps12
    go_wp2_with fail
    go_ret
    exact ⟨rfl, rfl⟩
  · have HZ : Hid (cls r = 0) := Lib.hid (by unfold cls; rw [if_neg (by omega), if_neg (by omega), if_neg (by omega), if_neg (by omega), if_neg (by omega), if_neg (by omega), if_neg (by omega)])
    have g0 : r ≥ 768 := by omega
    have g1 : 788 < r := by omega
    have g2 : r ≥ 790 := by omega
    have g3 : 793 < r := by omega
    have g4 : r ≥ 803 := by omega
    have g5 : 806 < r := by omega
    have g6 : r ≥ 807 := by omega
    have g7 : 808 < r := by omega
    have g8 : (r == 832) = false := by rw [beq_eq_false_iff_ne]; omega
    have g9 : (r == 833) = false := by rw [beq_eq_false_iff_ne]; omega
    have g10 : (r == 789) = false := by rw [beq_eq_false_iff_ne]; omega
    have g11 : (r == 795) = false := by rw [beq_eq_false_iff_ne]; omega
    have g12 : (r == 807) = false := by rw [beq_eq_false_iff_ne]; omega
    have g13 : (r == 808) = false := by rw [beq_eq_false_iff_ne]; omega
    have g14 : (r == 824) = false := by rw [beq_eq_false_iff_ne]; omega
    have g15 : (r == 837) = false := by rw [beq_eq_false_iff_ne]; omega
    clear h
    rw [HZ.out]
    go_enter Try.func12, Try.ntmps12
    go_wp2_with fail
    go_ret
    exact ⟨rfl, rfl⟩
  · have HZ : Hid (cls 824 = 1) := Lib.hid (by unfold cls; rw [if_neg (by omega), if_neg (by omega), if_neg (by omega), if_neg (by omega), if_neg (by omega), if_pos (by omega)])
    rw [HZ.out]
    go_enter Try.func12, Try.ntmps12
    go_wp2_with fail
    go_ret
    exact ⟨rfl, rfl⟩
  · have HZ : Hid (cls r = 0) := Lib.hid (by unfold cls; rw [if_neg (by omega), if_neg (by omega), if_neg (by omega), if_neg (by omega), if_neg (by omega), if_neg (by omega), if_neg (by omega)])
    have g0 : r ≥ 768 := by omega
    have g1 : 788 < r := by omega
    have g2 : r ≥ 790 := by omega
    have g3 : 793 < r := by omega
    have g4 : r ≥ 803 := by omega
    have g5 : 806 < r := by omega
    have g6 : r ≥ 807 := by omega
    have g7 : 808 < r := by omega
    have g8 : (r == 832) = false := by rw [beq_eq_false_iff_ne]; omega
    have g9 : (r == 833) = false := by rw [beq_eq_false_iff_ne]; omega
    have g10 : (r == 789) = false := by rw [beq_eq_false_iff_ne]; omega
    have g11 : (r == 795) = false := by rw [beq_eq_false_iff_ne]; omega
    have g12 : (r == 807) = false := by rw [beq_eq_false_iff_ne]; omega
    have g13 : (r == 808) = false := by rw [beq_eq_false_iff_ne]; omega
    have g14 : (r == 824) = false := by rw [beq_eq_false_iff_ne]; omega
    have g15 : (r == 837) = false := by rw [beq_eq_false_iff_ne]; omega
    clear h
    rw [HZ.out]
    go_enter Try.func12, Try.ntmps12
    go_wp2_with fail
    go_ret
    exact ⟨rfl, rfl⟩
  · have HZ : Hid (cls 832 = 230) := Lib.hid (by unfold cls; rw [if_pos (by omega)])
    rw [HZ.out]
    go_enter Try.func12, Try.ntmps12
    go_wp2_with fail
    go_ret
    exact ⟨rfl, rfl⟩
  · have HZ : Hid (cls 833 = 230) := Lib.hid (by unfold cls; rw [if_pos (by omega)])
    rw [HZ.out]
    go_enter Try.func12, Try.ntmps12
    go_wp2_with fail
    go_ret
    exact ⟨rfl, rfl⟩
  · have HZ : Hid (cls r = 0) := Lib.hid (by unfold cls; rw [if_neg (by omega), if_neg (by omega), if_neg (by omega), if_neg (by omega), if_neg (by omega), if_neg (by omega), if_neg (by omega)])
    have g0 : r ≥ 768 := by omega
    have g1 : 788 < r := by omega
    have g2 : r ≥ 790 := by omega
    have g3 : 793 < r := by omega
    have g4 : r ≥ 803 := by omega
    have g5 : 806 < r := by omega
    have g6 : r ≥ 807 := by omega
    have g7 : 808 < r := by omega
    have g8 : (r == 832) = false := by rw [beq_eq_false_iff_ne]; omega
    have g9 : (r == 833) = false := by rw [beq_eq_false_iff_ne]; omega
    have g10 : (r == 789) = false := by rw [beq_eq_false_iff_ne]; omega
    have g11 : (r == 795) = false := by rw [beq_eq_false_iff_ne]; omega
    have g12 : (r == 807) = false := by rw [beq_eq_false_iff_ne]; omega
    have g13 : (r == 808) = false := by rw [beq_eq_false_iff_ne]; omega
    have g14 : (r == 824) = false := by rw [beq_eq_false_iff_ne]; omega
    have g15 : (r == 837) = false := by rw [beq_eq_false_iff_ne]; omega
    clear h
    rw [HZ.out]
    go_enter Try.func12, Try.ntmps12
    go_wp2_with fail
    go_ret
    exact ⟨rfl, rfl⟩
  · have HZ : Hid (cls 837 = 240) := Lib.hid (by unfold cls; rw [if_neg (by omega), if_neg (by omega), if_neg (by omega), if_neg (by omega), if_neg (by omega), if_neg (by omega), if_pos (by omega)])
    rw [HZ.out]
    go_enter Try.func12, Try.ntmps12
    go_wp2_with fail
    go_ret
    exact ⟨rfl, rfl⟩
  · have HZ : Hid (cls r = 0) := Lib.hid (by unfold cls; rw [if_neg (by omega), if_neg (by omega), if_neg (by omega), if_neg (by omega), if_neg (by omega), if_neg (by omega), if_neg (by omega)])
    have g0 : r ≥ 768 := by omega
    have g1 : 788 < r := by omega
    have g2 : r ≥ 790 := by omega
    have g3 : 793 < r := by omega
    have g4 : r ≥ 803 := by omega
    have g5 : 806 < r := by omega
    have g6 : r ≥ 807 := by omega
    have g7 : 808 < r := by omega
    have g8 : (r == 832) = false := by rw [beq_eq_false_iff_ne]; omega
    have g9 : (r == 833) = false := by rw [beq_eq_false_iff_ne]; omega
    have g10 : (r == 789) = false := by rw [beq_eq_false_iff_ne]; omega
    have g11 : (r == 795) = false := by rw [beq_eq_false_iff_ne]; omega
    have g12 : (r == 807) = false := by rw [beq_eq_false_iff_ne]; omega
    have g13 : (r == 808) = false := by rw [beq_eq_false_iff_ne]; omega
    have g14 : (r == 824) = false := by rw [beq_eq_false_iff_ne]; omega
    have g15 : (r == 837) = false := by rw [beq_eq_false_iff_ne]; omega
    clear h
    rw [HZ.out]
    go_enter Try.func12, Try.ntmps12
    go_wp2_with fail
    go_ret
    exact ⟨rfl, rfl⟩
theorem mark_any (r : Int) (w : World) : Calls Try.prog 13 #[.int .i64 r] w fun e w' => e = .returned (.bool (mrkT r)) ∧ w' = w := by
  have hp := Lib.hid fun w => class_any r w
  unfold mrkT
  generalize cls r = c at hp ⊢
  go_enter Try.func13, Try.ntmps13
  go_wp2_with (go_at_call 11; refine (hp.out _).mono ?_; rintro _ w9 ⟨rfl, hw9⟩; subst w9)
  go_ret
  exact ⟨rfl, rfl⟩
theorem rmark_any (r : Int) (w : World) : Calls Try.prog 14 #[.int .i64 r] w fun e w' => e = .returned (.bool (mrkT r)) ∧ w' = w := by
  have hp := Lib.hid fun w => rclass_any r w
  unfold mrkT
  generalize cls r = c at hp ⊢
  go_enter Try.func14, Try.ntmps14
  go_wp2_with (go_at_call 12; refine (hp.out _).mono ?_; rintro _ w9 ⟨rfl, hw9⟩; subst w9)
  go_ret
  exact ⟨rfl, rfl⟩
theorem rhangul_any (r : Int) (w : World) : Calls Try.prog 16 #[.int .i64 r] w fun e w' => e = .returned (.bool (han r)) ∧ w' = w := by
  by_cases h1 : r ≥ 44032
  · by_cases h2 : r < 55204
    · have HZ : Hid (han r = true) := Lib.hid (han_iff.2 ⟨h1, h2⟩)
      rw [HZ.out]
      go_enter Try.func16, Try.ntmps16
      go_wp2_with fail
      go_ret
      exact ⟨rfl, rfl⟩
    · have HZ : Hid (han r = false) := Lib.hid (by unfold han; rw [decide_eq_false_iff_not]; omega)
      rw [HZ.out]
      have h3 : r ≥ 55204 := by omega
      go_enter Try.func16, Try.ntmps16
      go_wp2_with fail
      go_ret
      exact ⟨rfl, rfl⟩
  · have HZ : Hid (han r = false) := Lib.hid (by unfold han; rw [decide_eq_false_iff_not]; omega)
    rw [HZ.out]
    have h3 : r < 44032 := by omega
    go_enter Try.func16, Try.ntmps16
    go_wp2_with fail
    go_ret
    exact ⟨rfl, rfl⟩
end Go.Proofs.Ytdifocahmephjaa.Tab
