/- What wakes asks; the walk of TablesTell. -/
import Derived.Test.YtdifocahmephjaaTO
namespace Go.Proofs.Ytdifocahmephjaa.Tab
open Go.RowKit Go.Maps
set_option linter.unusedVariables false
set_option linter.unusedSimpArgs false
set_option maxRecDepth 100000
theorem ok_small {r : Int} (h : -1000000000 ≤ r ∧ r ≤ 1000000000) : okI r := ⟨by omega, by omega⟩
set_option maxHeartbeats 4000000 in
theorem wakes_any (w : World) : Calls Try.prog 17 #[] w fun e w' => e = .returned (.bool true) ∧ Below w.heap.size w w' := by
  have H1 := Lib.hid fun w => made_any 7879 w (ok_small (by omega))
  have H2 := Lib.hid fun w => made_any 44033 w (ok_small (by omega))
  have H3 := Lib.hid fun w => class_any 769 w
  rw [wk_made1] at H1
  rw [wk_made2] at H2
  rw [wk_cls] at H3
  unfold RetM at H1 H2
  go_enter Try.func17, Try.ntmps17
  go_wp2_with (first
    | (go_at_call 7; refine (H1.out _).mono ?_; rintro _ w1 ⟨rfl, hb1⟩; have B1 := Lib.hid hb1; clear hb1 H1)
    | (go_at_call 7; refine (H2.out _).mono ?_; rintro _ w2 ⟨rfl, hb2⟩; have B2 := Lib.hid (below_call B1.out hb2); clear hb2 H2)
    | (go_at_call 11; refine (H3.out _).mono ?_; rintro _ w9 ⟨rfl, hw9⟩; subst w9))
  go_ret
  exact ⟨rfl, B2.out⟩
set_option maxHeartbeats 4000000 in
theorem tell_walk (r f s : Int) (w : World) (hr : okI r) (hf : okI f) (hs : okI s) : Calls Try.prog 3 #[.int .i64 r, .int .i64 f, .int .i64 s] w fun e w' => e = .returned (.bool true) ∧ Below w.heap.size w w' := by
  have H1 := Lib.hid fun w => made_any r w hr
  have H2 := Lib.hid fun w => rmade_any r w hr
  have H3 := Lib.hid fun w => whole_any f s w hf hs
  have H4 := Lib.hid fun w => rwhole_any f s w hf hs
  have H5 := Lib.hid fun w => class_any r w
  have H6 := Lib.hid fun w => rclass_any r w
  have H7 := Lib.hid fun w => mark_any r w
  have H8 := Lib.hid fun w => rmark_any r w
  have H9 := Lib.hid fun w => hangul_any r w hr
  have H10 := Lib.hid fun w => rhangul_any r w
  have HW := Lib.hid fun w => wakes_any w
  unfold RetM at H1 H2
  unfold RetW at H3 H4
  obtain ⟨a, b, ok, hm⟩ : ∃ a b ok, made r = (a, b, ok) := ⟨_, _, _, rfl⟩
  obtain ⟨x, is, hw⟩ : ∃ x is, whole f s = (x, is) := ⟨_, _, rfl⟩
  rw [hm] at H1 H2
  rw [hw] at H3 H4
  generalize cls r = c at H5 H6
  generalize mrkT r = m at H7 H8
  generalize han r = h at H9 H10
  clear hm hw hr hf hs
  go_enter Try.func3, Try.ntmps3
  go_wp2_with (first
    | (go_at_call 7; refine (H1.out _).mono ?_; rintro _ w1 ⟨rfl, hb1⟩; have B1 := Lib.hid hb1; clear hb1 H1)
    | (go_at_call 8; refine (H2.out _).mono ?_; rintro _ w2 ⟨rfl, hb2⟩; have B2 := Lib.hid (below_call B1.out hb2); clear hb2 H2)
    | (go_at_call 9; refine (H3.out _).mono ?_; rintro _ w3 ⟨rfl, hb3⟩; have B3 := Lib.hid (below_call B2.out hb3); clear hb3 H3)
    | (go_at_call 10; refine (H4.out _).mono ?_; rintro _ w4 ⟨rfl, hb4⟩; have B4 := Lib.hid (below_call B3.out hb4); clear hb4 H4)
    | (go_at_call 11; refine (H5.out _).mono ?_; rintro _ w9 ⟨rfl, hw9⟩; subst w9)
    | (go_at_call 12; refine (H6.out _).mono ?_; rintro _ w9 ⟨rfl, hw9⟩; subst w9)
    | (go_at_call 13; refine (H7.out _).mono ?_; rintro _ w9 ⟨rfl, hw9⟩; subst w9)
    | (go_at_call 14; refine (H8.out _).mono ?_; rintro _ w9 ⟨rfl, hw9⟩; subst w9)
    | (go_at_call 15; refine (H9.out _).mono ?_; rintro _ w9 ⟨rfl, hw9⟩; subst w9)
    | (go_at_call 16; refine (H10.out _).mono ?_; rintro _ w9 ⟨rfl, hw9⟩; subst w9)
    | (go_at_call 17; refine (HW.out _).mono ?_; rintro _ w5 ⟨rfl, hb5⟩; have B5 := Lib.hid (below_call B4.out hb5); clear hb5))
  go_ret
  exact ⟨rfl, B5.out⟩
end Go.Proofs.Ytdifocahmephjaa.Tab
