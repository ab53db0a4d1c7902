/- The contract of wakes. -/
import Derived.Test.YtehehmpepkgbeaaDoorCG
namespace Go.Proofs.YtehehmpepkgbeaaDoor.Chr
open Go.RowKit
set_option linter.unusedVariables false
set_option linter.unusedSimpArgs false
theorem tol (x : List UInt8) : (str x).toList = x := by rw [ByteArray.toList_eq]; rfl
theorem wk_s1 : spl [100, 99, 58, 100, 97, 116, 101] = ([100, 99], [100, 97, 116, 101], true) := by decide +kernel
theorem wk_s2 : spl [97, 58, 98, 58, 99] = ([], [], false) := by decide +kernel
theorem wk_b : bad [97, 1] = 1 := by decide +kernel
theorem wk_l : lns [97, 13, 10, 98, 13, 99] = [97, 10, 98, 10, 99] := by decide +kernel
theorem wk_t : tk [97, 58, 98, 61] = 3 := by decide +kernel
theorem wk_c1 : chr 9 = true := by decide
theorem wk_c2 : chr 65534 = false := by decide
set_option maxRecDepth 100000 in
set_option maxHeartbeats 2000000 in
theorem wakes_any (w : World) (hG : G9 w) : Calls Tryd.prog 17 #[] w fun e w' => RetB true w e w' := by
  obtain ⟨S1, hS1⟩ : ∃ S, str [100, 99] = S := ⟨_, rfl⟩
  obtain ⟨S2, hS2⟩ : ∃ S, str [100, 97, 116, 101] = S := ⟨_, rfl⟩
  obtain ⟨S3, hS3⟩ : ∃ S, str [97, 10, 98, 10, 99] = S := ⟨_, rfl⟩
  have e1 : (S1.toList == [100, 99]) = true := by rw [← hS1, tol]; decide
  have e2 : (S2.toList == [100, 97, 116, 101]) = true := by rw [← hS2, tol]; decide
  have e3 : (S3.toList == [97, 10, 98, 10, 99]) = true := by rw [← hS3, tol]; decide
  have H1 : Hid (∀ w, G9 w → Calls Tryd.prog 18 #[.string ⟨#[100, 99, 58, 100, 97, 116, 101]⟩] w fun e w' => e = .returned (.tuple #[.string S1, .string S2, .bool true]) ∧ Below w.heap.size w w') := Lib.hid fun w g => by
    have := psplit_any [100, 99, 58, 100, 97, 116, 101] w g (by decide)
    unfold SplR at this
    rw [wk_s1] at this
    rw [← hS1, ← hS2]
    exact this
  have H2 : Hid (∀ w, G9 w → Calls Tryd.prog 18 #[.string ⟨#[97, 58, 98, 58, 99]⟩] w fun e w' => (∃ a b, e = .returned (.tuple #[.string a, .string b, .bool false])) ∧ Below w.heap.size w w') := Lib.hid fun w g => by
    have := psplit_any [97, 58, 98, 58, 99] w g (by decide)
    unfold SplR at this
    rw [wk_s2] at this
    exact this.mono fun e w' h => ⟨⟨_, _, h.1⟩, h.2⟩
  have H3 : Hid (∀ w, G9 w → Calls Tryd.prog 22 #[.string ⟨#[97, 1]⟩] w fun e w' => e = .returned (.int .i64 1) ∧ Below w.heap.size w w') := Lib.hid fun w g => by
    have := pbad_any [97, 1] w g.1 (by decide)
    unfold RetI at this
    rw [wk_b] at this
    exact this
  have H4 : Hid (∀ w, G9 w → Calls Tryd.prog 28 #[.string ⟨#[97, 13, 10, 98, 13, 99]⟩] w fun e w' => e = .returned (.string S3) ∧ Below w.heap.size w w') := Lib.hid fun w g => by
    have := plines_any [97, 13, 10, 98, 13, 99] w g.2 (by decide)
    unfold RetT at this
    rw [wk_l] at this
    rw [← hS3]
    exact this
  have H5 : Hid (∀ w, G9 w → Calls Tryd.prog 26 #[.string ⟨#[97, 58, 98, 61]⟩] w fun e w' => e = .returned (.int .i64 3) ∧ Below w.heap.size w w') := Lib.hid fun w g => by
    have := ptake_any [97, 58, 98, 61] w g.1 (by decide)
    unfold RetI at this
    rw [wk_t] at this
    exact this
  have H6 : Hid (∀ w, Calls Tryd.prog 9 #[.int .i64 9] w fun e w' => e = .returned (.bool true) ∧ Below w.heap.size w w') := Lib.hid fun w => by
    have := pchar_any 9 w
    rwa [wk_c1] at this
  have H7 : Hid (∀ w, Calls Tryd.prog 9 #[.int .i64 65534] w fun e w' => e = .returned (.bool false) ∧ Below w.heap.size w w') := Lib.hid fun w => by
    have := pchar_any 65534 w
    rwa [wk_c2] at this
  have HG := Lib.hid hG
  clear hS1 hS2 hS3 hG
  unfold RetB
  go_enter Tryd.func17, Tryd.ntmps17
  go_wp2_with (first
    | (go_at_call 18; refine (H1.out _ HG.out).mono ?_; rintro _ w1 ⟨rfl, hb1⟩; replace HG := Lib.hid (HG.out.next hb1); have HB1 := Lib.hid hb1; clear H1 hb1)
    | (go_at_call 18; refine (H2.out _ HG.out).mono ?_; rintro _ w2 ⟨⟨a2, b2, rfl⟩, hb2⟩; replace HG := Lib.hid (HG.out.next hb2); have HB2 := Lib.hid (below_call HB1.out hb2); clear H2 hb2)
    | (go_at_call 22; refine (H3.out _ HG.out).mono ?_; rintro _ w3 ⟨rfl, hb3⟩; replace HG := Lib.hid (HG.out.next hb3); have HB3 := Lib.hid (below_call HB2.out hb3); clear H3 hb3)
    | (go_at_call 28; refine (H4.out _ HG.out).mono ?_; rintro _ w4 ⟨rfl, hb4⟩; replace HG := Lib.hid (HG.out.next hb4); have HB4 := Lib.hid (below_call HB3.out hb4); clear H4 hb4)
    | (go_at_call 26; refine (H5.out _ HG.out).mono ?_; rintro _ w5 ⟨rfl, hb5⟩; have HB5 := Lib.hid (below_call HB4.out hb5); clear H5 hb5)
    | (go_at_call 9; refine (H6.out _).mono ?_; rintro _ w6 ⟨rfl, hb6⟩; have HB6 := Lib.hid (below_call HB5.out hb6); clear H6 hb6)
    | (go_at_call 9; refine (H7.out _).mono ?_; rintro _ w7 ⟨rfl, hb7⟩; have HB7 := Lib.hid (below_call HB6.out hb7); clear H7 hb7))
  go_ret
  exact ⟨rfl, HB7.out⟩
end Go.Proofs.YtehehmpepkgbeaaDoor.Chr
