/- The contract of wakes. -/
import Derived.Test.YtfpncdhneikkaaaDoorK
import Derived.Lib.Bytealg
import Derived.Laws.Externs
import Derived.Laws.DeepStrings4
import Derived.Laws.BytesArg
import Derived.Laws.IdiomStrings
namespace Go.Proofs.YtfpncdhneikkaaaDoor
open Go.RowKit
set_option linter.unusedVariables false
set_option linter.unusedSimpArgs false
theorem wk1 : ofL [32, 76, 97, 116, 105, 110, 49] = (3, true) := by decide +kernel
theorem wk2 : ofL [117, 116, 102, 45, 55] = (0, false) := by decide +kernel
theorem wk3 : nameL 5 = [105, 115, 111, 45, 56, 56, 53, 57, 45, 49, 53] := by decide +kernel
theorem wk4 : trm [9, 32, 97, 32] = [97] := by decide +kernel
theorem wk5 : lwr [97, 90, 192] = [97, 122, 192] := by decide +kernel
set_option maxHeartbeats 1000000 in
theorem wakes_any (w : World) (hg : Gl w) : Calls Tryd.prog 7 #[] w fun r w' => RetB true w r w' := by
  have HG := Lib.hid hg
  have H1 : Hid (∀ w, Gl w → Calls Tryd.prog 8 #[.string ⟨#[32, 76, 97, 116, 105, 110, 49]⟩] w fun r w' => r = .returned (.tuple #[.int .i8 3, .bool true]) ∧ Below w.heap.size w w') := Lib.hid fun w hg => by
    have := of_any ⟨#[32, 76, 97, 116, 105, 110, 49]⟩ w hg (by decide)
    unfold OfS at this
    rwa [show ofL (ByteArray.mk #[32, 76, 97, 116, 105, 110, 49]).data.toList = (3, true) from wk1] at this
  have H2 : Hid (∀ w, Gl w → Calls Tryd.prog 8 #[.string ⟨#[117, 116, 102, 45, 55]⟩] w fun r w' => r = .returned (.tuple #[.int .i8 0, .bool false]) ∧ Below w.heap.size w w') := Lib.hid fun w hg => by
    have := of_any ⟨#[117, 116, 102, 45, 55]⟩ w hg (by decide)
    unfold OfS at this
    rwa [show ofL (ByteArray.mk #[117, 116, 102, 45, 55]).data.toList = (0, false) from wk2] at this
  have H3 : Hid (∀ w, Gl w → Calls Tryd.prog 10 #[.int .i8 5] w fun r w' => r = .returned (.string ⟨#[105, 115, 111, 45, 56, 56, 53, 57, 45, 49, 53]⟩) ∧ Below w.heap.size w w') := Lib.hid fun w hg => by
    have := name_any 5 w hg
    unfold RetS at this
    rwa [wk3] at this
  have H4 : Hid (∀ w, Calls Tryd.prog 15 #[.string ⟨#[9, 32, 97, 32]⟩] w fun r w' => r = .returned (.string ⟨#[97]⟩) ∧ Below w.heap.size w w') := Lib.hid fun w => by
    have := trim_any ⟨#[9, 32, 97, 32]⟩ w (by decide)
    unfold RetS at this
    rwa [show trm (ByteArray.mk #[9, 32, 97, 32]).data.toList = [97] from wk4] at this
  have H5 : Hid (∀ w, Calls Tryd.prog 17 #[.string ⟨#[97, 90, 192]⟩] w fun r w' => r = .returned (.string ⟨#[97, 122, 192]⟩) ∧ Below w.heap.size w w') := Lib.hid fun w => by
    have := lower_any ⟨#[97, 90, 192]⟩ w (by decide)
    unfold RetS at this
    rwa [show lwr (ByteArray.mk #[97, 90, 192]).data.toList = [97, 122, 192] from wk5] at this
  clear hg
  go_enter Tryd.func7, Tryd.ntmps7
  go_wp2_with (first
    | (go_at_call 8; refine (H1.out _ HG.out).mono ?_; rintro r w1 ⟨rfl, hb1⟩; have HB1 := Lib.hid hb1; clear hb1 H1)
    | (go_at_call 8; refine (H2.out _ (HG.out.below' HB1.out)).mono ?_; rintro r w2 ⟨rfl, hb2⟩; have HB2 := Lib.hid (below_call HB1.out hb2); clear hb2 H2)
    | (go_at_call 10; refine (H3.out _ (HG.out.below' HB2.out)).mono ?_; rintro r w3 ⟨rfl, hb3⟩; have HB3 := Lib.hid (below_call HB2.out hb3); clear hb3 H3)
    | (go_at_call 15; refine (H4.out _).mono ?_; rintro r w4 ⟨rfl, hb4⟩; have HB4 := Lib.hid (below_call HB3.out hb4); clear hb4 H4)
    | (go_at_call 17; refine (H5.out _).mono ?_; rintro r w5 ⟨rfl, hb5⟩; have HB5 := Lib.hid (below_call HB4.out hb5); clear hb5 H5))
  go_ret
  exact ⟨rfl, HB5.out⟩
end Go.Proofs.YtfpncdhneikkaaaDoor
