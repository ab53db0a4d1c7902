/- The contract of the law's own wakes; the row's opening and end. -/
import Derived.Test.YtdojejkbcogjfaaDoorV3
import Derived.Lib.SmallJoins
import Derived.Deep.Slices
import Derived.ChangeSame
import Derived.ChangeVars
import Derived.LaidMore
import Derived.Stop.Joined
namespace Go.Proofs.YtdojejkbcogjfaaDoor
open Go.RowKit
set_option linter.unusedVariables false
set_option linter.unusedSimpArgs false
theorem wk_loose (w : World) (hg : Gl w) : Calls Tryd.prog 25 #[.string ⟨#[97, 226, 130, 98]⟩] w fun e w' => e = .returned (.tuple #[.string ⟨#[97, 239, 191, 189, 98]⟩, .int .i64 1]) ∧ Below w.heap.size w w' := by
  refine (loose_any ⟨#[97, 226, 130, 98]⟩ w hg (by decide)).mono ?_
  rintro e w' ⟨he, hb⟩
  refine ⟨?_, hb⟩
  rw [he]
  have h1 : loose [97, 226, 130, 98] = [97, 239, 191, 189, 98] := by decide +kernel
  have h2 : wrg (prt [97, 226, 130, 98]) 0 = 1 := by decide +kernel
  show Ending.returned (.tuple #[.string (str (loose [97, 226, 130, 98])), .int .i64 (wrg (prt [97, 226, 130, 98]) 0)]) = _
  rw [h1, h2]
  rfl
theorem wk_put (w : World) (hg : Gl w) : Calls Tryd.prog 10 #[.int .i64 8364] w fun e w' => e = .returned (.tuple #[.string ⟨#[226, 130, 172]⟩, .bool true]) ∧ Below w.heap.size w w' := by
  refine (put_any 8364 w hg).mono ?_
  rintro e w' ⟨he, hb⟩
  refine ⟨?_, hb⟩
  rw [he]
  have h1 : enc 8364 = [226, 130, 172] := by decide +kernel
  have h2 : isB 8364 = true := by decide +kernel
  rw [h1, h2]
  rfl
theorem wk_len (w : World) (hg : Gl w) : Calls Tryd.prog 16 #[.int .i64 65536] w fun e w' => e = .returned (.int .i64 4) ∧ w = w' := by
  have := len_any 65536 w hg
  rwa [show lenF 65536 = 4 by decide +kernel] at this
set_option maxHeartbeats 1000000 in
theorem wakes_any (w : World) (hg : Gl w) : Calls Tryd.prog 9 #[] w fun e w' => RetB true w e w' := by
  have HG := Lib.hid hg
  clear hg
  go_enter Tryd.func9, Tryd.ntmps9
  go_wp2_with (first
    | (go_at_call 25; refine (wk_loose _ HG.out).mono ?_; rintro e w1 ⟨rfl, hb1⟩; have HB1 := Lib.hid hb1; clear hb1)
    | (go_at_call 10; refine (wk_put _ (HG.out.below' HB1.out)).mono ?_; rintro e w2 ⟨rfl, hb2⟩; have HB2 : Hid (Below w.heap.size w w2) := Lib.hid (below_call HB1.out hb2); clear hb2)
    | (go_at_call 16; refine (wk_len _ (HG.out.below' HB2.out)).mono ?_; rintro e w3 ⟨rfl, rfl⟩))
  go_ret
  exact ⟨by first | rfl | decide, HB2.out⟩
end Go.Proofs.YtdojejkbcogjfaaDoor
