/- The contract of wakes. -/
import Derived.Test.YtdkfbikpadehdaaDoorEPJ
namespace Go.Proofs.YtdkfbikpadehdaaDoor.Dec
open Go.RowKit
set_option linter.unusedVariables false
set_option linter.unusedSimpArgs false
open Lab (RetS ret_str str str_size str_list str_eta str_inj u8v info5 info_parts)
def RetB (b : Bool) (w : World) (e : Ending) (w' : World) : Prop := e = .returned (.bool b) ∧ Below w.heap.size w w'
def wk1 : List UInt8 := [60, 63, 120, 109, 108, 32, 118, 101, 114, 115, 105, 111, 110, 61, 34, 49, 46, 48, 34, 32, 101, 110, 99, 111, 100, 105, 110, 103, 61, 39, 108, 97, 116, 105, 110, 49, 39, 63, 62]
def wk2 : List UInt8 := [60, 63, 120, 109, 108, 32, 101, 110, 99, 111, 100, 105, 110, 103, 61, 108, 97, 116, 105, 110, 49, 63, 62]
def lat1 : List UInt8 := [108, 97, 116, 105, 110, 49]
theorem wk1_scan : scn wk1 = some lat1 := by
  have h0 : dcl wk1 = some [32, 118, 101, 114, 115, 105, 111, 110, 61, 34, 49, 46, 48, 34, 32, 101, 110, 99, 111, 100, 105, 110, 103, 61, 39, 108, 97, 116, 105, 110, 49, 39] := by decide +kernel
  have h1 : prt [32, 118, 101, 114, 115, 105, 111, 110, 61, 34, 49, 46, 48, 34, 32, 101, 110, 99, 111, 100, 105, 110, 103, 61, 39, 108, 97, 116, 105, 110, 49, 39] = some (([118, 101, 114, 115, 105, 111, 110], [49, 46, 48]), [32, 101, 110, 99, 111, 100, 105, 110, 103, 61, 39, 108, 97, 116, 105, 110, 49, 39]) := by decide +kernel
  have h2 : prt [32, 101, 110, 99, 111, 100, 105, 110, 103, 61, 39, 108, 97, 116, 105, 110, 49, 39] = some ((enc8, lat1), []) := by decide +kernel
  unfold scn prts
  rw [h0]
  show fnd (pts _) = _
  rw [pts_some h1, pts_some h2, pts_nil]
  decide +kernel
theorem wk2_scan : scn wk2 = none := by
  have h0 : dcl wk2 = some [32, 101, 110, 99, 111, 100, 105, 110, 103, 61, 108, 97, 116, 105, 110, 49] := by decide +kernel
  have h1 : prt [32, 101, 110, 99, 111, 100, 105, 110, 103, 61, 108, 97, 116, 105, 110, 49] = none := by decide +kernel
  unfold scn prts
  rw [h0]
  show fnd (pts _) = _
  rw [pts_none h1]
  rfl
set_option maxRecDepth 100000 in
set_option maxHeartbeats 2000000 in
theorem wakes_any (w : World) (hm0 : Mx w) : Calls Tryd.prog 7 #[] w fun e w' => RetB true w e w' := by
  obtain ⟨S, hS⟩ : ∃ S, str lat1 = S := ⟨_, rfl⟩
  have hS2 : (S.toList == [108, 97, 116, 105, 110, 49]) = true := by rw [← hS, toList_str]; decide
  have HS1 : Hid (∀ w, Mx w → Calls Tryd.prog 14 #[.string ⟨#[60, 63, 120, 109, 108, 32, 118, 101, 114, 115, 105, 111, 110, 61, 34, 49, 46, 48, 34, 32, 101, 110, 99, 111, 100, 105, 110, 103, 61, 39, 108, 97, 116, 105, 110, 49, 39, 63, 62]⟩] w fun e w' => e = .returned (.tuple #[.string S, .bool true]) ∧ Below w.heap.size w w') := Lib.hid fun w hm => by
    have := pscan_any wk1 w hm (by decide)
    unfold ScanR at this
    rw [wk1_scan] at this
    rw [← hS]
    exact this
  have HS2 : Hid (∀ w, Mx w → Calls Tryd.prog 14 #[.string ⟨#[60, 63, 120, 109, 108, 32, 101, 110, 99, 111, 100, 105, 110, 103, 61, 108, 97, 116, 105, 110, 49, 63, 62]⟩] w fun e w' => e = .returned (.tuple #[.string ⟨#[]⟩, .bool false]) ∧ Below w.heap.size w w') := Lib.hid fun w hm => by
    have := pscan_any wk2 w hm (by decide)
    unfold ScanR at this
    rw [wk2_scan] at this
    exact this
  have HM : Hid (∀ w, Calls Tryd.prog 8 #[.string ⟨#[254, 255, 0, 60]⟩] w fun e w' => e = .returned (.tuple #[.int .i8 2, .int .i64 2, .bool true]) ∧ Below w.heap.size w w') := Lib.hid fun w => pmark_any [254, 255, 0, 60] w
  have HSH : Hid (∀ w, Calls Tryd.prog 12 #[.string ⟨#[0, 60, 0, 63]⟩] w fun e w' => e = .returned (.tuple #[.int .i8 2, .bool true]) ∧ Below w.heap.size w w') := Lib.hid fun w => pshape_any [0, 60, 0, 63] w
  have HC : Hid (∀ w, Calls Tryd.prog 10 #[.string ⟨#[239, 187, 191, 97]⟩] w fun e w' => e = .returned (.string ⟨#[97]⟩) ∧ Below w.heap.size w w') := Lib.hid fun w => pcut_any [239, 187, 191, 97] w
  clear hS
  have HMX := Lib.hid hm0
  clear hm0
  unfold RetB
  go_enter Tryd.func7, Tryd.ntmps7
  go_wp2_with (first
    | (go_at_call 14; refine (HS1.out _ HMX.out).mono ?_; rintro _ w1 ⟨rfl, hb1⟩; replace HMX := Lib.hid (HMX.out.next hb1); clear HS1)
    | (go_at_call 14; refine (HS2.out _ HMX.out).mono ?_; rintro _ w2 ⟨rfl, hb2⟩; replace HMX := Lib.hid (HMX.out.next hb2); clear HS2)
    | (go_at_call 8; refine (HM.out _).mono ?_; rintro _ w3 ⟨rfl, hb3⟩; replace HMX := Lib.hid (HMX.out.next hb3); clear HM)
    | (go_at_call 12; refine (HSH.out _).mono ?_; rintro _ w4 ⟨rfl, hb4⟩; replace HMX := Lib.hid (HMX.out.next hb4); clear HSH)
    | (go_at_call 10; refine (HC.out _).mono ?_; rintro _ w5 ⟨rfl, hb5⟩; replace HMX := Lib.hid (HMX.out.next hb5); clear HC))
  go_ret
  exact ⟨rfl, below_call (below_call (below_call (below_call hb1 hb2) hb3) hb4) hb5⟩
end Go.Proofs.YtdkfbikpadehdaaDoor.Dec
