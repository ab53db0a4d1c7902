/- The contracts of the law's own wakes and ints at layer 3. -/
import Derived.Test.YtnalnpidmmkfgaaDoorG
import Derived.Lib.SmallJoins
import Derived.Deep.Slices
import Derived.ChangeSame
import Derived.ChangeVars
import Derived.LaidMore
import Derived.Stop.Joined
namespace Go.Proofs.YtnalnpidmmkfgaaDoor
open Go.RowKit
set_option linter.unusedVariables false
set_option linter.unusedSimpArgs false
theorem wk_dec1 (w : World) (hg : Gl w) : Calls Tryd.prog 9 #[.string ⟨#[61, 216, 0, 222]⟩, .bool false] w fun e w' => (∃ p cap, e = .returned (.tuple #[.string ⟨#[240, 159, 152, 128]⟩, .slice p 0 cap])) ∧ Below w.heap.size w w' := by
  refine (decode_any ⟨#[61, 216, 0, 222]⟩ false w hg (by decide)).mono ?_
  rintro e w' ⟨v, he, ho, hb⟩
  have h1 : t16 false [61, 216, 0, 222] = [240, 159, 152, 128] := by decide +kernel
  have h2 : b16 false [61, 216, 0, 222] = [] := by decide +kernel
  have ho' : OwnI w' w.heap.size v (b16 false [61, 216, 0, 222]) := ho
  rw [h2] at ho'
  obtain ⟨p, cap, rfl⟩ := own_form ho'
  refine ⟨⟨p, cap, ?_⟩, hb⟩
  rw [he]
  show Ending.returned (.tuple #[.string (str (t16 false [61, 216, 0, 222])), _]) = _
  rw [h1]
  rfl
theorem wk_dec2 (w : World) (hg : Gl w) : Calls Tryd.prog 9 #[.string ⟨#[61, 216, 65, 0]⟩, .bool false] w fun e w' => (∃ g cap, e = .returned (.tuple #[.string ⟨#[239, 191, 189, 65]⟩, .slice (some ⟨g, 0, none⟩) 1 cap]) ∧ g < w'.heap.size ∧ w'.cell? ⟨g, 0, none⟩ = some (.int .i64 0)) ∧ Below w.heap.size w w' := by
  refine (decode_any ⟨#[61, 216, 65, 0]⟩ false w hg (by decide)).mono ?_
  rintro e w' ⟨v, he, ho, hb⟩
  have h1 : t16 false [61, 216, 65, 0] = [239, 191, 189, 65] := by decide +kernel
  have h2 : b16 false [61, 216, 65, 0] = [0] := by decide +kernel
  have ho' : OwnI w' w.heap.size v (b16 false [61, 216, 65, 0]) := ho
  rw [h2] at ho'
  obtain ⟨g, cap, rfl, _⟩ := World.ownsRow.form ho' (by simp)
  have hc := own_cells ho'
  refine ⟨⟨g, cap, ?_, hc.1, hc.2 0 (by simp)⟩, hb⟩
  rw [he]
  show Ending.returned (.tuple #[.string (str (t16 false [61, 216, 65, 0])), _]) = _
  rw [h1]
  rfl
theorem wk_enc (w : World) (hg : Gl w) : Calls Tryd.prog 11 #[.string ⟨#[97]⟩, .bool true] w fun e w' => e = .returned (.tuple #[.string ⟨#[0, 97]⟩, .int .i64 0]) ∧ Below w.heap.size w w' := by
  refine (encode_any ⟨#[97]⟩ true w hg (by decide)).mono ?_
  rintro e w' ⟨he, hb⟩
  refine ⟨?_, hb⟩
  rw [he]
  have h1 : okB [97] = true := by decide +kernel
  have h2 : es16 true (scl [97]) = [0, 97] := by decide +kernel
  show Ending.returned (.tuple #[.string (str (if okB [97] = true then es16 true (scl [97]) else [])), .int .i64 (if okB [97] = true then 0 else 70)]) = _
  rw [h1, h2]
  rfl
theorem wk_units (w : World) (hg : Gl w) : Calls Tryd.prog 16 #[.string ⟨#[240, 159, 152, 128]⟩] w fun e w' => e = .returned (.int .i64 2) ∧ Below w.heap.size w w' := by
  refine (units_any ⟨#[240, 159, 152, 128]⟩ w hg (by decide)).mono ?_
  rintro e w' ⟨he, hb⟩
  refine ⟨?_, hb⟩
  rw [he]
  have h1 : okB [240, 159, 152, 128] = true := by decide +kernel
  have h2 : ns16 (scl [240, 159, 152, 128]) = 2 := by decide +kernel
  show Ending.returned (.int .i64 (if okB [240, 159, 152, 128] = true then (ns16 (scl [240, 159, 152, 128]) : Int) else 0)) = _
  rw [h1, h2]
  rfl
set_option maxRecDepth 100000 in
set_option maxHeartbeats 2000000 in
theorem wakes_any (w : World) (hg : Gl w) : Calls Tryd.prog 8 #[] w fun e w' => RetB true w e w' := by
  have HG := Lib.hid hg
  have D1 := Lib.hid (wk_dec1 w hg)
  have D2 : Hid (∀ w1, Gl w1 → _) := Lib.hid (fun w1 h => wk_dec2 w1 h)
  clear hg
  go_enter Tryd.func8, Tryd.ntmps8
  go_wp2_with (first
    | (go_at_call 9; refine D1.out.mono ?_; rintro e w1 ⟨⟨p1, cap1, rfl⟩, hb1⟩; have HB1 := Lib.hid hb1; clear hb1 D1)
    | (go_at_call 9; refine (D2.out _ (HG.out.below' HB1.out)).mono ?_; rintro e w2 ⟨⟨g2, cap2, rfl, hg2, hc2⟩, hb2⟩; have HB2 : Hid (Below w.heap.size w w2) := Lib.hid (below_call HB1.out hb2); clear hb2 D2)
    | (go_at_call 11; refine (wk_enc _ (HG.out.below' HB2.out)).mono ?_; rintro e w3 ⟨rfl, hb3⟩; have hc3 : w3.cell? ⟨g2, 0, none⟩ = some (.int .i64 0) := (hb3.cell (p := ⟨g2, 0, none⟩) hg2).trans hc2; have HB3 : Hid (Below w.heap.size w w3) := Lib.hid (below_call HB2.out hb3); clear hb3)
    | (go_at_call 16; refine (wk_units _ (HG.out.below' HB3.out)).mono ?_; rintro e w4 ⟨rfl, hb4⟩; have HB4 : Hid (Below w.heap.size w w4) := Lib.hid (below_call HB3.out hb4); clear hb4))
  go_ret
  exact ⟨by first | rfl | decide, HB4.out⟩
end Go.Proofs.YtnalnpidmmkfgaaDoor
