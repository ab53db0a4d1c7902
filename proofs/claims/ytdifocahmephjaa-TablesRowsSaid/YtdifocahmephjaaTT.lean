/- The walk of TablesRows. -/
import Derived.Test.YtdifocahmephjaaTP
import Derived.Laws.StructEq
namespace Go.Proofs.Ytdifocahmephjaa.Tab
open Go.RowKit Go.Maps
set_option linter.unusedVariables false
set_option linter.unusedSimpArgs false
set_option maxRecDepth 100000
theorem heldQ : Try.prog.stoodInHeld 33 = false := by kernel_rfl
theorem eqlQ (a b c : Int) (w : World) : (binOp .eql 33 (.agg #[.int .i64 a, .int .i64 b, .int .i64 c]) (.agg #[.int .i64 a, .int .i64 b, .int .i64 c])).run Try.prog w = .ok (.bool true) w := by
  have hf : (Try.prog.fieldsOf 33).toList = [⟨ "Whole", 3, 0, false, "", "", 0⟩, ⟨ "First", 3, 1, false, "", "", 8⟩, ⟨ "Second", 3, 2, false, "", "", 16⟩] := by
    unfold Program.fieldsOf; rw [Try.underlying33]
  rw [run_eql_struct, run_equalIn_agg w 9999 33 _ _ (by unfold Program.fieldsOf; rw [Try.underlying33]) heldQ, hf]
  have h3 : Try.prog.underlying 3 = some (.int .i64) := Try.underlying3
  simp [Op.eqFields, part, run_equalIn_int (h := h3)]
set_option maxHeartbeats 8000000 in
theorem rows_walk (x : Int) (w : World) (hx : okI x) : Calls Try.prog 4 #[.int .i64 x] w fun e w' => e = .returned (.bool true) ∧ Below w.heap.size w w' := by
  have HP := Lib.hid fun w => Pairs_any w
  have HR := Lib.hid fun w => rpairs_any w
  have HW := Lib.hid fun w => wakes_any w
  unfold PairsS at HP HR
  obtain ⟨hx1, hx2⟩ := hx
  obtain ⟨z, hz⟩ : ∃ z, x.tmod 73 = z := ⟨_, rfl⟩
  have hz1 : -73 < z ∧ z < 73 := by
    have h1 := Int.tmod_lt_of_pos x (show (0 : Int) < 73 by omega)
    have h2 := Int.lt_tmod_of_pos x (show (0 : Int) < 73 by omega)
    omega
  obtain ⟨k, hk⟩ : ∃ k : Nat, (z + 73).tmod 73 = (k : Int) := ⟨((z + 73) % 73).toNat, by rw [Int.tmod_eq_emod_of_nonneg (by omega)]; omega⟩
  have hk7 : k < 73 := by
    have h1 := Int.tmod_lt_of_pos (z + 73) (show (0 : Int) < 73 by omega)
    omega
  have hkI : (k : Int) < 73 := by omega
  have hk0 : (0 : Int) ≤ (k : Int) := by omega
  obtain ⟨hz2, hz3⟩ := hz1
  have heq := eqlQ
  have HL := Lib.hid prs_len
  have hkl : k < prs.length := by rw [HL.out]; exact hk7
  go_enter Try.func4, Try.ntmps4
  go_wp2_with (first
    | (go_at_call 18; refine (HP.out _).mono ?_; rintro _ w1 ⟨g1, cap1, rfl, ht1, hb1⟩; have T1 := Lib.hid ht1; have B1 := Lib.hid hb1; clear ht1 hb1 HP)
    | (go_at_call 19; refine (HR.out _).mono ?_; rintro _ w2 ⟨g2, cap2, rfl, ht2, hb2⟩; have T2 := Lib.hid ht2; have T3 := Lib.hid (T1.out.below hb2); have B2 := Lib.hid (below_call B1.out hb2); clear ht2 hb2 HR T1))
  obtain ⟨b2, cap2', e2, hl2, hc2⟩ := T2.out
  obtain ⟨b1, cap1', e1, hl1, hc1⟩ := T3.out
  cases e2
  cases e1
  obtain ⟨c0, c1, c2⟩ := hc1 k hkl
  obtain ⟨d0, d1, d2⟩ := hc2 k hkl
  generalize prs[k].1 = pa at c0 d0
  generalize prs[k].2.1 = pb at c1 d1
  generalize prs[k].2.2 = pc at c2 d2
  clear hc1 hc2 T2 T3
  go_region_held3 (fun wx => wx.cell? ⟨g1, k * 3, none⟩ = some (.int .i64 pa) ∧ wx.cell? ⟨g1, k * 3 + 1, none⟩ = some (.int .i64 pb) ∧ wx.cell? ⟨g1, k * 3 + 2, none⟩ = some (.int .i64 pc) ∧ wx.cell? ⟨g2, k * 3, none⟩ = some (.int .i64 pa) ∧ wx.cell? ⟨g2, k * 3 + 1, none⟩ = some (.int .i64 pb) ∧ wx.cell? ⟨g2, k * 3 + 2, none⟩ = some (.int .i64 pc))
    (first
      | go_keep
      | exact HS3.out)
    (first
      | (go_at_call 17; refine (HW.out _).mono ?_; rintro _ w5 ⟨rfl, hb5⟩
         have B5 := Lib.hid (below_call B2.out.drew hb5)
         have HS3 : Hid (w5.cell? ⟨g1, k * 3, none⟩ = some (.int .i64 pa) ∧ w5.cell? ⟨g1, k * 3 + 1, none⟩ = some (.int .i64 pb) ∧ w5.cell? ⟨g1, k * 3 + 2, none⟩ = some (.int .i64 pc) ∧ w5.cell? ⟨g2, k * 3, none⟩ = some (.int .i64 pa) ∧ w5.cell? ⟨g2, k * 3 + 1, none⟩ = some (.int .i64 pb) ∧ w5.cell? ⟨g2, k * 3 + 2, none⟩ = some (.int .i64 pc)) := Lib.hid ⟨cell_on hb5 c0, cell_on hb5 c1, cell_on hb5 c2, cell_on hb5 d0, cell_on hb5 d1, cell_on hb5 d2⟩
         clear hb5))
  go_wp2_with fail
  go_ret
  exact ⟨rfl, B5.out⟩
end Go.Proofs.Ytdifocahmephjaa.Tab
