/- Joined: NCP, NEP, NK. -/
import Derived.BigQuiet
import Derived.Deep.AppendLies
import Derived.Deep.DeepCutAuto
import Derived.Deep.LoopGhost
import Derived.Deep.Onto
import Derived.Deep.OwnRows
import Derived.Deep.QuietTactic
import Derived.Deep.RegionHeld3
import Derived.Deep.RegionLaw
import Derived.Deep.WholeRow
import Derived.Laws.AppendOwn
import Derived.Laws.BitsLemmas
import Derived.Laws.BytesArg
import Derived.Laws.DeepStrings4
import Derived.Laws.Externs
import Derived.Laws.IdiomStrings
import Derived.Laws.ResultCell
import Derived.Laws.Rows
import Derived.Laws.StructEq
import Derived.Laws.Tables
import Derived.Lib.AppendStr
import Derived.Lib.Bytealg
import Derived.Lib.Hide
import Derived.Lib.SlTrimSet
import Derived.LoopIn
import Derived.LoopN
import Derived.LoopNIn
import Derived.Maps.AppendAt
import Derived.Maps.Own
import Derived.Maps.OwnSet
import Derived.OpenShut
import Derived.Outline
import Derived.OwnWalk
import Derived.OwnWalkIn
import Derived.ProofKit
import Derived.RangeFuncBound
import Derived.RangeFuncBox
import Derived.RangeFuncCalls
import Derived.RangeFuncLeaves
import Derived.RangeFuncNested
import Derived.RangeFuncWrites
import Derived.Shelf.Abstract
import Derived.Shelf.LaysM
import Derived.Shelf.RegionOpen
import Derived.Shelf.Small.Wraps
import Derived.Shelf.Strings.Cut
import Derived.Shelf.Strings.Shaped
import Derived.Shelf.Strings.SlTrimAscii
import Derived.StillTailTactics
import Derived.TacticsInMore
import Derived.Test.YtppabkllconkjaaGreatDoorProg
import Derived.Test.YtppabkllconkjaaGreatDoorRows
import Derived.WalkKit
import Derived.WalkMore
import Derived.Test.YtppabkllconkjaaGreatDoorK01
import Derived.Test.YtppabkllconkjaaGreatDoorK03
import Derived.Test.YtppabkllconkjaaGreatDoorK04
import Derived.Test.YtppabkllconkjaaGreatDoorK05
import Derived.Test.YtppabkllconkjaaGreatDoorK07
import Derived.Test.YtppabkllconkjaaGreatDoorK09
import Derived.Test.YtppabkllconkjaaGreatDoorK10
import Derived.Test.YtppabkllconkjaaGreatDoorK11
import Derived.Test.YtppabkllconkjaaGreatDoorK12
import Derived.Test.YtppabkllconkjaaGreatDoorK13
import Derived.Test.YtppabkllconkjaaGreatDoorK14
import Derived.Test.YtppabkllconkjaaGreatDoorK15
import Derived.Test.YtppabkllconkjaaGreatDoorK16
import Derived.Test.YtppabkllconkjaaGreatDoorK18
import Derived.Test.YtppabkllconkjaaGreatDoorK20
import Derived.Test.YtppabkllconkjaaGreatDoorK24
import Derived.Test.YtppabkllconkjaaGreatDoorK25
/- The landed sniff: the codes of the encodings, Decode, Encode. -/
namespace Go.Proofs.YtppabkllconkjaaGreatDoor.Snf
open Go.RowKit
set_option linter.unusedVariables false
set_option linter.unusedSimpArgs false
set_option maxRecDepth 100000
set_option maxRecDepth 100000
open Lab (str str_size str_list str_eta str_inj u8v info5 info_parts)
theorem pone_any (x : Int) (w : World) : Calls Tryz.prog 32 #[.int .i8 x] w fun e w' => e = .returned (.bool (decide (0 ≤ x ∧ x < 6))) ∧ w' = w := by
  by_cases h0 : 0 ≤ x
  · have d0 : decide ((0 : Int) ≤ x) = true := by simpa using h0
    by_cases h1 : x < 6
    · have d1 : decide (x < (6 : Int)) = true := by simpa using h1
      have HR : Hid (decide (0 ≤ x ∧ x < 6) = true) := Lib.hid (by simp [h0, h1])
      rw [HR.out]
      go_enter Tryz.func32, Tryz.ntmps32
      go_wp2_with fail
      go_ret
      exact ⟨rfl, rfl⟩
    · have d1 : decide (x < (6 : Int)) = false := by simpa using h1
      have HR : Hid (decide (0 ≤ x ∧ x < 6) = false) := Lib.hid (by simp [h1])
      rw [HR.out]
      go_enter Tryz.func32, Tryz.ntmps32
      go_wp2_with fail
      go_ret
      exact ⟨rfl, rfl⟩
  · have d0 : decide ((0 : Int) ≤ x) = false := by simpa using h0
    have HR : Hid (decide (0 ≤ x ∧ x < 6) = false) := Lib.hid (by simp [h0])
    rw [HR.out]
    go_enter Tryz.func32, Tryz.ntmps32
    go_wp2_with fail
    go_ret
    exact ⟨rfl, rfl⟩
/-- The code of each encoding: what decodes, what encodes. -/
def codesV : Array Value := #[.func (.func 57) #[] #[], .func (.func 58) #[] #[], .func (.func 59) #[] #[], .func (.func 60) #[] #[], .func (.func 59) #[] #[], .func (.func 60) #[] #[], .func (.func 61) #[] #[], .func (.func 62) #[] #[], .func (.func 61) #[] #[], .func (.func 62) #[] #[], .func (.func 61) #[] #[], .func (.func 62) #[] #[]]
theorem info_codes : (Tryz.prog.info? 70).map (fun i => (i.zero, i.size)) = some (some (.agg (Array.replicate 12 .nilFunc)), 12) := by kernel_rfl
theorem one_codes : codesV.all (·.oneCell') = true := by simp [codesV, Value.oneCell']
theorem build_codes (w : World) : (Instr.build 70 #[(0, .agg #[.func (.func 57) #[] #[], .func (.func 58) #[] #[]]), (1, .agg #[.func (.func 59) #[] #[], .func (.func 60) #[] #[]]), (2, .agg #[.func (.func 59) #[] #[], .func (.func 60) #[] #[]]), (3, .agg #[.func (.func 61) #[] #[], .func (.func 62) #[] #[]]), (4, .agg #[.func (.func 61) #[] #[], .func (.func 62) #[] #[]]), (5, .agg #[.func (.func 61) #[] #[], .func (.func 62) #[] #[]])]).run Tryz.prog w = .ok (.agg codesV) w := by kernel_rfl
theorem ix_codes0 (w : World) : (Instr.index 70 (.agg codesV) (.int .i8 0)).run Tryz.prog w = .ok (.agg #[.func (.func 57) #[] #[], .func (.func 58) #[] #[]]) w := by kernel_rfl
theorem ix_codes1 (w : World) : (Instr.index 70 (.agg codesV) (.int .i8 1)).run Tryz.prog w = .ok (.agg #[.func (.func 59) #[] #[], .func (.func 60) #[] #[]]) w := by kernel_rfl
theorem ix_codes2 (w : World) : (Instr.index 70 (.agg codesV) (.int .i8 2)).run Tryz.prog w = .ok (.agg #[.func (.func 59) #[] #[], .func (.func 60) #[] #[]]) w := by kernel_rfl
theorem ix_codes3 (w : World) : (Instr.index 70 (.agg codesV) (.int .i8 3)).run Tryz.prog w = .ok (.agg #[.func (.func 61) #[] #[], .func (.func 62) #[] #[]]) w := by kernel_rfl
theorem ix_codes4 (w : World) : (Instr.index 70 (.agg codesV) (.int .i8 4)).run Tryz.prog w = .ok (.agg #[.func (.func 61) #[] #[], .func (.func 62) #[] #[]]) w := by kernel_rfl
theorem ix_codes5 (w : World) : (Instr.index 70 (.agg codesV) (.int .i8 5)).run Tryz.prog w = .ok (.agg #[.func (.func 61) #[] #[], .func (.func 62) #[] #[]]) w := by kernel_rfl
theorem fd_codes0_0 (w : World) : (Instr.field 69 (.agg #[.func (.func 57) #[] #[], .func (.func 58) #[] #[]]) 0).run Tryz.prog w = .ok (.func (.func 57) #[] #[]) w := by kernel_rfl
theorem fd_codes0_1 (w : World) : (Instr.field 69 (.agg #[.func (.func 57) #[] #[], .func (.func 58) #[] #[]]) 1).run Tryz.prog w = .ok (.func (.func 58) #[] #[]) w := by kernel_rfl
theorem fd_codes1_0 (w : World) : (Instr.field 69 (.agg #[.func (.func 59) #[] #[], .func (.func 60) #[] #[]]) 0).run Tryz.prog w = .ok (.func (.func 59) #[] #[]) w := by kernel_rfl
theorem fd_codes1_1 (w : World) : (Instr.field 69 (.agg #[.func (.func 59) #[] #[], .func (.func 60) #[] #[]]) 1).run Tryz.prog w = .ok (.func (.func 60) #[] #[]) w := by kernel_rfl
theorem fd_codes2_0 (w : World) : (Instr.field 69 (.agg #[.func (.func 59) #[] #[], .func (.func 60) #[] #[]]) 0).run Tryz.prog w = .ok (.func (.func 59) #[] #[]) w := by kernel_rfl
theorem fd_codes2_1 (w : World) : (Instr.field 69 (.agg #[.func (.func 59) #[] #[], .func (.func 60) #[] #[]]) 1).run Tryz.prog w = .ok (.func (.func 60) #[] #[]) w := by kernel_rfl
theorem fd_codes3_0 (w : World) : (Instr.field 69 (.agg #[.func (.func 61) #[] #[], .func (.func 62) #[] #[]]) 0).run Tryz.prog w = .ok (.func (.func 61) #[] #[]) w := by kernel_rfl
theorem fd_codes3_1 (w : World) : (Instr.field 69 (.agg #[.func (.func 61) #[] #[], .func (.func 62) #[] #[]]) 1).run Tryz.prog w = .ok (.func (.func 62) #[] #[]) w := by kernel_rfl
theorem fd_codes4_0 (w : World) : (Instr.field 69 (.agg #[.func (.func 61) #[] #[], .func (.func 62) #[] #[]]) 0).run Tryz.prog w = .ok (.func (.func 61) #[] #[]) w := by kernel_rfl
theorem fd_codes4_1 (w : World) : (Instr.field 69 (.agg #[.func (.func 61) #[] #[], .func (.func 62) #[] #[]]) 1).run Tryz.prog w = .ok (.func (.func 62) #[] #[]) w := by kernel_rfl
theorem fd_codes5_0 (w : World) : (Instr.field 69 (.agg #[.func (.func 61) #[] #[], .func (.func 62) #[] #[]]) 0).run Tryz.prog w = .ok (.func (.func 61) #[] #[]) w := by kernel_rfl
theorem fd_codes5_1 (w : World) : (Instr.field 69 (.agg #[.func (.func 61) #[] #[], .func (.func 62) #[] #[]]) 1).run Tryz.prog w = .ok (.func (.func 62) #[] #[]) w := by kernel_rfl
set_option maxHeartbeats 2000000 in
theorem pcodes_any (w : World) : Calls Tryz.prog 33 #[] w fun e w' => e = .returned (.agg codesV) ∧ Below w.heap.size w w' := by
  have hbc := build_codes
  go_enter Tryz.func33, Tryz.ntmps33
  go_wp2_with (first
    | (refine U.wpList_alloc_agg _ rfl 70 rfl _ 12 info_codes ?_)
    | (refine U.wpList_build_to _ rfl 70 _ rfl _ _ hbc rfl ?_; clear hbc)
    | (refine U.wpList_store_agg _ rfl 70 _ _ rfl _ codesV 12 info_codes rfl rfl one_codes rfl rfl ?_; intro w1 hk1 hb1))
  refine bodyPost_ret (results_cell_row rfl _ _ w.heap.size 70 codesV (0, 0) _ rfl hk1 Tryz.underlying70 rfl (zero_of_info info_codes).2) rfl ?_
  exact ⟨rfl, hb1⟩
theorem pfrom8_any (b : List UInt8) (w : World) (hG : G8 w) (hs : b.length ≤ 5000) : Calls Tryz.prog 57 #[.int .i8 0, .string (str b)] w fun e w' => DeR 0 b w e w' := by
  unfold DeR
  have HC : Hid (Calls Tryz.prog 94 #[.string (str b)] w fun e w' => e = .returned (.tuple #[.string (str (decF 0 b).1), .int .i64 (decF 0 b).2]) ∧ Below w.heap.size w w') := Lib.hid (by
    have := U.loose_any (str b) w hG.u (by rw [str_size]; omega)
    unfold U.LooseS at this
    rw [str_list] at this
    exact this)
  obtain ⟨D, hD⟩ : ∃ D, decF 0 b = D := ⟨_, rfl⟩
  rw [hD] at HC ⊢
  obtain ⟨T, hT⟩ : ∃ T, str D.1 = T := ⟨_, rfl⟩
  rw [hT] at HC ⊢
  obtain ⟨s, hs'⟩ : ∃ s, str b = s := ⟨_, rfl⟩
  rw [hs'] at HC ⊢
  clear hT hs' hs hD
  go_enter Tryz.func57, Tryz.ntmps57
  go_wp2_with (go_at_call 94; refine HC.out.mono ?_; rintro _ w1 ⟨rfl, hb1⟩; clear HC)
  go_ret2
  exact ⟨rfl, hb1⟩
theorem pto8_any (b : List UInt8) (w : World) (hG : G8 w) (hs : b.length ≤ 5000) : Calls Tryz.prog 58 #[.int .i8 0, .string (str b)] w fun e w' => EcR 0 b w e w' := by
  unfold EcR
  have HC : Hid (Calls Tryz.prog 95 #[.string (str b)] w fun e w' => e = .returned (.bool (U.okB b)) ∧ Below w.heap.size w w') := Lib.hid (by
    have := U.valid_any (str b) w hG.u (by rw [str_size]; omega)
    rw [str_list] at this
    exact this)
  have HD : Hid (encdF 0 b = if U.okB b = true then (b, true) else ([], false)) := Lib.hid rfl
  obtain ⟨k, hk⟩ : ∃ k, U.okB b = k := ⟨_, rfl⟩
  rw [hk] at HC HD
  obtain ⟨s, hs'⟩ : ∃ s, str b = s := ⟨_, rfl⟩
  have HT := Lib.hid hs'
  rw [hs'] at HC ⊢
  clear hk hs' hs
  cases k with
  | true =>
    go_enter Tryz.func58, Tryz.ntmps58
    go_wp2_with (go_at_call 95; refine HC.out.mono ?_; rintro _ w1 ⟨rfl, hb1⟩; clear HC)
    go_ret2
    exact ec_ret HD.out (by rw [HT.out]) hb1
  | false =>
    go_enter Tryz.func58, Tryz.ntmps58
    go_wp2_with (go_at_call 95; refine HC.out.mono ?_; rintro _ w1 ⟨rfl, hb1⟩; clear HC)
    go_ret2
    exact ec_ret HD.out rfl hb1
set_option maxHeartbeats 4000000 in
theorem pfrom16_1 (b : List UInt8) (w : World) (hG : G8 w) (hs : b.length ≤ 5000) : Calls Tryz.prog 59 #[.int .i8 1, .string (str b)] w fun e w' => DeR 1 b w e w' := by
  unfold DeR
  have HB : Hid (∀ w, Calls Tryz.prog 97 #[.int .i8 1] w fun e w' => e = .returned (.bool false) ∧ w' = w) := Lib.hid fun w => pbig_any 1 w
  have HC : Hid (Calls Tryz.prog 96 #[.string (str b), .bool false] w fun e w' => ∃ v, e = .returned (.tuple #[.string (str (U.t16 false b)), v]) ∧ U.Ints w' v (U.b16 false b) ∧ Below w.heap.size w w') := Lib.hid (by
    have := (U.decode_any (str b) false w hG.u (by rw [str_size]; omega)).mono fun e w' h => (by
      obtain ⟨v, h1, h2, h3⟩ := h
      exact ⟨v, h1, U.ints_of_own h2, h3⟩ : ∃ v, e = .returned (.tuple #[.string (U.str (U.t16 false (str b).data.toList)), v]) ∧ U.Ints w' v (U.b16 false (str b).data.toList) ∧ Below w.heap.size w w')
    rw [str_list] at this
    exact this)
  have HD : Hid (decF 1 b = (U.t16 false b, (U.b16 false b).headD (-1))) := Lib.hid rfl
  obtain ⟨T, hT⟩ : ∃ T, str (U.t16 false b) = T := ⟨_, rfl⟩
  have HT := Lib.hid hT
  rw [hT] at HC
  obtain ⟨s, hs'⟩ : ∃ s, str b = s := ⟨_, rfl⟩
  rw [hs'] at HC ⊢
  clear hT hs' hs
  cases hb : U.b16 false b with
  | nil =>
    rw [hb] at HC HD
    clear hb
    go_enter Tryz.func59, Tryz.ntmps59
    go_wp2_with (first
      | (go_at_call 97; refine (HB.out _).mono ?_; rintro _ w9 ⟨rfl, hw9⟩; subst w9; clear HB)
      | (go_at_call 96; refine HC.out.mono ?_; rintro _ w1 ⟨v, rfl, hv, hb1⟩; clear HC; obtain ⟨_, p1, cap1, rfl⟩ | ⟨b1, o1, cap1, rfl, _, _⟩ := hv))
    all_goals
      go_ret2
      exact de_ret HD.out (by rw [HT.out]) hb1
  | cons y t =>
    rw [hb] at HC HD
    clear hb
    obtain ⟨N, hN⟩ : ∃ N, (y :: t).length = N := ⟨_, rfl⟩
    have hN1 : 0 < N := by rw [← hN]; simp
    have HC2 : Hid (Calls Tryz.prog 96 #[.string s, .bool false] w fun e w' => ∃ b1 o1 cap1, e = .returned (.tuple #[.string T, .slice (some ⟨b1, o1, none⟩) N cap1]) ∧ w'.cell? ⟨b1, o1, none⟩ = some (.int .i64 y) ∧ Below w.heap.size w w') := Lib.hid (HC.out.mono fun e w' h => by
      obtain ⟨v, h1, h2, h3⟩ := h
      rcases h2 with ⟨h2, _⟩ | ⟨b1, o1, cap1, h2, _, h4⟩
      · simp at h2
      · refine ⟨b1, o1, cap1, by rw [h1, h2, hN], ?_, h3⟩
        have := h4 0 (by simp)
        simpa using this)
    have d1 : ((N : Int) == 0) = false := by simp; omega
    have d1n : (N == 0) = false := by simp; omega
    have d2 : (0 : Int) < (N : Int) := by omega
    clear HC hN
    go_enter Tryz.func59, Tryz.ntmps59
    go_wp2_with (first
      | (go_at_call 97; refine (HB.out _).mono ?_; rintro _ w9 ⟨rfl, hw9⟩; subst w9; clear HB)
      | (go_at_call 96; refine HC2.out.mono ?_; rintro _ w1 ⟨b1, o1, cap1, rfl, hc1, hb1⟩; clear HC2))
    go_quiet (fail)
    go_wp2_with fail
    try rw [Exit.noGoto_ret]
    go_ret2
    exact de_ret HD.out (by rw [HT.out]) (below_draws hb1 _)
set_option maxHeartbeats 4000000 in
theorem pto16_1 (b : List UInt8) (w : World) (hG : G8 w) (hs : b.length ≤ 5000) : Calls Tryz.prog 60 #[.int .i8 1, .string (str b)] w fun e w' => EcR 1 b w e w' := by
  unfold EcR
  have HB : Hid (∀ w, Calls Tryz.prog 97 #[.int .i8 1] w fun e w' => e = .returned (.bool false) ∧ w' = w) := Lib.hid fun w => pbig_any 1 w
  have HC0 := U.encode_any (str b) false w hG.u (by rw [str_size]; omega)
  unfold U.Enc16S at HC0
  rw [str_list] at HC0
  obtain ⟨k, hk⟩ : ∃ k, U.okB b = k := ⟨_, rfl⟩
  have HD : Hid (encdF 1 b = (if k = true then U.es16 false (U.scl b) else [], k)) := Lib.hid (by rw [← hk]; rfl)
  rw [hk] at HC0
  obtain ⟨R, hR⟩ : ∃ R, (if k = true then U.es16 false (U.scl b) else []) = R := ⟨_, rfl⟩
  rw [hR] at HC0 HD
  have HC : Hid (Calls Tryz.prog 98 #[.string (str b), .bool false] w fun e w' => e = .returned (.tuple #[.string (str R), .int .i64 (if k = true then 0 else 70)]) ∧ Below w.heap.size w w') := Lib.hid HC0
  obtain ⟨T, hT⟩ : ∃ T, str R = T := ⟨_, rfl⟩
  have HT := Lib.hid hT
  rw [hT] at HC
  obtain ⟨s, hs'⟩ : ∃ s, str b = s := ⟨_, rfl⟩
  rw [hs'] at HC ⊢
  clear hT hs' hs HC0 hk hR
  cases k with
  | true =>
    go_enter Tryz.func60, Tryz.ntmps60
    go_wp2_with (first
      | (go_at_call 97; refine (HB.out _).mono ?_; rintro _ w9 ⟨rfl, hw9⟩; subst w9; clear HB)
      | (go_at_call 98; refine HC.out.mono ?_; rintro _ w1 ⟨rfl, hb1⟩; clear HC))
    go_ret2
    exact ec_ret HD.out (by rw [HT.out]) hb1
  | false =>
    go_enter Tryz.func60, Tryz.ntmps60
    go_wp2_with (first
      | (go_at_call 97; refine (HB.out _).mono ?_; rintro _ w9 ⟨rfl, hw9⟩; subst w9; clear HB)
      | (go_at_call 98; refine HC.out.mono ?_; rintro _ w1 ⟨rfl, hb1⟩; clear HC))
    go_ret2
    exact ec_ret HD.out (by rw [HT.out]) hb1
set_option maxHeartbeats 4000000 in
theorem pfrom16_2 (b : List UInt8) (w : World) (hG : G8 w) (hs : b.length ≤ 5000) : Calls Tryz.prog 59 #[.int .i8 2, .string (str b)] w fun e w' => DeR 2 b w e w' := by
  unfold DeR
  have HB : Hid (∀ w, Calls Tryz.prog 97 #[.int .i8 2] w fun e w' => e = .returned (.bool true) ∧ w' = w) := Lib.hid fun w => pbig_any 2 w
  have HC : Hid (Calls Tryz.prog 96 #[.string (str b), .bool true] w fun e w' => ∃ v, e = .returned (.tuple #[.string (str (U.t16 true b)), v]) ∧ U.Ints w' v (U.b16 true b) ∧ Below w.heap.size w w') := Lib.hid (by
    have := (U.decode_any (str b) true w hG.u (by rw [str_size]; omega)).mono fun e w' h => (by
      obtain ⟨v, h1, h2, h3⟩ := h
      exact ⟨v, h1, U.ints_of_own h2, h3⟩ : ∃ v, e = .returned (.tuple #[.string (U.str (U.t16 true (str b).data.toList)), v]) ∧ U.Ints w' v (U.b16 true (str b).data.toList) ∧ Below w.heap.size w w')
    rw [str_list] at this
    exact this)
  have HD : Hid (decF 2 b = (U.t16 true b, (U.b16 true b).headD (-1))) := Lib.hid rfl
  obtain ⟨T, hT⟩ : ∃ T, str (U.t16 true b) = T := ⟨_, rfl⟩
  have HT := Lib.hid hT
  rw [hT] at HC
  obtain ⟨s, hs'⟩ : ∃ s, str b = s := ⟨_, rfl⟩
  rw [hs'] at HC ⊢
  clear hT hs' hs
  cases hb : U.b16 true b with
  | nil =>
    rw [hb] at HC HD
    clear hb
    go_enter Tryz.func59, Tryz.ntmps59
    go_wp2_with (first
      | (go_at_call 97; refine (HB.out _).mono ?_; rintro _ w9 ⟨rfl, hw9⟩; subst w9; clear HB)
      | (go_at_call 96; refine HC.out.mono ?_; rintro _ w1 ⟨v, rfl, hv, hb1⟩; clear HC; obtain ⟨_, p1, cap1, rfl⟩ | ⟨b1, o1, cap1, rfl, _, _⟩ := hv))
    all_goals
      go_ret2
      exact de_ret HD.out (by rw [HT.out]) hb1
  | cons y t =>
    rw [hb] at HC HD
    clear hb
    obtain ⟨N, hN⟩ : ∃ N, (y :: t).length = N := ⟨_, rfl⟩
    have hN1 : 0 < N := by rw [← hN]; simp
    have HC2 : Hid (Calls Tryz.prog 96 #[.string s, .bool true] w fun e w' => ∃ b1 o1 cap1, e = .returned (.tuple #[.string T, .slice (some ⟨b1, o1, none⟩) N cap1]) ∧ w'.cell? ⟨b1, o1, none⟩ = some (.int .i64 y) ∧ Below w.heap.size w w') := Lib.hid (HC.out.mono fun e w' h => by
      obtain ⟨v, h1, h2, h3⟩ := h
      rcases h2 with ⟨h2, _⟩ | ⟨b1, o1, cap1, h2, _, h4⟩
      · simp at h2
      · refine ⟨b1, o1, cap1, by rw [h1, h2, hN], ?_, h3⟩
        have := h4 0 (by simp)
        simpa using this)
    have d1 : ((N : Int) == 0) = false := by simp; omega
    have d1n : (N == 0) = false := by simp; omega
    have d2 : (0 : Int) < (N : Int) := by omega
    clear HC hN
    go_enter Tryz.func59, Tryz.ntmps59
    go_wp2_with (first
      | (go_at_call 97; refine (HB.out _).mono ?_; rintro _ w9 ⟨rfl, hw9⟩; subst w9; clear HB)
      | (go_at_call 96; refine HC2.out.mono ?_; rintro _ w1 ⟨b1, o1, cap1, rfl, hc1, hb1⟩; clear HC2))
    go_quiet (fail)
    go_wp2_with fail
    try rw [Exit.noGoto_ret]
    go_ret2
    exact de_ret HD.out (by rw [HT.out]) (below_draws hb1 _)
set_option maxHeartbeats 4000000 in
theorem pto16_2 (b : List UInt8) (w : World) (hG : G8 w) (hs : b.length ≤ 5000) : Calls Tryz.prog 60 #[.int .i8 2, .string (str b)] w fun e w' => EcR 2 b w e w' := by
  unfold EcR
  have HB : Hid (∀ w, Calls Tryz.prog 97 #[.int .i8 2] w fun e w' => e = .returned (.bool true) ∧ w' = w) := Lib.hid fun w => pbig_any 2 w
  have HC0 := U.encode_any (str b) true w hG.u (by rw [str_size]; omega)
  unfold U.Enc16S at HC0
  rw [str_list] at HC0
  obtain ⟨k, hk⟩ : ∃ k, U.okB b = k := ⟨_, rfl⟩
  have HD : Hid (encdF 2 b = (if k = true then U.es16 true (U.scl b) else [], k)) := Lib.hid (by rw [← hk]; rfl)
  rw [hk] at HC0
  obtain ⟨R, hR⟩ : ∃ R, (if k = true then U.es16 true (U.scl b) else []) = R := ⟨_, rfl⟩
  rw [hR] at HC0 HD
  have HC : Hid (Calls Tryz.prog 98 #[.string (str b), .bool true] w fun e w' => e = .returned (.tuple #[.string (str R), .int .i64 (if k = true then 0 else 70)]) ∧ Below w.heap.size w w') := Lib.hid HC0
  obtain ⟨T, hT⟩ : ∃ T, str R = T := ⟨_, rfl⟩
  have HT := Lib.hid hT
  rw [hT] at HC
  obtain ⟨s, hs'⟩ : ∃ s, str b = s := ⟨_, rfl⟩
  rw [hs'] at HC ⊢
  clear hT hs' hs HC0 hk hR
  cases k with
  | true =>
    go_enter Tryz.func60, Tryz.ntmps60
    go_wp2_with (first
      | (go_at_call 97; refine (HB.out _).mono ?_; rintro _ w9 ⟨rfl, hw9⟩; subst w9; clear HB)
      | (go_at_call 98; refine HC.out.mono ?_; rintro _ w1 ⟨rfl, hb1⟩; clear HC))
    go_ret2
    exact ec_ret HD.out (by rw [HT.out]) hb1
  | false =>
    go_enter Tryz.func60, Tryz.ntmps60
    go_wp2_with (first
      | (go_at_call 97; refine (HB.out _).mono ?_; rintro _ w9 ⟨rfl, hw9⟩; subst w9; clear HB)
      | (go_at_call 98; refine HC.out.mono ?_; rintro _ w1 ⟨rfl, hb1⟩; clear HC))
    go_ret2
    exact ec_ret HD.out (by rw [HT.out]) hb1
set_option maxHeartbeats 4000000 in
theorem pfrom1_any (x : Int) (hwf : (Lit.int .i8 x).wf = true) (hE : U.isE x = true) (b : List UInt8) (w : World) (hG : G8 w) (hs : b.length ≤ 5000) : Calls Tryz.prog 61 #[.int .i8 x, .string (str b)] w fun e w' => DeR x b w e w' := by
  unfold DeR
  have h3 := U.isE_iff.1 hE
  have HC0 := U.fdecode_any x hwf (str b) w hG.u (by rw [str_size]; omega)
  unfold U.DecS at HC0
  have HC : Hid (Calls Tryz.prog 99 #[.int .i8 x, .string (str b)] w fun e w' => e = .returned (.tuple #[.string (str (U.encs (b.map fun c => U.scE x c.toNat))), .int .i64 0]) ∧ Below w.heap.size w w') := Lib.hid (by
    rw [rsingle_form x b hE, show U.decC x = 0 by unfold U.decC; rw [if_pos hE]] at HC0
    exact HC0)
  have HD : Hid (decF x b = (U.encs (b.map fun c => U.scE x c.toNat), -1)) := Lib.hid (by unfold decF; rw [if_neg (by omega), if_neg (by omega), if_pos hE])
  obtain ⟨T, hT⟩ : ∃ T, str (U.encs (b.map fun c => U.scE x c.toNat)) = T := ⟨_, rfl⟩
  have HT := Lib.hid hT
  rw [hT] at HC
  obtain ⟨s, hs'⟩ : ∃ s, str b = s := ⟨_, rfl⟩
  rw [hs'] at HC ⊢
  clear hT hs' hs HC0 h3 hE hwf
  go_enter Tryz.func61, Tryz.ntmps61
  go_wp2_with (go_at_call 99; refine HC.out.mono ?_; rintro _ w1 ⟨rfl, hb1⟩; clear HC)
  go_ret2
  exact de_ret HD.out (by rw [HT.out]) hb1
set_option maxHeartbeats 4000000 in
theorem pto1_any (x : Int) (hwf : (Lit.int .i8 x).wf = true) (hE : U.isE x = true) (b : List UInt8) (w : World) (hG : G8 w) (hs : b.length ≤ 5000) : Calls Tryz.prog 62 #[.int .i8 x, .string (str b)] w fun e w' => EcR x b w e w' := by
  unfold EcR
  have h3 := U.isE_iff.1 hE
  have HC0 := U.fencode_any x hwf (str b) w hG.u (by rw [str_size]; omega)
  unfold U.EncS at HC0
  obtain ⟨R, A, Z, hR⟩ : ∃ R A Z, U.encR x (str b) = (R, A, Z) := ⟨_, _, _, rfl⟩
  have HD : Hid (encdF x b = (R, decide (Z = 0))) := Lib.hid (by unfold encdF; rw [if_neg (by omega), if_neg (by omega), hR])
  rw [hR] at HC0
  have HC : Hid (Calls Tryz.prog 100 #[.int .i8 x, .string (str b)] w fun e w' => e = .returned (.tuple #[.string (str R), .int .i64 A, .int .i64 Z]) ∧ Below w.heap.size w w') := Lib.hid HC0
  obtain ⟨T, hT⟩ : ∃ T, str R = T := ⟨_, rfl⟩
  have HT := Lib.hid hT
  rw [hT] at HC
  obtain ⟨s, hs'⟩ : ∃ s, str b = s := ⟨_, rfl⟩
  rw [hs'] at HC ⊢
  clear hT hs' hs HC0 h3 hE hR hwf
  by_cases hz : Z = 0
  · have dz : (Z == 0) = true := by rw [hz]; rfl
    have HD2 : Hid (encdF x b = (R, true)) := Lib.hid (by rw [HD.out, hz]; rfl)
    clear hz HD
    go_enter Tryz.func62, Tryz.ntmps62
    go_wp2_with (go_at_call 100; refine HC.out.mono ?_; rintro _ w1 ⟨rfl, hb1⟩; clear HC)
    go_ret2
    exact ec_ret HD2.out (by rw [HT.out]) hb1
  · have dz : (Z == 0) = false := by simpa using hz
    have HD2 : Hid (encdF x b = (R, false)) := Lib.hid (by rw [HD.out]; simp [hz])
    clear hz HD
    go_enter Tryz.func62, Tryz.ntmps62
    go_wp2_with (go_at_call 100; refine HC.out.mono ?_; rintro _ w1 ⟨rfl, hb1⟩; clear HC)
    go_ret2
    exact ec_ret HD2.out (by rw [HT.out]) hb1
set_option maxHeartbeats 8000000 in
theorem pdecode_any (x : Int) (hwf : (Lit.int .i8 x).wf = true) (b : List UInt8) (w : World) (hG : G8 w) (hs : b.length ≤ 5000) : Calls Tryz.prog 15 #[.int .i8 x, .string (str b)] w fun e w' => DeR x b w e w' := by
  have H1 : Hid (∀ w, Calls Tryz.prog 32 #[.int .i8 x] w fun e w' => e = .returned (.bool (decide (0 ≤ x ∧ x < 6))) ∧ w' = w) := Lib.hid fun w => pone_any x w
  by_cases hx : 0 ≤ x ∧ x < 6
  · rw [decide_eq_true hx] at H1
    have HGN : Hid (∀ w', Below w.heap.size w w' → G8 w') := Lib.hid fun w' h => hG.next h
    have hcase : x = 0 ∨ x = 1 ∨ x = 2 ∨ x = 3 ∨ x = 4 ∨ x = 5 := by omega
    clear hx
    rcases hcase with rfl | rfl | rfl | rfl | rfl | rfl
    · have hix := ix_codes0
      have hfd := fd_codes0_0
      have HC : Hid (∀ w', G8 w' → Calls Tryz.prog 57 #[.int .i8 0, .string (str b)] w' fun e w'' => DeR 0 b w' e w'') := Lib.hid fun w' g => pfrom8_any b w' g hs
      unfold DeR at HC ⊢
      obtain ⟨s, hs'⟩ : ∃ s, str b = s := ⟨_, rfl⟩
      rw [hs'] at HC ⊢
      clear hs' hs hG
      go_enter Tryz.func15, Tryz.ntmps15
      go_wp2_with (first
        | (go_at_call 32; refine (H1.out _).mono ?_; rintro _ w9 ⟨rfl, hw9⟩; subst w9; clear H1)
        | (go_at_call 33; refine (pcodes_any _).mono ?_; rintro _ w1 ⟨rfl, hb1⟩; have HB1 := Lib.hid hb1; clear hb1)
        | (go_at_call 57; refine (HC.out _ (HGN.out _ HB1.out)).mono ?_; rintro _ w2 ⟨rfl, hb2⟩; have HB2 := Lib.hid (below_call HB1.out hb2); clear HC hb2))
      go_ret2
      exact ⟨rfl, HB2.out⟩
    · have hix := ix_codes1
      have hfd := fd_codes1_0
      have HC : Hid (∀ w', G8 w' → Calls Tryz.prog 59 #[.int .i8 1, .string (str b)] w' fun e w'' => DeR 1 b w' e w'') := Lib.hid fun w' g => pfrom16_1 b w' g hs
      unfold DeR at HC ⊢
      obtain ⟨s, hs'⟩ : ∃ s, str b = s := ⟨_, rfl⟩
      rw [hs'] at HC ⊢
      clear hs' hs hG
      go_enter Tryz.func15, Tryz.ntmps15
      go_wp2_with (first
        | (go_at_call 32; refine (H1.out _).mono ?_; rintro _ w9 ⟨rfl, hw9⟩; subst w9; clear H1)
        | (go_at_call 33; refine (pcodes_any _).mono ?_; rintro _ w1 ⟨rfl, hb1⟩; have HB1 := Lib.hid hb1; clear hb1)
        | (go_at_call 59; refine (HC.out _ (HGN.out _ HB1.out)).mono ?_; rintro _ w2 ⟨rfl, hb2⟩; have HB2 := Lib.hid (below_call HB1.out hb2); clear HC hb2))
      go_ret2
      exact ⟨rfl, HB2.out⟩
    · have hix := ix_codes2
      have hfd := fd_codes2_0
      have HC : Hid (∀ w', G8 w' → Calls Tryz.prog 59 #[.int .i8 2, .string (str b)] w' fun e w'' => DeR 2 b w' e w'') := Lib.hid fun w' g => pfrom16_2 b w' g hs
      unfold DeR at HC ⊢
      obtain ⟨s, hs'⟩ : ∃ s, str b = s := ⟨_, rfl⟩
      rw [hs'] at HC ⊢
      clear hs' hs hG
      go_enter Tryz.func15, Tryz.ntmps15
      go_wp2_with (first
        | (go_at_call 32; refine (H1.out _).mono ?_; rintro _ w9 ⟨rfl, hw9⟩; subst w9; clear H1)
        | (go_at_call 33; refine (pcodes_any _).mono ?_; rintro _ w1 ⟨rfl, hb1⟩; have HB1 := Lib.hid hb1; clear hb1)
        | (go_at_call 59; refine (HC.out _ (HGN.out _ HB1.out)).mono ?_; rintro _ w2 ⟨rfl, hb2⟩; have HB2 := Lib.hid (below_call HB1.out hb2); clear HC hb2))
      go_ret2
      exact ⟨rfl, HB2.out⟩
    · have hix := ix_codes3
      have hfd := fd_codes3_0
      have HC : Hid (∀ w', G8 w' → Calls Tryz.prog 61 #[.int .i8 3, .string (str b)] w' fun e w'' => DeR 3 b w' e w'') := Lib.hid fun w' g => pfrom1_any 3 rfl rfl b w' g hs
      unfold DeR at HC ⊢
      obtain ⟨s, hs'⟩ : ∃ s, str b = s := ⟨_, rfl⟩
      rw [hs'] at HC ⊢
      clear hs' hs hG
      go_enter Tryz.func15, Tryz.ntmps15
      go_wp2_with (first
        | (go_at_call 32; refine (H1.out _).mono ?_; rintro _ w9 ⟨rfl, hw9⟩; subst w9; clear H1)
        | (go_at_call 33; refine (pcodes_any _).mono ?_; rintro _ w1 ⟨rfl, hb1⟩; have HB1 := Lib.hid hb1; clear hb1)
        | (go_at_call 61; refine (HC.out _ (HGN.out _ HB1.out)).mono ?_; rintro _ w2 ⟨rfl, hb2⟩; have HB2 := Lib.hid (below_call HB1.out hb2); clear HC hb2))
      go_ret2
      exact ⟨rfl, HB2.out⟩
    · have hix := ix_codes4
      have hfd := fd_codes4_0
      have HC : Hid (∀ w', G8 w' → Calls Tryz.prog 61 #[.int .i8 4, .string (str b)] w' fun e w'' => DeR 4 b w' e w'') := Lib.hid fun w' g => pfrom1_any 4 rfl rfl b w' g hs
      unfold DeR at HC ⊢
      obtain ⟨s, hs'⟩ : ∃ s, str b = s := ⟨_, rfl⟩
      rw [hs'] at HC ⊢
      clear hs' hs hG
      go_enter Tryz.func15, Tryz.ntmps15
      go_wp2_with (first
        | (go_at_call 32; refine (H1.out _).mono ?_; rintro _ w9 ⟨rfl, hw9⟩; subst w9; clear H1)
        | (go_at_call 33; refine (pcodes_any _).mono ?_; rintro _ w1 ⟨rfl, hb1⟩; have HB1 := Lib.hid hb1; clear hb1)
        | (go_at_call 61; refine (HC.out _ (HGN.out _ HB1.out)).mono ?_; rintro _ w2 ⟨rfl, hb2⟩; have HB2 := Lib.hid (below_call HB1.out hb2); clear HC hb2))
      go_ret2
      exact ⟨rfl, HB2.out⟩
    · have hix := ix_codes5
      have hfd := fd_codes5_0
      have HC : Hid (∀ w', G8 w' → Calls Tryz.prog 61 #[.int .i8 5, .string (str b)] w' fun e w'' => DeR 5 b w' e w'') := Lib.hid fun w' g => pfrom1_any 5 rfl rfl b w' g hs
      unfold DeR at HC ⊢
      obtain ⟨s, hs'⟩ : ∃ s, str b = s := ⟨_, rfl⟩
      rw [hs'] at HC ⊢
      clear hs' hs hG
      go_enter Tryz.func15, Tryz.ntmps15
      go_wp2_with (first
        | (go_at_call 32; refine (H1.out _).mono ?_; rintro _ w9 ⟨rfl, hw9⟩; subst w9; clear H1)
        | (go_at_call 33; refine (pcodes_any _).mono ?_; rintro _ w1 ⟨rfl, hb1⟩; have HB1 := Lib.hid hb1; clear hb1)
        | (go_at_call 61; refine (HC.out _ (HGN.out _ HB1.out)).mono ?_; rintro _ w2 ⟨rfl, hb2⟩; have HB2 := Lib.hid (below_call HB1.out hb2); clear HC hb2))
      go_ret2
      exact ⟨rfl, HB2.out⟩
  · rw [decide_eq_false hx] at H1
    have h0 : x ≠ 0 := by omega
    have h12 : ¬ (x = 1 ∨ x = 2) := by omega
    have hE : ¬ U.isE x = true := fun h => by have := U.isE_iff.1 h; omega
    unfold DeR
    have HD : Hid (decF x b = ([], if b = [] then -1 else 0)) := Lib.hid (by unfold decF; rw [if_neg h0, if_neg h12, if_neg hE])
    have hnl : ((str b).toList == []) = (b == []) := by rw [Dec.toList_str]
    obtain ⟨s, hs'⟩ : ∃ s, str b = s := ⟨_, rfl⟩
    rw [hs'] at hnl ⊢
    clear hs' hs h0 h12 hE hx hwf hG
    by_cases hb : b = []
    · have HD2 : Hid (decF x b = ([], -1)) := Lib.hid (by rw [HD.out, if_pos hb])
      have d1 : (s.toList == []) = true := by rw [hnl, hb]; rfl
      clear HD hb hnl
      go_enter Tryz.func15, Tryz.ntmps15
      go_wp2_with (go_at_call 32; refine (H1.out _).mono ?_; rintro _ w9 ⟨rfl, hw9⟩; subst w9; clear H1)
      go_ret2
      exact de_ret HD2.out rfl (Below.refl _ _)
    · have HD2 : Hid (decF x b = ([], 0)) := Lib.hid (by rw [HD.out, if_neg hb])
      have d1 : (s.toList == []) = false := by rw [hnl]; simpa using hb
      clear HD hb hnl
      go_enter Tryz.func15, Tryz.ntmps15
      go_wp2_with (go_at_call 32; refine (H1.out _).mono ?_; rintro _ w9 ⟨rfl, hw9⟩; subst w9; clear H1)
      go_ret2
      exact de_ret HD2.out rfl (Below.refl _ _)
set_option maxHeartbeats 8000000 in
theorem pencode_any (x : Int) (hwf : (Lit.int .i8 x).wf = true) (b : List UInt8) (w : World) (hG : G8 w) (hs : b.length ≤ 5000) : Calls Tryz.prog 17 #[.int .i8 x, .string (str b)] w fun e w' => EcR x b w e w' := by
  have H1 : Hid (∀ w, Calls Tryz.prog 32 #[.int .i8 x] w fun e w' => e = .returned (.bool (decide (0 ≤ x ∧ x < 6))) ∧ w' = w) := Lib.hid fun w => pone_any x w
  by_cases hx : 0 ≤ x ∧ x < 6
  · rw [decide_eq_true hx] at H1
    have HGN : Hid (∀ w', Below w.heap.size w w' → G8 w') := Lib.hid fun w' h => hG.next h
    have hcase : x = 0 ∨ x = 1 ∨ x = 2 ∨ x = 3 ∨ x = 4 ∨ x = 5 := by omega
    clear hx
    rcases hcase with rfl | rfl | rfl | rfl | rfl | rfl
    · have hix := ix_codes0
      have hfd := fd_codes0_1
      have HC : Hid (∀ w', G8 w' → Calls Tryz.prog 58 #[.int .i8 0, .string (str b)] w' fun e w'' => EcR 0 b w' e w'') := Lib.hid fun w' g => pto8_any b w' g hs
      unfold EcR at HC ⊢
      obtain ⟨s, hs'⟩ : ∃ s, str b = s := ⟨_, rfl⟩
      rw [hs'] at HC ⊢
      clear hs' hs hG
      go_enter Tryz.func17, Tryz.ntmps17
      go_wp2_with (first
        | (go_at_call 32; refine (H1.out _).mono ?_; rintro _ w9 ⟨rfl, hw9⟩; subst w9; clear H1)
        | (go_at_call 33; refine (pcodes_any _).mono ?_; rintro _ w1 ⟨rfl, hb1⟩; have HB1 := Lib.hid hb1; clear hb1)
        | (go_at_call 58; refine (HC.out _ (HGN.out _ HB1.out)).mono ?_; rintro _ w2 ⟨rfl, hb2⟩; have HB2 := Lib.hid (below_call HB1.out hb2); clear HC hb2))
      go_ret2
      exact ⟨rfl, HB2.out⟩
    · have hix := ix_codes1
      have hfd := fd_codes1_1
      have HC : Hid (∀ w', G8 w' → Calls Tryz.prog 60 #[.int .i8 1, .string (str b)] w' fun e w'' => EcR 1 b w' e w'') := Lib.hid fun w' g => pto16_1 b w' g hs
      unfold EcR at HC ⊢
      obtain ⟨s, hs'⟩ : ∃ s, str b = s := ⟨_, rfl⟩
      rw [hs'] at HC ⊢
      clear hs' hs hG
      go_enter Tryz.func17, Tryz.ntmps17
      go_wp2_with (first
        | (go_at_call 32; refine (H1.out _).mono ?_; rintro _ w9 ⟨rfl, hw9⟩; subst w9; clear H1)
        | (go_at_call 33; refine (pcodes_any _).mono ?_; rintro _ w1 ⟨rfl, hb1⟩; have HB1 := Lib.hid hb1; clear hb1)
        | (go_at_call 60; refine (HC.out _ (HGN.out _ HB1.out)).mono ?_; rintro _ w2 ⟨rfl, hb2⟩; have HB2 := Lib.hid (below_call HB1.out hb2); clear HC hb2))
      go_ret2
      exact ⟨rfl, HB2.out⟩
    · have hix := ix_codes2
      have hfd := fd_codes2_1
      have HC : Hid (∀ w', G8 w' → Calls Tryz.prog 60 #[.int .i8 2, .string (str b)] w' fun e w'' => EcR 2 b w' e w'') := Lib.hid fun w' g => pto16_2 b w' g hs
      unfold EcR at HC ⊢
      obtain ⟨s, hs'⟩ : ∃ s, str b = s := ⟨_, rfl⟩
      rw [hs'] at HC ⊢
      clear hs' hs hG
      go_enter Tryz.func17, Tryz.ntmps17
      go_wp2_with (first
        | (go_at_call 32; refine (H1.out _).mono ?_; rintro _ w9 ⟨rfl, hw9⟩; subst w9; clear H1)
        | (go_at_call 33; refine (pcodes_any _).mono ?_; rintro _ w1 ⟨rfl, hb1⟩; have HB1 := Lib.hid hb1; clear hb1)
        | (go_at_call 60; refine (HC.out _ (HGN.out _ HB1.out)).mono ?_; rintro _ w2 ⟨rfl, hb2⟩; have HB2 := Lib.hid (below_call HB1.out hb2); clear HC hb2))
      go_ret2
      exact ⟨rfl, HB2.out⟩
    · have hix := ix_codes3
      have hfd := fd_codes3_1
      have HC : Hid (∀ w', G8 w' → Calls Tryz.prog 62 #[.int .i8 3, .string (str b)] w' fun e w'' => EcR 3 b w' e w'') := Lib.hid fun w' g => pto1_any 3 rfl rfl b w' g hs
      unfold EcR at HC ⊢
      obtain ⟨s, hs'⟩ : ∃ s, str b = s := ⟨_, rfl⟩
      rw [hs'] at HC ⊢
      clear hs' hs hG
      go_enter Tryz.func17, Tryz.ntmps17
      go_wp2_with (first
        | (go_at_call 32; refine (H1.out _).mono ?_; rintro _ w9 ⟨rfl, hw9⟩; subst w9; clear H1)
        | (go_at_call 33; refine (pcodes_any _).mono ?_; rintro _ w1 ⟨rfl, hb1⟩; have HB1 := Lib.hid hb1; clear hb1)
        | (go_at_call 62; refine (HC.out _ (HGN.out _ HB1.out)).mono ?_; rintro _ w2 ⟨rfl, hb2⟩; have HB2 := Lib.hid (below_call HB1.out hb2); clear HC hb2))
      go_ret2
      exact ⟨rfl, HB2.out⟩
    · have hix := ix_codes4
      have hfd := fd_codes4_1
      have HC : Hid (∀ w', G8 w' → Calls Tryz.prog 62 #[.int .i8 4, .string (str b)] w' fun e w'' => EcR 4 b w' e w'') := Lib.hid fun w' g => pto1_any 4 rfl rfl b w' g hs
      unfold EcR at HC ⊢
      obtain ⟨s, hs'⟩ : ∃ s, str b = s := ⟨_, rfl⟩
      rw [hs'] at HC ⊢
      clear hs' hs hG
      go_enter Tryz.func17, Tryz.ntmps17
      go_wp2_with (first
        | (go_at_call 32; refine (H1.out _).mono ?_; rintro _ w9 ⟨rfl, hw9⟩; subst w9; clear H1)
        | (go_at_call 33; refine (pcodes_any _).mono ?_; rintro _ w1 ⟨rfl, hb1⟩; have HB1 := Lib.hid hb1; clear hb1)
        | (go_at_call 62; refine (HC.out _ (HGN.out _ HB1.out)).mono ?_; rintro _ w2 ⟨rfl, hb2⟩; have HB2 := Lib.hid (below_call HB1.out hb2); clear HC hb2))
      go_ret2
      exact ⟨rfl, HB2.out⟩
    · have hix := ix_codes5
      have hfd := fd_codes5_1
      have HC : Hid (∀ w', G8 w' → Calls Tryz.prog 62 #[.int .i8 5, .string (str b)] w' fun e w'' => EcR 5 b w' e w'') := Lib.hid fun w' g => pto1_any 5 rfl rfl b w' g hs
      unfold EcR at HC ⊢
      obtain ⟨s, hs'⟩ : ∃ s, str b = s := ⟨_, rfl⟩
      rw [hs'] at HC ⊢
      clear hs' hs hG
      go_enter Tryz.func17, Tryz.ntmps17
      go_wp2_with (first
        | (go_at_call 32; refine (H1.out _).mono ?_; rintro _ w9 ⟨rfl, hw9⟩; subst w9; clear H1)
        | (go_at_call 33; refine (pcodes_any _).mono ?_; rintro _ w1 ⟨rfl, hb1⟩; have HB1 := Lib.hid hb1; clear hb1)
        | (go_at_call 62; refine (HC.out _ (HGN.out _ HB1.out)).mono ?_; rintro _ w2 ⟨rfl, hb2⟩; have HB2 := Lib.hid (below_call HB1.out hb2); clear HC hb2))
      go_ret2
      exact ⟨rfl, HB2.out⟩
  · rw [decide_eq_false hx] at H1
    have h0 : x ≠ 0 := by omega
    have h12 : ¬ (x = 1 ∨ x = 2) := by omega
    have hE : ¬ U.isE x = true := fun h => by have := U.isE_iff.1 h; omega
    unfold EcR
    have HD : Hid (encdF x b = ([], false)) := Lib.hid (by
      unfold encdF
      rw [if_neg h0, if_neg h12]
      have : U.encR x (str b) = ([], -1, 2) := by unfold U.encR; rw [if_neg hE]
      rw [this]
      rfl)
    obtain ⟨s, hs'⟩ : ∃ s, str b = s := ⟨_, rfl⟩
    rw [hs']
    clear hs' hs h0 h12 hE hx hwf hG
    go_enter Tryz.func17, Tryz.ntmps17
    go_wp2_with (go_at_call 32; refine (H1.out _).mono ?_; rintro _ w9 ⟨rfl, hw9⟩; subst w9; clear H1)
    go_ret2
    exact ec_ret HD.out rfl (Below.refl _ _)
end Go.Proofs.YtppabkllconkjaaGreatDoor.Snf
/- The landed sniff: Text. -/
namespace Go.Proofs.YtppabkllconkjaaGreatDoor.Snf
open Go.RowKit
set_option linter.unusedVariables false
set_option linter.unusedSimpArgs false
set_option maxRecDepth 100000
set_option maxRecDepth 100000
open Lab (str str_size str_list str_eta str_inj u8v info5 info_parts)
theorem results_tmp4 {fn : Func} {t u v x : Tmp} (h : fn.results = #[.tmp t, .tmp u, .tmp v, .tmp x]) (tmps : Array Value) (P : Program) (w : World) :
    (results fn tmps).run P w = .ok (.tuple #[tmps.getD t undef, tmps.getD u undef, tmps.getD v undef, tmps.getD x undef]) w := by
  simp only [results, h]
  simp [Sem.run_bind, Result.andThen]
theorem bds_head : ∀ (ps : List (Int × Nat)) (a : Nat), (U.bds ps a).headD (-1) = -1 ∨ 0 ≤ (U.bds ps a).headD (-1)
  | [], a => .inl rfl
  | p :: t, a => by
    by_cases h : p.1 = -1
    · rw [U.bds_bad h]
      exact .inr (by simp)
    · rw [U.bds_good h]
      exact bds_head t _
theorem dec_place (e : Int) (b : List UInt8) : (decF e b).2 = -1 ∨ 0 ≤ (decF e b).2 := by
  unfold decF
  split
  · rcases U.wrg_shift (U.prt b) 0 0 with h | h
    · exact .inl h.1
    · exact .inr h.1
  · split
    · exact bds_head _ _
    · split
      · exact .inl rfl
      · dsimp only
        split
        · exact .inl rfl
        · exact .inr (by decide)
set_option maxHeartbeats 4000000 in
theorem ptext_any (kind body : List UInt8) (w : World) (hG : G8 w) (hk : kind.length ≤ 5000) (hb : body.length ≤ 10000) : Calls Tryz.prog 10 #[.string (str kind), .string (str body)] w fun e w' => TxR kind body w e w' := by
  obtain ⟨i0, hi, hz0, hz1, hz2⟩ := info_parts infoR
  unfold TxR
  have HTF : Hid (txtF kind body = if 4096 < body.length then ([], 0, [], 40)
    else ((decF (encF kind body).1 (body.drop (encF kind body).2.1.toNat)).1, (encF kind body).1,
      if 0 ≤ (decF (encF kind body).1 (body.drop (encF kind body).2.1.toNat)).2 then (encF kind body).2.2 ++ [(2, IntKind.i64.wrap ((encF kind body).2.1 + (decF (encF kind body).1 (body.drop (encF kind body).2.1.toNat)).2))] else (encF kind body).2.2, 0)) := Lib.hid rfl
  obtain ⟨R, hR⟩ : ∃ R, txtF kind body = R := ⟨_, rfl⟩
  rw [hR] at HTF ⊢
  clear hR
  have hsz := str_size body
  by_cases hbig : 4096 < body.length
  · have HR : Hid (R = ([], 0, [], 40)) := Lib.hid (by rw [HTF.out, if_pos hbig])
    obtain ⟨S2, hS2⟩ : ∃ S, str body = S := ⟨_, rfl⟩
    rw [hS2] at hsz ⊢
    have d0 : decide ((4096 : Int) < (S2.size : Int)) = true := by simp; omega
    have d0n : decide (4096 < S2.size) = true := by simp; omega
    have h0n : 4096 < S2.size := by omega
    clear hS2 hsz hbig HTF
    go_enter Tryz.func10, Tryz.ntmps10
    go_wp2_with fail
    refine bodyPost_ret (results_tmp4 rfl _ _ _) rfl ?_
    rw [HR.out]
    exact ⟨_, rfl, rsns_nil _, Below.refl _ _⟩
  have hG2 := hG
  have HE : Hid (Calls Tryz.prog 8 #[.string (str kind), .string (str body)] w fun e w' => EnR kind body w e w') := Lib.hid (pencoding_any kind body w hG hk hb)
  unfold EnR at HE
  have hn := encF_bd kind body
  have hwf := encF_wf kind body
  obtain ⟨E, n, acc, hE⟩ : ∃ E n acc, encF kind body = (E, n, acc) := ⟨_, _, _, rfl⟩
  rw [hE] at HE HTF hn hwf
  dsimp only at HE HTF hn hwf
  obtain ⟨k, rfl⟩ := Int.eq_ofNat_of_zero_le hn.1
  have hkl : k ≤ body.length := by omega
  have hal2 : acc.length ≤ 10 := by omega
  rw [Int.toNat_natCast] at HTF
  have hdl : (body.drop k).length ≤ 5000 := by rw [List.length_drop]; omega
  have HD : Hid (∀ w', G8 w' → Calls Tryz.prog 15 #[.int .i8 E, .string (str (body.drop k))] w' fun e w'' => DeR E (body.drop k) w' e w'') := Lib.hid fun w' g => pdecode_any E hwf (body.drop k) w' g hdl
  unfold DeR at HD
  have hdp := dec_place E (body.drop k)
  obtain ⟨D, hD⟩ : ∃ D, decF E (body.drop k) = D := ⟨_, rfl⟩
  rw [hD] at HD HTF hdp
  obtain ⟨dt, dn⟩ := D
  dsimp only at HD HTF hdp
  have HGN : Hid (∀ w', Below w.heap.size w w' → G8 w') := Lib.hid fun w' h => hG.next h
  have hsl : ∀ w0 : World, (Instr.slice 9 (.string (str body)) (some (.int .i64 (k : Int))) none none).run Tryz.prog w0 = .ok (.string (str (body.drop k))) w0 := fun w0 =>
    Dec.slice_from (str body) k (by rw [str_size]; exact hkl) (str_list body) rfl w0
  obtain ⟨B2, hB2⟩ : ∃ B, str (body.drop k) = B := ⟨_, rfl⟩
  rw [hB2] at HD hsl
  obtain ⟨DT, hDT⟩ : ∃ T, str dt = T := ⟨_, rfl⟩
  have HDT := Lib.hid hDT
  rw [hDT] at HD
  obtain ⟨S1, hS1⟩ : ∃ S, str kind = S := ⟨_, rfl⟩
  obtain ⟨S2, hS2⟩ : ∃ S, str body = S := ⟨_, rfl⟩
  rw [hS1, hS2] at HE ⊢
  rw [hS2] at hsl hsz
  have d0 : decide ((4096 : Int) < (S2.size : Int)) = false := by simp; omega
  have h0n : ¬ 4096 < S2.size := by omega
  have d0n : decide (4096 < S2.size) = false := by simp; omega
  have hk7 : (k : Int) ≤ 10000 := by omega
  have HTR : Hid (R = (dt, E, if 0 ≤ dn then acc ++ [(2, IntKind.i64.wrap ((k : Int) + dn))] else acc, 0)) := Lib.hid (by rw [HTF.out, if_neg hbig])
  clear hS1 hS2 hDT hB2 hD hE HTF hbig hkl hdl hn hwf hG hG2 hsz hk hb
  by_cases hw : 0 ≤ dn
  · have HR : Hid (R = (dt, E, acc ++ [(2, IntKind.i64.wrap ((k : Int) + dn))], 0)) := Lib.hid (by rw [HTR.out, if_pos hw])
    have d1 : (dn != -1) = true := by simp; omega
    obtain ⟨ZZ, hwr⟩ : ∃ z, IntKind.i64.wrap ((k : Int) + dn) = z := ⟨_, rfl⟩
    rw [hwr] at HR
    clear HTR hw hdp
    go_enter Tryz.func10, Tryz.ntmps10
    go_wp2_with (first
      | (go_at_call 8; refine HE.out.mono ?_; rintro _ w1 ⟨u1, rfl, hu1, hb1⟩; have HU1 := Lib.hid hu1; have HB1 := Lib.hid hb1; clear HE hu1 hb1)
      | (go_at_call 15; refine (HD.out _ (HGN.out _ HB1.out)).mono ?_; rintro _ w2 ⟨rfl, hb2⟩; have HU2 := Lib.hid (Dec.own_below (m := 0) HU1.out hb2); have HB2 := Lib.hid (below_call HB1.out hb2); clear HD hb2)
      | (go_at_call 20; refine (pput_one w.heap.size _ acc ZZ 2 w2.heap.size 1 _ (by have := HB2.out.size; simp; omega) (World.ownsRow.alloc HU2.out _) (by rw [World.cell?_alloc_at _ _ _ _ (by simp)]; rfl) (by omega)).mono ?_; rintro _ w3 ⟨u3, rfl, hu3, hb3⟩; have OA3 := Lib.hid hu3; have BA3 := Lib.hid ((HB2.out.alloc HB2.out.size _).trans hb3); clear hu3 hb3))
    refine bodyPost_ret (results_tmp4 rfl _ _ _) rfl ?_
    rw [HR.out, ← HDT.out]
    exact ⟨_, rfl, rsns_own (base := w.heap.size) OA3.out, BA3.out⟩
  · have HR : Hid (R = (dt, E, acc, 0)) := Lib.hid (by rw [HTR.out, if_neg hw])
    have d1 : (dn != -1) = false := by rw [hdp.resolve_right hw]; rfl
    clear HTR hw hdp
    go_enter Tryz.func10, Tryz.ntmps10
    go_wp2_with (first
      | (go_at_call 8; refine HE.out.mono ?_; rintro _ w1 ⟨u1, rfl, hu1, hb1⟩; have HU1 := Lib.hid hu1; have HB1 := Lib.hid hb1; clear HE hu1 hb1)
      | (go_at_call 15; refine (HD.out _ (HGN.out _ HB1.out)).mono ?_; rintro _ w2 ⟨rfl, hb2⟩; have HB2 := Lib.hid hb2; clear HD hb2))
    refine bodyPost_ret (results_tmp4 rfl _ _ _) rfl ?_
    rw [HR.out, ← HDT.out]
    exact ⟨_, rfl, (rsns_own (base := w.heap.size) HU1.out).below HB2.out, below_call HB1.out HB2.out⟩
end Go.Proofs.YtppabkllconkjaaGreatDoor.Snf
/- The contract of wakes. -/
namespace Go.Proofs.YtppabkllconkjaaGreatDoor.Snf
open Go.RowKit
set_option linter.unusedVariables false
set_option linter.unusedSimpArgs false
set_option maxRecDepth 100000
set_option maxRecDepth 100000
open Lab (str str_size str_list str_eta str_inj u8v info5 info_parts)
theorem wk_a : kL1.length ≤ 5000 := by decide
theorem wk_an : kNone.length ≤ 5000 := by decide
theorem wk_b : (⟨#[116, 101, 120, 116, 47, 120, 109, 108, 59, 32, 99, 104, 97, 114, 115, 101, 116, 61, 108, 97, 116, 105, 110, 49]⟩ : ByteArray) = str kL1 := rfl
theorem wk_bn : (⟨#[116, 101, 120, 116, 47, 120, 109, 108, 59, 32, 99, 104, 97, 114, 115, 101, 116, 61, 110, 111, 110, 101]⟩ : ByteArray) = str kNone := rfl
theorem wk_b2 : (⟨#[239, 187, 191, 97]⟩ : ByteArray) = str [239, 187, 191, 97] := rfl
theorem wk_b3 : (⟨#[97]⟩ : ByteArray) = str [97] := rfl
theorem wk_c (w' : World) (g : G8 w') : Calls Tryz.prog 10 #[.string (str kL1), .string (str [239, 187, 191, 97])] w' fun e w'' => ∃ p cap, e = .returned (.tuple #[.string (str [97]), .int .i8 0, .slice p 0 cap, .int .i64 0]) ∧ Below w'.heap.size w' w'' := by
  refine (ptext_any kL1 [239, 187, 191, 97] w' g wk_a (by decide)).mono ?_
  intro e w'' h
  unfold TxR at h
  rw [wk1_txt] at h
  obtain ⟨u, h1, h2, h3⟩ := h
  obtain ⟨p, cap, rfl⟩ := h2.form
  exact ⟨p, cap, h1, h3⟩
theorem wk_d (w' : World) (g : G8 w') : Calls Tryz.prog 10 #[.string (str kNone), .string (str [97])] w' fun e w'' => ∃ b o cap, e = .returned (.tuple #[.string (str [97]), .int .i8 0, .slice (some ⟨b, o, none⟩) 1 cap, .int .i64 0]) ∧ w''.cell? ⟨b, o, none⟩ = some (.int .i8 1) ∧ w''.cell? ⟨b, o + 1, none⟩ = some (.int .i64 0) ∧ Below w'.heap.size w' w'' := by
  refine (ptext_any kNone [97] w' g wk_an (by decide)).mono ?_
  intro e w'' h
  unfold TxR at h
  rw [wk2_txt] at h
  obtain ⟨u, h1, h2, h3⟩ := h
  obtain ⟨p, cap, rfl⟩ := h2.form
  obtain ⟨b, o, rfl, _, c1, c2⟩ := h2.at.2 0 (by decide)
  rw [Nat.zero_mul, Nat.add_zero] at c1 c2
  exact ⟨b, o, cap, h1, c1, c2, h3⟩
set_option maxHeartbeats 1000000 in
theorem wakes_any (w : World) (hG : G8 w) : Calls Tryz.prog 7 #[] w fun e w' => RetB true w e w' := by
  have H1 : Hid (∀ w', G8 w' → Calls Tryz.prog 10 #[.string ⟨#[116, 101, 120, 116, 47, 120, 109, 108, 59, 32, 99, 104, 97, 114, 115, 101, 116, 61, 108, 97, 116, 105, 110, 49]⟩, .string ⟨#[239, 187, 191, 97]⟩] w' fun e w'' => ∃ p cap, e = .returned (.tuple #[.string (str [97]), .int .i8 0, .slice p 0 cap, .int .i64 0]) ∧ Below w'.heap.size w' w'') := Lib.hid (by rw [wk_b, wk_b2]; exact wk_c)
  have H2 : Hid (∀ w', G8 w' → Calls Tryz.prog 10 #[.string ⟨#[116, 101, 120, 116, 47, 120, 109, 108, 59, 32, 99, 104, 97, 114, 115, 101, 116, 61, 110, 111, 110, 101]⟩, .string ⟨#[97]⟩] w' fun e w'' => ∃ b o cap, e = .returned (.tuple #[.string (str [97]), .int .i8 0, .slice (some ⟨b, o, none⟩) 1 cap, .int .i64 0]) ∧ w''.cell? ⟨b, o, none⟩ = some (.int .i8 1) ∧ w''.cell? ⟨b, o + 1, none⟩ = some (.int .i64 0) ∧ Below w'.heap.size w' w'') := Lib.hid (by rw [wk_bn, wk_b3]; exact wk_d)
  obtain ⟨S, hS⟩ : ∃ S, str [97] = S := ⟨_, rfl⟩
  have hS2 : (S.toList == [97]) = true := by rw [← hS, Dec.toList_str]; decide
  rw [hS] at H1 H2
  have HG := Lib.hid hG
  clear hS hG
  unfold RetB
  go_enter Tryz.func7, Tryz.ntmps7
  go_wp2_with (first
    | (go_at_call 10; refine (H1.out _ HG.out).mono ?_; rintro _ w1 ⟨p1, cap1, rfl, hb1⟩; have HB1 := Lib.hid hb1; clear H1 hb1)
    | (go_at_call 10; refine (H2.out _ (HG.out.next HB1.out)).mono ?_; rintro _ w2 ⟨b2, o2, cap2, rfl, c1, c2, hb2⟩; have HB2 := Lib.hid (below_call HB1.out hb2); clear H2 hb2))
  go_ret
  exact ⟨rfl, HB2.out⟩
theorem en_of {k b : List UInt8} {w w' : World} {e : Ending} {R : Int × Int × List Rsn} (hR : encF k b = R) (h : EnR k b w e w') : ∃ u, e = .returned (.tuple #[.int .i8 R.1, .int .i64 R.2.1, u]) ∧ Rsns w' u R.2.2 ∧ Below w.heap.size w w' := by
  subst hR
  obtain ⟨u, h1, h2, h3⟩ := h
  exact ⟨u, h1, rsns_own h2, h3⟩
theorem tx_of {k b : List UInt8} {w w' : World} {e : Ending} {R : List UInt8 × Int × List Rsn × Int} (hR : txtF k b = R) (h : TxR k b w e w') : ∃ u, e = .returned (.tuple #[.string (str R.1), .int .i8 R.2.1, u, .int .i64 R.2.2.2]) ∧ Rsns w' u R.2.2.1 ∧ Below w.heap.size w w' := by
  subst hR
  exact h
end Go.Proofs.YtppabkllconkjaaGreatDoor.Snf
