/- The contracts of parts and joined; Class and Mark, the program's and the document's own; the document's Hangul. -/
import Derived.Test.YtdifocahmephjaaTA
namespace Go.Proofs.Ytdifocahmephjaa.Tab
open Go.RowKit
set_option linter.unusedVariables false
set_option linter.unusedSimpArgs false
theorem parts_any (s : Int) (w : World) (hs : 0 ≤ s ∧ s < 11172) : Calls Try.prog 21 #[.int .u16 s] w fun e w' => e = .returned (if 0 < s % 28 then .tuple #[.int .i64 (44032 + s - s % 28), .int .i64 (4519 + s % 28)] else .tuple #[.int .i64 (4352 + s / 28 / 21), .int .i64 (4449 + s / 28 % 21)]) ∧ w' = w := by
  have HT := Lib.hid fun w => tail_any s w (by omega)
  have HS := Lib.hid fun w => scalar_any s w (by omega)
  obtain ⟨h1, h2⟩ := hs
  have e1 : s.tdiv 28 = s / 28 := Int.tdiv_eq_ediv_of_nonneg h1
  obtain ⟨q, hq⟩ : ∃ q, s / 28 = q := ⟨_, rfl⟩
  obtain ⟨m, hm⟩ : ∃ m, s % 28 = m := ⟨_, rfl⟩
  have q1 : 0 ≤ q := by omega
  have q2 : q < 400 := by omega
  have m1 : 0 ≤ m := by omega
  have m2 : m < 28 := by omega
  have e2 : q.tdiv 21 = q / 21 := Int.tdiv_eq_ediv_of_nonneg q1
  have e3 : q.tmod 21 = q % 21 := Int.tmod_eq_emod_of_nonneg q1
  rw [hq] at e1 ⊢
  rw [hm] at HT ⊢
  obtain ⟨q3, hq3⟩ : ∃ q3, q / 21 = q3 := ⟨_, rfl⟩
  obtain ⟨q4, hq4⟩ : ∃ q4, q % 21 = q4 := ⟨_, rfl⟩
  have q5 : 0 ≤ q3 ∧ q3 < 400 := by omega
  have q6 : 0 ≤ q4 ∧ q4 < 21 := by omega
  rw [hq3] at e2 ⊢
  rw [hq4] at e3 ⊢
  clear hq hm hq3 hq4
  by_cases hc : 0 < m
  · rw [if_pos hc]
    have f0 : (m == 0) = false := by simp; omega
    go_enter Try.func21, Try.ntmps21
    go_wp2_with (first | (go_at_call 32; refine (HT.out _).mono ?_; rintro _ w9 ⟨rfl, hw9⟩; subst w9) | (go_at_call 33; refine (HS.out _).mono ?_; rintro _ w9 ⟨rfl, hw9⟩; subst w9))
    go_ret2
    exact ⟨rfl, rfl⟩
  · rw [if_neg hc]
    have f0 : m = 0 := by omega
    subst f0
    go_enter Try.func21, Try.ntmps21
    go_wp2_with (first | (go_at_call 32; refine (HT.out _).mono ?_; rintro _ w9 ⟨rfl, hw9⟩; subst w9) | (go_at_call 33; refine (HS.out _).mono ?_; rintro _ w9 ⟨rfl, hw9⟩; subst w9))
    go_ret2
    exact ⟨rfl, rfl⟩
/-- The syllable that two numbers make. -/
def jnd (f s : Int) : Int × Bool :=
  if 4352 ≤ f ∧ f < 4371 ∧ 4449 ≤ s ∧ s < 4470 then (44032 + ((f - 4352) * 21 + s - 4449) * 28, true)
  else if han f = true ∧ (f - 44032) % 28 = 0 ∧ 4519 < s ∧ s < 4547 then (f + s - 4519, true) else (0, false)
set_option maxHeartbeats 4000000 in
theorem joined_any (f s : Int) (w : World) (hf : okI f) (hs : okI s) : Calls Try.prog 23 #[.int .i64 f, .int .i64 s] w fun e w' => e = .returned (.tuple #[.int .i64 (jnd f s).1, .bool (jnd f s).2]) ∧ w' = w := by
  have HP1 := Lib.hid fun w => place_any f 4352 19 w hf (by omega) (by omega)
  have HP2 := Lib.hid fun w => place_any s 4449 21 w hs (by omega) (by omega)
  have HP3 := Lib.hid fun w => place_any s 4519 28 w hs (by omega) (by omega)
  have HSY := Lib.hid fun w => syl_any f w hf
  by_cases hA : 4352 ≤ f ∧ f < 4371 ∧ 4449 ≤ s ∧ s < 4470
  · have hj : jnd f s = (44032 + ((f - 4352) * 21 + s - 4449) * 28, true) := if_pos hA
    rw [hj]
    rw [plc_yes (by omega)] at HP1 HP2
    obtain ⟨l, hl⟩ : ∃ l, f - 4352 = l := ⟨_, rfl⟩
    obtain ⟨v, hv⟩ : ∃ v, s - 4449 = v := ⟨_, rfl⟩
    have hl2 : 0 ≤ l ∧ l < 19 := by omega
    have hv2 : 0 ≤ v ∧ v < 21 := by omega
    rw [show (f - 4352) * 21 + s - 4449 = l * 21 + v by omega]
    rw [hl] at HP1
    rw [hv] at HP2
    have hW : IntKind.u16.wrap ((l * 21 + v) * 28) = (l * 21 + v) * 28 := by rw [IntKind.wrap_u16]; omega
    have HS := Lib.hid fun w => scalar_any ((l * 21 + v) * 28) w (by omega)
    have HT := HS
    clear hA hj hl hv HP3 HSY hf hs
    go_enter Try.func23, Try.ntmps23
    go_wp2_with (first
      | (go_at_call 31; refine (HP1.out _).mono ?_; rintro _ w9 ⟨rfl, hw9⟩; subst w9; clear HP1)
      | (go_at_call 31; refine (HP2.out _).mono ?_; rintro _ w9 ⟨rfl, hw9⟩; subst w9; clear HP2)
      | (go_at_call 31; refine (HP3.out _).mono ?_; rintro _ w9 ⟨rfl, hw9⟩; subst w9; clear HP3)
      | (go_at_call 20; refine (HSY.out _).mono ?_; rintro _ w9 ⟨rfl, hw9⟩; subst w9)
      | (go_at_call 32; refine (HT.out _).mono ?_; rintro _ w9 ⟨rfl, hw9⟩; subst w9)
      | (go_at_call 33; refine (HS.out _).mono ?_; rintro _ w9 ⟨rfl, hw9⟩; subst w9))
    go_ret2
    exact ⟨rfl, rfl⟩
  · obtain ⟨l, v, b1, b2, e1, e2, e3⟩ : ∃ l v b1 b2, plc f 4352 19 = (l, b1) ∧ plc s 4449 21 = (v, b2) ∧ (b1 = false ∨ (b1 = true ∧ b2 = false)) := by
      by_cases h1 : 4352 ≤ f ∧ f < 4371
      · exact ⟨_, _, _, _, plc_yes (by omega), plc_no (by omega), .inr ⟨rfl, rfl⟩⟩
      · exact ⟨_, _, _, (plc s 4449 21).2, plc_no (by omega), rfl, .inl rfl⟩
    rw [e1] at HP1
    rw [e2] at HP2
    clear e1 e2
    have hj : jnd f s = if han f = true ∧ (f - 44032) % 28 = 0 ∧ 4519 < s ∧ s < 4547 then (f + s - 4519, true) else (0, false) := if_neg hA
    rw [hj]
    clear hj hA
    by_cases hh : han f = true
    · have hfr := han_iff.1 hh
      have hsy : sylF f = f - 44032 := if_pos hh
      rw [hsy, hh] at HSY
      simp only [hh, true_and]
      clear hsy hh
      obtain ⟨z, hz⟩ : ∃ z, f - 44032 = z := ⟨_, rfl⟩
      have hz2 : 0 ≤ z ∧ z < 11172 := by omega
      rw [hz] at HSY ⊢
      have HT := Lib.hid fun w => tail_any z w (by omega)
      have HS := Lib.hid fun w => scalar_any z w (by omega)
      obtain ⟨m, hm⟩ : ∃ m, z % 28 = m := ⟨_, rfl⟩
      rw [hm] at HT ⊢
      have hfz : f = 44032 + z := by omega
      by_cases hm0 : m = 0
      · subst hm0
        simp only [true_and]
        by_cases ht : 4519 ≤ s ∧ s < 4547
        · rw [plc_yes (by omega)] at HP3
          obtain ⟨t, htt⟩ : ∃ t, s - 4519 = t := ⟨_, rfl⟩
          have ht2 : 0 ≤ t ∧ t < 28 := by omega
          rw [htt] at HP3
          by_cases ht0 : t = 0
          · rw [if_neg (by omega)]
            subst ht0
            clear hz hm ht htt hfz hfr hf hs
            rcases e3 with rfl | ⟨rfl, rfl⟩
            · go_enter Try.func23, Try.ntmps23
              go_wp2_with (first
      | (go_at_call 31; refine (HP1.out _).mono ?_; rintro _ w9 ⟨rfl, hw9⟩; subst w9; clear HP1)
      | (go_at_call 31; refine (HP2.out _).mono ?_; rintro _ w9 ⟨rfl, hw9⟩; subst w9; clear HP2)
      | (go_at_call 31; refine (HP3.out _).mono ?_; rintro _ w9 ⟨rfl, hw9⟩; subst w9; clear HP3)
      | (go_at_call 20; refine (HSY.out _).mono ?_; rintro _ w9 ⟨rfl, hw9⟩; subst w9)
      | (go_at_call 32; refine (HT.out _).mono ?_; rintro _ w9 ⟨rfl, hw9⟩; subst w9)
      | (go_at_call 33; refine (HS.out _).mono ?_; rintro _ w9 ⟨rfl, hw9⟩; subst w9))
              go_ret2
              exact ⟨rfl, rfl⟩
            · go_enter Try.func23, Try.ntmps23
              go_wp2_with (first
      | (go_at_call 31; refine (HP1.out _).mono ?_; rintro _ w9 ⟨rfl, hw9⟩; subst w9; clear HP1)
      | (go_at_call 31; refine (HP2.out _).mono ?_; rintro _ w9 ⟨rfl, hw9⟩; subst w9; clear HP2)
      | (go_at_call 31; refine (HP3.out _).mono ?_; rintro _ w9 ⟨rfl, hw9⟩; subst w9; clear HP3)
      | (go_at_call 20; refine (HSY.out _).mono ?_; rintro _ w9 ⟨rfl, hw9⟩; subst w9)
      | (go_at_call 32; refine (HT.out _).mono ?_; rintro _ w9 ⟨rfl, hw9⟩; subst w9)
      | (go_at_call 33; refine (HS.out _).mono ?_; rintro _ w9 ⟨rfl, hw9⟩; subst w9))
              go_ret2
              exact ⟨rfl, rfl⟩
          · rw [if_pos (by omega)]
            have f0 : (t == 0) = false := by simpa using ht0
            rw [show f + s - 4519 = 44032 + z + t by omega]
            clear hz hm ht htt hfz hfr hf hs
            rcases e3 with rfl | ⟨rfl, rfl⟩
            · go_enter Try.func23, Try.ntmps23
              go_wp2_with (first
      | (go_at_call 31; refine (HP1.out _).mono ?_; rintro _ w9 ⟨rfl, hw9⟩; subst w9; clear HP1)
      | (go_at_call 31; refine (HP2.out _).mono ?_; rintro _ w9 ⟨rfl, hw9⟩; subst w9; clear HP2)
      | (go_at_call 31; refine (HP3.out _).mono ?_; rintro _ w9 ⟨rfl, hw9⟩; subst w9; clear HP3)
      | (go_at_call 20; refine (HSY.out _).mono ?_; rintro _ w9 ⟨rfl, hw9⟩; subst w9)
      | (go_at_call 32; refine (HT.out _).mono ?_; rintro _ w9 ⟨rfl, hw9⟩; subst w9)
      | (go_at_call 33; refine (HS.out _).mono ?_; rintro _ w9 ⟨rfl, hw9⟩; subst w9))
              go_ret2
              exact ⟨rfl, rfl⟩
            · go_enter Try.func23, Try.ntmps23
              go_wp2_with (first
      | (go_at_call 31; refine (HP1.out _).mono ?_; rintro _ w9 ⟨rfl, hw9⟩; subst w9; clear HP1)
      | (go_at_call 31; refine (HP2.out _).mono ?_; rintro _ w9 ⟨rfl, hw9⟩; subst w9; clear HP2)
      | (go_at_call 31; refine (HP3.out _).mono ?_; rintro _ w9 ⟨rfl, hw9⟩; subst w9; clear HP3)
      | (go_at_call 20; refine (HSY.out _).mono ?_; rintro _ w9 ⟨rfl, hw9⟩; subst w9)
      | (go_at_call 32; refine (HT.out _).mono ?_; rintro _ w9 ⟨rfl, hw9⟩; subst w9)
      | (go_at_call 33; refine (HS.out _).mono ?_; rintro _ w9 ⟨rfl, hw9⟩; subst w9))
              go_ret2
              exact ⟨rfl, rfl⟩
        · rw [if_neg (by omega)]
          rw [plc_no (by omega)] at HP3
          clear hz hm ht hfz hfr hf hs
          rcases e3 with rfl | ⟨rfl, rfl⟩
          · go_enter Try.func23, Try.ntmps23
            go_wp2_with (first
      | (go_at_call 31; refine (HP1.out _).mono ?_; rintro _ w9 ⟨rfl, hw9⟩; subst w9; clear HP1)
      | (go_at_call 31; refine (HP2.out _).mono ?_; rintro _ w9 ⟨rfl, hw9⟩; subst w9; clear HP2)
      | (go_at_call 31; refine (HP3.out _).mono ?_; rintro _ w9 ⟨rfl, hw9⟩; subst w9; clear HP3)
      | (go_at_call 20; refine (HSY.out _).mono ?_; rintro _ w9 ⟨rfl, hw9⟩; subst w9)
      | (go_at_call 32; refine (HT.out _).mono ?_; rintro _ w9 ⟨rfl, hw9⟩; subst w9)
      | (go_at_call 33; refine (HS.out _).mono ?_; rintro _ w9 ⟨rfl, hw9⟩; subst w9))
            go_ret2
            exact ⟨rfl, rfl⟩
          · go_enter Try.func23, Try.ntmps23
            go_wp2_with (first
      | (go_at_call 31; refine (HP1.out _).mono ?_; rintro _ w9 ⟨rfl, hw9⟩; subst w9; clear HP1)
      | (go_at_call 31; refine (HP2.out _).mono ?_; rintro _ w9 ⟨rfl, hw9⟩; subst w9; clear HP2)
      | (go_at_call 31; refine (HP3.out _).mono ?_; rintro _ w9 ⟨rfl, hw9⟩; subst w9; clear HP3)
      | (go_at_call 20; refine (HSY.out _).mono ?_; rintro _ w9 ⟨rfl, hw9⟩; subst w9)
      | (go_at_call 32; refine (HT.out _).mono ?_; rintro _ w9 ⟨rfl, hw9⟩; subst w9)
      | (go_at_call 33; refine (HS.out _).mono ?_; rintro _ w9 ⟨rfl, hw9⟩; subst w9))
            go_ret2
            exact ⟨rfl, rfl⟩
      · have f0 : (m == 0) = false := by simpa using hm0
        simp only [hm0, false_and, if_false]
        clear hz hm hfz hfr hf hs
        generalize (plc s 4519 28) = p3 at HP3
        rcases e3 with rfl | ⟨rfl, rfl⟩
        · go_enter Try.func23, Try.ntmps23
          go_wp2_with (first
      | (go_at_call 31; refine (HP1.out _).mono ?_; rintro _ w9 ⟨rfl, hw9⟩; subst w9; clear HP1)
      | (go_at_call 31; refine (HP2.out _).mono ?_; rintro _ w9 ⟨rfl, hw9⟩; subst w9; clear HP2)
      | (go_at_call 31; refine (HP3.out _).mono ?_; rintro _ w9 ⟨rfl, hw9⟩; subst w9; clear HP3)
      | (go_at_call 20; refine (HSY.out _).mono ?_; rintro _ w9 ⟨rfl, hw9⟩; subst w9)
      | (go_at_call 32; refine (HT.out _).mono ?_; rintro _ w9 ⟨rfl, hw9⟩; subst w9)
      | (go_at_call 33; refine (HS.out _).mono ?_; rintro _ w9 ⟨rfl, hw9⟩; subst w9))
          go_ret2
          exact ⟨rfl, rfl⟩
        · go_enter Try.func23, Try.ntmps23
          go_wp2_with (first
      | (go_at_call 31; refine (HP1.out _).mono ?_; rintro _ w9 ⟨rfl, hw9⟩; subst w9; clear HP1)
      | (go_at_call 31; refine (HP2.out _).mono ?_; rintro _ w9 ⟨rfl, hw9⟩; subst w9; clear HP2)
      | (go_at_call 31; refine (HP3.out _).mono ?_; rintro _ w9 ⟨rfl, hw9⟩; subst w9; clear HP3)
      | (go_at_call 20; refine (HSY.out _).mono ?_; rintro _ w9 ⟨rfl, hw9⟩; subst w9)
      | (go_at_call 32; refine (HT.out _).mono ?_; rintro _ w9 ⟨rfl, hw9⟩; subst w9)
      | (go_at_call 33; refine (HS.out _).mono ?_; rintro _ w9 ⟨rfl, hw9⟩; subst w9))
          go_ret2
          exact ⟨rfl, rfl⟩
    · have hb : han f = false := by simpa using hh
      have hsy : sylF f = 0 := if_neg hh
      rw [hsy, hb] at HSY
      simp only [hb, Bool.false_eq_true, false_and, if_false]
      have HT := Lib.hid fun w => tail_any 0 w (by omega)
      have HS := Lib.hid fun w => scalar_any 0 w (by omega)
      clear hb hsy hh hf hs
      generalize (plc s 4519 28) = p3 at HP3
      rcases e3 with rfl | ⟨rfl, rfl⟩
      · go_enter Try.func23, Try.ntmps23
        go_wp2_with (first
      | (go_at_call 31; refine (HP1.out _).mono ?_; rintro _ w9 ⟨rfl, hw9⟩; subst w9; clear HP1)
      | (go_at_call 31; refine (HP2.out _).mono ?_; rintro _ w9 ⟨rfl, hw9⟩; subst w9; clear HP2)
      | (go_at_call 31; refine (HP3.out _).mono ?_; rintro _ w9 ⟨rfl, hw9⟩; subst w9; clear HP3)
      | (go_at_call 20; refine (HSY.out _).mono ?_; rintro _ w9 ⟨rfl, hw9⟩; subst w9)
      | (go_at_call 32; refine (HT.out _).mono ?_; rintro _ w9 ⟨rfl, hw9⟩; subst w9)
      | (go_at_call 33; refine (HS.out _).mono ?_; rintro _ w9 ⟨rfl, hw9⟩; subst w9))
        go_ret2
        exact ⟨rfl, rfl⟩
      · go_enter Try.func23, Try.ntmps23
        go_wp2_with (first
      | (go_at_call 31; refine (HP1.out _).mono ?_; rintro _ w9 ⟨rfl, hw9⟩; subst w9; clear HP1)
      | (go_at_call 31; refine (HP2.out _).mono ?_; rintro _ w9 ⟨rfl, hw9⟩; subst w9; clear HP2)
      | (go_at_call 31; refine (HP3.out _).mono ?_; rintro _ w9 ⟨rfl, hw9⟩; subst w9; clear HP3)
      | (go_at_call 20; refine (HSY.out _).mono ?_; rintro _ w9 ⟨rfl, hw9⟩; subst w9)
      | (go_at_call 32; refine (HT.out _).mono ?_; rintro _ w9 ⟨rfl, hw9⟩; subst w9)
      | (go_at_call 33; refine (HS.out _).mono ?_; rintro _ w9 ⟨rfl, hw9⟩; subst w9))
        go_ret2
        exact ⟨rfl, rfl⟩
end Go.Proofs.Ytdifocahmephjaa.Tab
