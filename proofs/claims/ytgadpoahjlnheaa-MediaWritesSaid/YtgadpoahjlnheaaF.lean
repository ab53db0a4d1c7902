/- The contracts of the methods that read a byte and end a word. -/
import Derived.Test.YtgadpoahjlnheaaE
namespace Go.Proofs.Ytgadpoahjlnheaa.Med
open Go.RowKit
set_option linter.unusedVariables false
set_option linter.unusedSimpArgs false
open Lab (RetS ret_str str str_size str_list str_eta str_inj u8v st_ixb info5 info_parts)
theorem m_behind (c : Option UInt8) (B : Nat) (w : World) : Calls Try.prog 39 #[.pointer (some ⟨B, 0, none⟩), .int .i64 (ck c)] w fun e w' => e = .returned (.int .i64 (beh c : Int)) ∧ w' = w := by
  by_cases h0 : c = none
  · have HE : Hid (beh c = 1) := Lib.hid (by simp [beh, h0])
    obtain ⟨x, hx⟩ : ∃ x : Int, ck c = x := ⟨_, rfl⟩
    have d1 : (x == -1) = true := by rw [← hx]; exact ck_end h0
    rw [hx]
    clear h0 hx
    go_enter Try.func39, Try.ntmps39
    go_wp2_with fail
    go_ret
    exact ⟨by rw [HE.out]; rfl, rfl⟩
  by_cases h9 : c = some 59
  · have HE : Hid (beh c = 7) := Lib.hid (by simp [beh, h0, h9])
    obtain ⟨x, hx⟩ : ∃ x : Int, ck c = x := ⟨_, rfl⟩
    have d1 : (x == -1) = false := by rw [← hx]; exact ck_noend h0
    have d2 : (x == 59) = true := by rw [← hx]; exact ck_yes h9
    rw [hx]
    clear h0 h9 hx
    go_enter Try.func39, Try.ntmps39
    go_wp2_with fail
    go_ret
    exact ⟨by rw [HE.out]; rfl, rfl⟩
  obtain ⟨b, hb⟩ : ∃ b, inS 2 c = b := ⟨_, rfl⟩
  have HI2 : Hid (∀ w, Calls Try.prog 50 #[.int .i64 (ck c), .int .i64 2] w fun e w' => e = .returned (.bool b) ∧ w' = w) := Lib.hid fun w => by
    have := isIn_2 c w
    rwa [hb] at this
  have HE : Hid (beh c = if b = true then 6 else 0) := Lib.hid (by simp [beh, h0, h9, hb])
  obtain ⟨x, hx⟩ : ∃ x : Int, ck c = x := ⟨_, rfl⟩
  have d1 : (x == -1) = false := by rw [← hx]; exact ck_noend h0
  have d2 : (x == 59) = false := by rw [← hx]; exact ck_no h9
  rw [hx] at HI2 ⊢
  clear h0 h9 hx hb
  cases b with
  | true =>
    go_enter Try.func39, Try.ntmps39
    go_wp2_with (go_at_call 50; refine (HI2.out _).mono ?_; rintro _ w9 ⟨rfl, hw9⟩; subst w9)
    go_ret
    exact ⟨by rw [HE.out]; rfl, rfl⟩
  | false =>
    go_enter Try.func39, Try.ntmps39
    go_wp2_with (go_at_call 50; refine (HI2.out _).mono ?_; rintro _ w9 ⟨rfl, hw9⟩; subst w9)
    go_ret
    exact ⟨by rw [HE.out]; rfl, rfl⟩
theorem str_max {l : List UInt8} (h : l.length ≤ 1000000) : (str l).size ≤ maxLen := by rw [str_size]; unfold maxLen; omega
set_option maxHeartbeats 1000000 in
theorem m_sub (c : Option UInt8) (s : St) (n₀ B : Nat) (w : World) (h : RdS w n₀ B s) (hl : s.wd.length ≤ 1000000) (hp : s.ps.length ≤ 1000000) :
    Calls Try.prog 38 #[.pointer (some ⟨B, 0, none⟩), .int .i64 (ck c)] w fun e w' => StepE w n₀ B (stp 5 c s) e w' := by
  by_cases h2 : inS 12 c = true
  · have HI12 : Hid (∀ w, Calls Try.prog 50 #[.int .i64 (ck c), .int .i64 12] w fun e w' => e = .returned (.bool true) ∧ w' = w) := Lib.hid fun w => by
      have := isIn_12 c w
      rwa [h2] at this
    have HE : Hid (stp 5 c s = kp 12 5 c s) := Lib.hid (by simp [stp, h2])
    have HK : Hid (Calls Try.prog 51 #[.pointer (some ⟨B, 0, none⟩), .int .i64 (ck c), .int .i64 12, .int .i64 5] w fun e w' => StepE w n₀ B (kp 12 5 c s) e w') := Lib.hid (keep_any 12 5 (by decide) c s n₀ B w h hl)
    obtain ⟨r, hr⟩ : ∃ r, kp 12 5 c s = r := ⟨_, rfl⟩
    rw [hr] at HE HK
    obtain ⟨x, hx⟩ : ∃ x : Int, ck c = x := ⟨_, rfl⟩
    rw [hx] at HI12 HK ⊢
    clear h hx hr h2 hl hp
    go_enter Try.func38, Try.ntmps38
    go_wp2_with (first
      | (go_at_call 50; refine (HI12.out _).mono ?_; rintro _ w9 ⟨rfl, hw9⟩; subst w9)
      | (go_at_call 51; refine HK.out.mono ?_; rintro _ w9 ⟨rfl, hr9, hb9⟩))
    go_ret
    exact step_same HE.out rfl hr9 hb9
  · have h2 : inS 12 c = false := by simpa using h2
    have HI12 : Hid (∀ w, Calls Try.prog 50 #[.int .i64 (ck c), .int .i64 12] w fun e w' => e = .returned (.bool false) ∧ w' = w) := Lib.hid fun w => by
      have := isIn_12 c w
      rwa [h2] at this
    have HE : Hid (stp 5 c s = (beh c, ⟨lwr s.wd, s.ps, []⟩)) := Lib.hid (by simp [stp, h2])
    obtain ⟨u, v, hr⟩ := h
    have HT := Lib.hid (take_any s n₀ B u v w hr)
    have HL : Hid (∀ w, Calls Try.prog 15 #[.string (str s.wd)] w fun e w' => RetS (lwr s.wd) w e w') := Lib.hid fun w => mlower_any _ w (str_max hl)
    have HB : Hid (∀ w, Calls Try.prog 39 #[.pointer (some ⟨B, 0, none⟩), .int .i64 (ck c)] w fun e w' => e = .returned (.int .i64 (beh c : Int)) ∧ w' = w) := Lib.hid fun w => m_behind c B w
    obtain ⟨x, hx⟩ : ∃ x : Int, ck c = x := ⟨_, rfl⟩
    rw [hx] at HI12 HB ⊢
    clear h2 hl hp hr hx
    go_enter Try.func38, Try.ntmps38
    go_wp2_with (first
      | (go_at_call 50; refine (HI12.out _).mono ?_; rintro _ w9 ⟨rfl, hw9⟩; subst w9)
      | (go_at_call 52; refine HT.out.mono ?_; rintro _ w1 ⟨rfl, ⟨v1, h1⟩, hb1, _, _⟩)
      | (go_at_call 15; refine (HL.out _).mono ?_; rintro _ w2 ⟨rfl, hb2⟩; have h2 := h1.below hb2; have c0 := h2.c0; have f0 := h2.fz 0; have H := Lib.hid (h2.setT (lwr s.wd)))
      | (go_at_call 39; refine (HB.out _).mono ?_; rintro _ w9 ⟨rfl, hw9⟩; subst w9))
    go_ret
    exact step_same HE.out rfl ⟨_, _, H.out.1⟩ ((hb1.trans (Fr.of' hb2 h1.sz)).trans H.out.2)
set_option maxHeartbeats 1000000 in
theorem m_worded (c : Option UInt8) (s : St) (n₀ B : Nat) (w : World) (h : RdS w n₀ B s) (hl : s.wd.length ≤ 1000000) (hp : s.ps.length ≤ 1000000) (hne : s.ps ≠ []) :
    Calls Try.prog 43 #[.pointer (some ⟨B, 0, none⟩), .int .i64 (ck c)] w fun e w' => StepE w n₀ B (stp 10 c s) e w' := by
  by_cases h2 : inS 12 c = true
  · have HI12 : Hid (∀ w, Calls Try.prog 50 #[.int .i64 (ck c), .int .i64 12] w fun e w' => e = .returned (.bool true) ∧ w' = w) := Lib.hid fun w => by
      have := isIn_12 c w
      rwa [h2] at this
    have HE : Hid (stp 10 c s = kp 12 10 c s) := Lib.hid (by simp [stp, h2])
    have HK : Hid (Calls Try.prog 51 #[.pointer (some ⟨B, 0, none⟩), .int .i64 (ck c), .int .i64 12, .int .i64 10] w fun e w' => StepE w n₀ B (kp 12 10 c s) e w') := Lib.hid (keep_any 12 10 (by decide) c s n₀ B w h hl)
    obtain ⟨r, hr⟩ : ∃ r, kp 12 10 c s = r := ⟨_, rfl⟩
    rw [hr] at HE HK
    obtain ⟨x, hx⟩ : ∃ x : Int, ck c = x := ⟨_, rfl⟩
    rw [hx] at HI12 HK ⊢
    clear h hx hr h2 hl hp hne
    go_enter Try.func43, Try.ntmps43
    go_wp2_with (first
      | (go_at_call 50; refine (HI12.out _).mono ?_; rintro _ w9 ⟨rfl, hw9⟩; subst w9)
      | (go_at_call 51; refine HK.out.mono ?_; rintro _ w9 ⟨rfl, hr9, hb9⟩))
    go_ret
    exact step_same HE.out rfl hr9 hb9
  · have h2 : inS 12 c = false := by simpa using h2
    have HI12 : Hid (∀ w, Calls Try.prog 50 #[.int .i64 (ck c), .int .i64 12] w fun e w' => e = .returned (.bool false) ∧ w' = w) := Lib.hid fun w => by
      have := isIn_12 c w
      rwa [h2] at this
    have HE : Hid (stp 10 c s = (beh c, vl s)) := Lib.hid (by simp [stp, h2])
    have HV := Lib.hid (value_any s n₀ B w h hne hp)
    have HB : Hid (∀ w, Calls Try.prog 39 #[.pointer (some ⟨B, 0, none⟩), .int .i64 (ck c)] w fun e w' => e = .returned (.int .i64 (beh c : Int)) ∧ w' = w) := Lib.hid fun w => m_behind c B w
    obtain ⟨x, hx⟩ : ∃ x : Int, ck c = x := ⟨_, rfl⟩
    rw [hx] at HI12 HB ⊢
    clear h2 hl hp h hx hne
    go_enter Try.func43, Try.ntmps43
    go_wp2_with (first
      | (go_at_call 50; refine (HI12.out _).mono ?_; rintro _ w9 ⟨rfl, hw9⟩; subst w9)
      | (go_at_call 53; refine HV.out.mono ?_; rintro _ w1 ⟨rfl, h1, hb1⟩)
      | (go_at_call 39; refine (HB.out _).mono ?_; rintro _ w9 ⟨rfl, hw9⟩; subst w9))
    go_ret
    exact step_same HE.out rfl h1 hb1
set_option maxHeartbeats 1000000 in
theorem m_quoted (c : Option UInt8) (s : St) (n₀ B : Nat) (w : World) (h : RdS w n₀ B s) (hl : s.wd.length ≤ 1000000) (hp : s.ps.length ≤ 1000000) (hne : s.ps ≠ []) :
    Calls Try.prog 44 #[.pointer (some ⟨B, 0, none⟩), .int .i64 (ck c)] w fun e w' => StepE w n₀ B (stp 11 c s) e w' := by
  by_cases h4 : c = some 34
  · have HE : Hid (stp 11 c s = (6, vl s)) := Lib.hid (by simp [stp, h4])
    have HV := Lib.hid (value_any s n₀ B w h hne hp)
    obtain ⟨x, hx⟩ : ∃ x : Int, ck c = x := ⟨_, rfl⟩
    have d1 : (x == 34) = true := by rw [← hx]; exact ck_yes h4
    rw [hx]
    clear h4 hl hp h hx hne
    go_enter Try.func44, Try.ntmps44
    go_wp2_with (first
      | (go_at_call 53; refine HV.out.mono ?_; rintro _ w1 ⟨rfl, h1, hb1⟩))
    go_ret
    exact step_same HE.out rfl h1 hb1
  by_cases h9 : c = some 92
  · have HE : Hid (stp 11 c s = (12, s)) := Lib.hid (by simp [stp, h9])
    have HS := Lib.hid h
    obtain ⟨x, hx⟩ : ∃ x : Int, ck c = x := ⟨_, rfl⟩
    have d1 : (x == 34) = false := by rw [← hx]; exact ck_no h4
    have d2 : (x == 92) = true := by rw [← hx]; exact ck_yes h9
    rw [hx]
    clear h4 h9 hl hp h hx hne
    go_enter Try.func44, Try.ntmps44
    go_wp2_with fail
    go_ret
    exact step_same HE.out rfl HS.out (Fr.refl _ _ _)
  · have HE : Hid (stp 11 c s = kp 110 11 c s) := Lib.hid (by simp [stp, h4, h9])
    have HK : Hid (Calls Try.prog 51 #[.pointer (some ⟨B, 0, none⟩), .int .i64 (ck c), .int .i64 110, .int .i64 11] w fun e w' => StepE w n₀ B (kp 110 11 c s) e w') := Lib.hid (keep_any 110 11 (by decide) c s n₀ B w h hl)
    obtain ⟨r, hr⟩ : ∃ r, kp 110 11 c s = r := ⟨_, rfl⟩
    rw [hr] at HE HK
    obtain ⟨x, hx⟩ : ∃ x : Int, ck c = x := ⟨_, rfl⟩
    have d1 : (x == 34) = false := by rw [← hx]; exact ck_no h4
    have d2 : (x == 92) = false := by rw [← hx]; exact ck_no h9
    rw [hx] at HK ⊢
    clear h4 h9 hl hp h hx hne hr
    go_enter Try.func44, Try.ntmps44
    go_wp2_with (first
      | (go_at_call 51; refine HK.out.mono ?_; rintro _ w9 ⟨rfl, hr9, hb9⟩))
    go_ret
    exact step_same HE.out rfl hr9 hb9
end Go.Proofs.Ytgadpoahjlnheaa.Med
