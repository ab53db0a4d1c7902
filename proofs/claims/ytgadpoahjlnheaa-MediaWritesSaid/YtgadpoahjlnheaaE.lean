/- The contracts of the methods that read a byte. -/
import Derived.Test.YtgadpoahjlnheaaD
namespace Go.Proofs.Ytgadpoahjlnheaa.Med
open Go.RowKit
set_option linter.unusedVariables false
set_option linter.unusedSimpArgs false
open Lab (RetS ret_str str str_size str_list str_eta str_inj u8v st_ixb info5 info_parts)
def StepE (w : World) (n₀ B : Nat) (r : Nat × St) (e : Ending) (w' : World) : Prop := e = .returned (.int .i64 (r.1 : Int)) ∧ RdS w' n₀ B r.2 ∧ Fr n₀ B w w'
theorem step_same {w w' : World} {n₀ B : Nat} {r q : Nat × St} {i : Int} (h : r = q) (hi : i = (q.1 : Int)) (hr : RdS w' n₀ B q.2) (hb : Fr n₀ B w w') : StepE w n₀ B r (.returned (.int .i64 i)) w' := by
  subst h; subst hi; exact ⟨rfl, hr, hb⟩
theorem ck_yes {c : Option UInt8} {b : UInt8} (h : c = some b) : (ck c == (b.toNat : Int)) = true := by subst h; simp [ck]
theorem ck_no {c : Option UInt8} {b : UInt8} (h : ¬ c = some b) : (ck c == (b.toNat : Int)) = false := by
  cases c with
  | none => simp [ck]
  | some d =>
    have : d ≠ b := fun e => h (by rw [e])
    have h2 : d.toNat ≠ b.toNat := fun e => this (UInt8.toNat_inj.1 e)
    simp [ck]; omega
theorem ck_end {c : Option UInt8} (h : c = none) : (ck c == (-1 : Int)) = true := by subst h; rfl
theorem ck_noend {c : Option UInt8} (h : ¬ c = none) : (ck c == (-1 : Int)) = false := by
  cases c with
  | none => exact absurd rfl h
  | some d => simp [ck]
set_option maxHeartbeats 1000000 in
theorem m_start (c : Option UInt8) (s : St) (n₀ B : Nat) (w : World) (h : RdS w n₀ B s) (hl : s.wd.length ≤ 1000000) (hp : s.ps.length ≤ 1000000) :
    Calls Try.prog 35 #[.pointer (some ⟨B, 0, none⟩), .int .i64 (ck c)] w fun e w' => StepE w n₀ B (stp 2 c s) e w' := by
  by_cases h2 : inS 2 c = true
  · have HI2 : Hid (∀ w, Calls Try.prog 50 #[.int .i64 (ck c), .int .i64 2] w fun e w' => e = .returned (.bool true) ∧ w' = w) := Lib.hid fun w => by
          have := isIn_2 c w
          rwa [h2] at this
    have HE : Hid (stp 2 c s = (2, s)) := Lib.hid (by simp [stp, h2])
    have HS := Lib.hid h
    obtain ⟨x, hx⟩ : ∃ x : Int, ck c = x := ⟨_, rfl⟩
    rw [hx] at HI2 ⊢
    clear h hx h2 hl hp
    go_enter Try.func35, Try.ntmps35
    go_wp2_with (first
      | (go_at_call 50; refine (HI2.out _).mono ?_; rintro _ w9 ⟨rfl, hw9⟩; subst w9))
    go_ret
    exact step_same HE.out rfl HS.out (Fr.refl _ _ _)
  · have h2 : inS 2 c = false := by simpa using h2
    have HI2 : Hid (∀ w, Calls Try.prog 50 #[.int .i64 (ck c), .int .i64 2] w fun e w' => e = .returned (.bool false) ∧ w' = w) := Lib.hid fun w => by
          have := isIn_2 c w
          rwa [h2] at this
    have HE : Hid (stp 2 c s = kp 12 3 c s) := Lib.hid (by simp [stp, h2])
    have HK : Hid (Calls Try.prog 51 #[.pointer (some ⟨B, 0, none⟩), .int .i64 (ck c), .int .i64 12, .int .i64 3] w fun e w' => StepE w n₀ B (kp 12 3 c s) e w') := Lib.hid (keep_any 12 3 (by decide) c s n₀ B w h hl)
    obtain ⟨r, hr⟩ : ∃ r, kp 12 3 c s = r := ⟨_, rfl⟩
    rw [hr] at HE HK
    clear hr
    have HS := Lib.hid h
    obtain ⟨x, hx⟩ : ∃ x : Int, ck c = x := ⟨_, rfl⟩
    rw [hx] at HI2 HK ⊢
    clear h hx h2 hl hp
    go_enter Try.func35, Try.ntmps35
    go_wp2_with (first
      | (go_at_call 50; refine (HI2.out _).mono ?_; rintro _ w9 ⟨rfl, hw9⟩; subst w9)
      | (go_at_call 51; refine HK.out.mono ?_; rintro _ w9 ⟨rfl, hr9, hb9⟩))
    go_ret
    exact step_same HE.out rfl hr9 hb9
set_option maxHeartbeats 1000000 in
theorem m_top (c : Option UInt8) (s : St) (n₀ B : Nat) (w : World) (h : RdS w n₀ B s) (hl : s.wd.length ≤ 1000000) (hp : s.ps.length ≤ 1000000) :
    Calls Try.prog 36 #[.pointer (some ⟨B, 0, none⟩), .int .i64 (ck c)] w fun e w' => StepE w n₀ B (stp 3 c s) e w' := by
  by_cases h7 : c = some 47
  · have HE : Hid (stp 3 c s = kp 32 4 c s) := Lib.hid (by simp [stp, h7])
    have HK : Hid (Calls Try.prog 51 #[.pointer (some ⟨B, 0, none⟩), .int .i64 (ck c), .int .i64 32, .int .i64 4] w fun e w' => StepE w n₀ B (kp 32 4 c s) e w') := Lib.hid (keep_any 32 4 (by decide) c s n₀ B w h hl)
    obtain ⟨r, hr⟩ : ∃ r, kp 32 4 c s = r := ⟨_, rfl⟩
    rw [hr] at HE HK
    clear hr
    have HS := Lib.hid h
    obtain ⟨x, hx⟩ : ∃ x : Int, ck c = x := ⟨_, rfl⟩
    have d1 : (x == 47) = true := by rw [← hx]; exact ck_yes h7
    rw [hx] at HK ⊢
    clear h hx h7 hl hp
    go_enter Try.func36, Try.ntmps36
    go_wp2_with (first
      | (go_at_call 51; refine HK.out.mono ?_; rintro _ w9 ⟨rfl, hr9, hb9⟩))
    go_ret
    exact step_same HE.out rfl hr9 hb9
  · have HE : Hid (stp 3 c s = kp 12 3 c s) := Lib.hid (by simp [stp, h7])
    have HK : Hid (Calls Try.prog 51 #[.pointer (some ⟨B, 0, none⟩), .int .i64 (ck c), .int .i64 12, .int .i64 3] w fun e w' => StepE w n₀ B (kp 12 3 c s) e w') := Lib.hid (keep_any 12 3 (by decide) c s n₀ B w h hl)
    obtain ⟨r, hr⟩ : ∃ r, kp 12 3 c s = r := ⟨_, rfl⟩
    rw [hr] at HE HK
    clear hr
    have HS := Lib.hid h
    obtain ⟨x, hx⟩ : ∃ x : Int, ck c = x := ⟨_, rfl⟩
    have d1 : (x == 47) = false := by rw [← hx]; exact ck_no h7
    rw [hx] at HK ⊢
    clear h hx h7 hl hp
    go_enter Try.func36, Try.ntmps36
    go_wp2_with (first
      | (go_at_call 51; refine HK.out.mono ?_; rintro _ w9 ⟨rfl, hr9, hb9⟩))
    go_ret
    exact step_same HE.out rfl hr9 hb9
set_option maxHeartbeats 1000000 in
theorem m_slashed (c : Option UInt8) (s : St) (n₀ B : Nat) (w : World) (h : RdS w n₀ B s) (hl : s.wd.length ≤ 1000000) (hp : s.ps.length ≤ 1000000) :
    Calls Try.prog 37 #[.pointer (some ⟨B, 0, none⟩), .int .i64 (ck c)] w fun e w' => StepE w n₀ B (stp 4 c s) e w' := by
  have HE : Hid (stp 4 c s = kp 12 5 c s) := Lib.hid (rfl)
  have HK : Hid (Calls Try.prog 51 #[.pointer (some ⟨B, 0, none⟩), .int .i64 (ck c), .int .i64 12, .int .i64 5] w fun e w' => StepE w n₀ B (kp 12 5 c s) e w') := Lib.hid (keep_any 12 5 (by decide) c s n₀ B w h hl)
  obtain ⟨r, hr⟩ : ∃ r, kp 12 5 c s = r := ⟨_, rfl⟩
  rw [hr] at HE HK
  clear hr
  have HS := Lib.hid h
  obtain ⟨x, hx⟩ : ∃ x : Int, ck c = x := ⟨_, rfl⟩
  rw [hx] at HK ⊢
  clear h hx hl hp
  go_enter Try.func37, Try.ntmps37
  go_wp2_with (first
    | (go_at_call 51; refine HK.out.mono ?_; rintro _ w9 ⟨rfl, hr9, hb9⟩))
  go_ret
  exact step_same HE.out rfl hr9 hb9
set_option maxHeartbeats 1000000 in
theorem m_opened (c : Option UInt8) (s : St) (n₀ B : Nat) (w : World) (h : RdS w n₀ B s) (hl : s.wd.length ≤ 1000000) (hp : s.ps.length ≤ 1000000) :
    Calls Try.prog 40 #[.pointer (some ⟨B, 0, none⟩), .int .i64 (ck c)] w fun e w' => StepE w n₀ B (stp 7 c s) e w' := by
  by_cases h0 : c = none
  · have HE : Hid (stp 7 c s = (1, s)) := Lib.hid (by simp [stp, h0])
    have HS := Lib.hid h
    obtain ⟨x, hx⟩ : ∃ x : Int, ck c = x := ⟨_, rfl⟩
    have d1 : (x == -1) = true := by rw [← hx]; exact ck_end h0
    rw [hx]
    clear h hx h0 hl hp
    go_enter Try.func40, Try.ntmps40
    go_wp2_with fail
    go_ret
    exact step_same HE.out rfl HS.out (Fr.refl _ _ _)
  by_cases h9 : c = some 59
  · have HE : Hid (stp 7 c s = (7, s)) := Lib.hid (by simp [stp, h0, h9])
    have HS := Lib.hid h
    obtain ⟨x, hx⟩ : ∃ x : Int, ck c = x := ⟨_, rfl⟩
    have d1 : (x == -1) = false := by rw [← hx]; exact ck_noend h0
    have d2 : (x == 59) = true := by rw [← hx]; exact ck_yes h9
    rw [hx]
    clear h hx h0 h9 hl hp
    go_enter Try.func40, Try.ntmps40
    go_wp2_with fail
    go_ret
    exact step_same HE.out rfl HS.out (Fr.refl _ _ _)
  by_cases h2 : inS 2 c = true
  · have HI2 : Hid (∀ w, Calls Try.prog 50 #[.int .i64 (ck c), .int .i64 2] w fun e w' => e = .returned (.bool true) ∧ w' = w) := Lib.hid fun w => by
          have := isIn_2 c w
          rwa [h2] at this
    have HE : Hid (stp 7 c s = (7, s)) := Lib.hid (by simp [stp, h0, h9, h2])
    have HS := Lib.hid h
    obtain ⟨x, hx⟩ : ∃ x : Int, ck c = x := ⟨_, rfl⟩
    have d1 : (x == -1) = false := by rw [← hx]; exact ck_noend h0
    have d2 : (x == 59) = false := by rw [← hx]; exact ck_no h9
    rw [hx] at HI2 ⊢
    clear h hx h0 h9 h2 hl hp
    go_enter Try.func40, Try.ntmps40
    go_wp2_with (first
      | (go_at_call 50; refine (HI2.out _).mono ?_; rintro _ w9 ⟨rfl, hw9⟩; subst w9))
    go_ret
    exact step_same HE.out rfl HS.out (Fr.refl _ _ _)
  · have h2 : inS 2 c = false := by simpa using h2
    have HI2 : Hid (∀ w, Calls Try.prog 50 #[.int .i64 (ck c), .int .i64 2] w fun e w' => e = .returned (.bool false) ∧ w' = w) := Lib.hid fun w => by
          have := isIn_2 c w
          rwa [h2] at this
    have HE : Hid (stp 7 c s = kp 12 8 c s) := Lib.hid (by simp [stp, h0, h9, h2])
    have HK : Hid (Calls Try.prog 51 #[.pointer (some ⟨B, 0, none⟩), .int .i64 (ck c), .int .i64 12, .int .i64 8] w fun e w' => StepE w n₀ B (kp 12 8 c s) e w') := Lib.hid (keep_any 12 8 (by decide) c s n₀ B w h hl)
    obtain ⟨r, hr⟩ : ∃ r, kp 12 8 c s = r := ⟨_, rfl⟩
    rw [hr] at HE HK
    clear hr
    have HS := Lib.hid h
    obtain ⟨x, hx⟩ : ∃ x : Int, ck c = x := ⟨_, rfl⟩
    have d1 : (x == -1) = false := by rw [← hx]; exact ck_noend h0
    have d2 : (x == 59) = false := by rw [← hx]; exact ck_no h9
    rw [hx] at HI2 HK ⊢
    clear h hx h0 h9 h2 hl hp
    go_enter Try.func40, Try.ntmps40
    go_wp2_with (first
      | (go_at_call 50; refine (HI2.out _).mono ?_; rintro _ w9 ⟨rfl, hw9⟩; subst w9)
      | (go_at_call 51; refine HK.out.mono ?_; rintro _ w9 ⟨rfl, hr9, hb9⟩))
    go_ret
    exact step_same HE.out rfl hr9 hb9
set_option maxHeartbeats 1000000 in
theorem m_assigned (c : Option UInt8) (s : St) (n₀ B : Nat) (w : World) (h : RdS w n₀ B s) (hl : s.wd.length ≤ 1000000) (hp : s.ps.length ≤ 1000000) :
    Calls Try.prog 42 #[.pointer (some ⟨B, 0, none⟩), .int .i64 (ck c)] w fun e w' => StepE w n₀ B (stp 9 c s) e w' := by
  by_cases h4 : c = some 34
  · have HE : Hid (stp 9 c s = (11, s)) := Lib.hid (by simp [stp, h4])
    have HS := Lib.hid h
    obtain ⟨x, hx⟩ : ∃ x : Int, ck c = x := ⟨_, rfl⟩
    have d1 : (x == 34) = true := by rw [← hx]; exact ck_yes h4
    rw [hx]
    clear h hx h4 hl hp
    go_enter Try.func42, Try.ntmps42
    go_wp2_with fail
    go_ret
    exact step_same HE.out rfl HS.out (Fr.refl _ _ _)
  · have HE : Hid (stp 9 c s = kp 12 10 c s) := Lib.hid (by simp [stp, h4])
    have HK : Hid (Calls Try.prog 51 #[.pointer (some ⟨B, 0, none⟩), .int .i64 (ck c), .int .i64 12, .int .i64 10] w fun e w' => StepE w n₀ B (kp 12 10 c s) e w') := Lib.hid (keep_any 12 10 (by decide) c s n₀ B w h hl)
    obtain ⟨r, hr⟩ : ∃ r, kp 12 10 c s = r := ⟨_, rfl⟩
    rw [hr] at HE HK
    clear hr
    have HS := Lib.hid h
    obtain ⟨x, hx⟩ : ∃ x : Int, ck c = x := ⟨_, rfl⟩
    have d1 : (x == 34) = false := by rw [← hx]; exact ck_no h4
    rw [hx] at HK ⊢
    clear h hx h4 hl hp
    go_enter Try.func42, Try.ntmps42
    go_wp2_with (first
      | (go_at_call 51; refine HK.out.mono ?_; rintro _ w9 ⟨rfl, hr9, hb9⟩))
    go_ret
    exact step_same HE.out rfl hr9 hb9
set_option maxHeartbeats 1000000 in
theorem m_escaped (c : Option UInt8) (s : St) (n₀ B : Nat) (w : World) (h : RdS w n₀ B s) (hl : s.wd.length ≤ 1000000) (hp : s.ps.length ≤ 1000000) :
    Calls Try.prog 45 #[.pointer (some ⟨B, 0, none⟩), .int .i64 (ck c)] w fun e w' => StepE w n₀ B (stp 12 c s) e w' := by
  have HE : Hid (stp 12 c s = kp 62 11 c s) := Lib.hid (rfl)
  have HK : Hid (Calls Try.prog 51 #[.pointer (some ⟨B, 0, none⟩), .int .i64 (ck c), .int .i64 62, .int .i64 11] w fun e w' => StepE w n₀ B (kp 62 11 c s) e w') := Lib.hid (keep_any 62 11 (by decide) c s n₀ B w h hl)
  obtain ⟨r, hr⟩ : ∃ r, kp 62 11 c s = r := ⟨_, rfl⟩
  rw [hr] at HE HK
  clear hr
  have HS := Lib.hid h
  obtain ⟨x, hx⟩ : ∃ x : Int, ck c = x := ⟨_, rfl⟩
  rw [hx] at HK ⊢
  clear h hx hl hp
  go_enter Try.func45, Try.ntmps45
  go_wp2_with (first
    | (go_at_call 51; refine HK.out.mono ?_; rintro _ w9 ⟨rfl, hr9, hb9⟩))
  go_ret
  exact step_same HE.out rfl hr9 hb9
end Go.Proofs.Ytgadpoahjlnheaa.Med
