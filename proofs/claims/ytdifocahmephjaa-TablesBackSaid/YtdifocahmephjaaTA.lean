/- The contracts of the program's small functions: place, a syllable's, joined, Hangul. -/
import Derived.Test.YtdifocahmephjaaTQ
import Derived.Test.YtdifocahmephjaaSL
namespace Go.Proofs.Ytdifocahmephjaa.Tab
open Go.RowKit
set_option linter.unusedVariables false
set_option linter.unusedSimpArgs false
/-- An int. -/
def okI (r : Int) : Prop := -9223372036854775808 ≤ r ∧ r ≤ 9223372036854775807
def plc (r f n : Int) : Int × Bool := if f ≤ r ∧ r < f + n then (r - f, true) else (0, false)
theorem place_any (r f n : Int) (w : World) (hr : okI r) (hf : 0 ≤ f ∧ f ≤ 100000) (hn : 0 ≤ n ∧ n ≤ 100000) :
    Calls Try.prog 31 #[.int .i64 r, .int .i64 f, .int .i64 n] w fun e w' => e = .returned (.tuple #[.int .i64 (plc r f n).1, .bool (plc r f n).2]) ∧ w' = w := by
  obtain ⟨R, hR⟩ : ∃ R, IntKind.u64.wrap r = R := ⟨_, rfl⟩
  have hF : IntKind.u64.wrap f = f := by rw [IntKind.wrap_u64]; omega
  have hN : IntKind.u64.wrap n = n := by rw [IntKind.wrap_u64]; omega
  obtain ⟨A, hA⟩ : ∃ A, IntKind.u64.wrap (R - f) = A := ⟨_, rfl⟩
  have hA' : A = (r % 18446744073709551616 - f) % 18446744073709551616 := by rw [← hA, ← hR, IntKind.wrap_u64, IntKind.wrap_u64]
  obtain ⟨h1, h2⟩ := hr
  by_cases hc : f ≤ r ∧ r < f + n
  · have hp : plc r f n = (r - f, true) := if_pos hc
    rw [hp]
    have hA2 : A = r - f := by omega
    have hge : (decide (A ≥ n)) = false := by rw [decide_eq_false_iff_not]; omega
    have hge2 : A < n := by omega
    obtain ⟨z, hz⟩ : ∃ z, r - f = z := ⟨_, rfl⟩
    rw [hz] at hA2 ⊢
    subst hA2
    have hW : IntKind.i64.wrap A = A := by simp [IntKind.wrap, IntKind.bits, IntKind.signed]; omega
    clear hA' h1 h2 hc hp hz
    go_enter Try.func31, Try.ntmps31
    go_wp2_with fail
    go_ret2
    exact ⟨rfl, rfl⟩
  · have hp : plc r f n = (0, false) := if_neg hc
    rw [hp]
    have hge2 : A ≥ n := by omega
    clear hA' h1 h2 hc hp
    go_enter Try.func31, Try.ntmps31
    go_wp2_with fail
    go_ret2
    exact ⟨rfl, rfl⟩
theorem plc_yes {r f n : Int} (h : f ≤ r ∧ r < f + n) : plc r f n = (r - f, true) := if_pos h
theorem plc_no {r f n : Int} (h : ¬ (f ≤ r ∧ r < f + n)) : plc r f n = (0, false) := if_neg h
def sylF (r : Int) : Int := if han r = true then r - 44032 else 0
theorem syl_any (r : Int) (w : World) (hr : okI r) : Calls Try.prog 20 #[.int .i64 r] w fun e w' => e = .returned (.tuple #[.int .u16 (sylF r), .bool (han r)]) ∧ w' = w := by
  have hp := Lib.hid fun w => place_any r 44032 11172 w hr (by omega) (by omega)
  obtain ⟨z, hz, h1, h2, hs⟩ : ∃ z, plc r 44032 11172 = (z, han r) ∧ 0 ≤ z ∧ z < 11172 ∧ sylF r = z := by
    by_cases h : 44032 ≤ r ∧ r < 55204
    · exact ⟨r - 44032, by rw [plc_yes (by omega), han_iff.2 h], by omega, by omega, if_pos (han_iff.2 h)⟩
    · have hh : ¬ han r = true := fun e => h (han_iff.1 e)
      refine ⟨0, by rw [plc_no (by omega)]; congr 1; simpa using hh, by omega, by omega, if_neg hh⟩
  rw [hz] at hp
  rw [hs]
  have hW : IntKind.u16.wrap z = z := by rw [IntKind.wrap_u16]; omega
  generalize han r = b at hp ⊢
  clear hz hs hr
  go_enter Try.func20, Try.ntmps20
  go_wp2_with (go_at_call 31; refine (hp.out _).mono ?_; rintro _ w9 ⟨rfl, hw9⟩; subst w9)
  go_ret2
  exact ⟨rfl, rfl⟩
theorem hangul_any (r : Int) (w : World) (hr : okI r) : Calls Try.prog 15 #[.int .i64 r] w fun e w' => e = .returned (.bool (han r)) ∧ w' = w := by
  have hp := Lib.hid fun w => syl_any r w hr
  generalize han r = b at hp ⊢
  generalize sylF r = z at hp
  clear hr
  go_enter Try.func15, Try.ntmps15
  go_wp2_with (go_at_call 20; refine (hp.out _).mono ?_; rintro _ w9 ⟨rfl, hw9⟩; subst w9)
  go_ret
  exact ⟨rfl, rfl⟩
theorem scalar_any (s : Int) (w : World) (hs : 0 ≤ s ∧ s < 65536) : Calls Try.prog 33 #[.int .u16 s] w fun e w' => e = .returned (.int .i64 (44032 + s)) ∧ w' = w := by
  obtain ⟨h1, h2⟩ := hs
  go_enter Try.func33, Try.ntmps33
  go_wp2_with fail
  go_ret
  exact ⟨rfl, rfl⟩
theorem tail_any (s : Int) (w : World) (hs : 0 ≤ s ∧ s < 65536) : Calls Try.prog 32 #[.int .u16 s] w fun e w' => e = .returned (.int .i64 (s % 28)) ∧ w' = w := by
  obtain ⟨h1, h2⟩ := hs
  have ht : s.tmod 28 = s % 28 := Int.tmod_eq_emod_of_nonneg h1
  go_enter Try.func32, Try.ntmps32
  go_wp2_with fail
  go_ret
  exact ⟨rfl, rfl⟩
end Go.Proofs.Ytdifocahmephjaa.Tab
