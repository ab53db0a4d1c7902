/- The walk of TablesEnd. -/
import Derived.Test.YtdifocahmephjaaTR
namespace Go.Proofs.Ytdifocahmephjaa.Tab
open Go.RowKit Go.Maps
set_option linter.unusedVariables false
set_option linter.unusedSimpArgs false
set_option maxRecDepth 100000
theorem ends_zero (r : Int) (h : ends 0 r = true) : False := by cases h
theorem ends_next {m : Nat} {r a b : Int} (hm : made r = (a, b, true)) (h : ends (m + 1) r = true) : (65 ≤ r ∧ 65 ≤ a ∧ (b ≠ 0 → 768 ≤ b) ∧ (han r = false → b ≠ 0 → mrkT b = true ∧ mrkT a = false)) ∧ ends m a = true := by
  unfold ends at h
  rw [hm, if_pos rfl] at h
  split at h
  · cases h
  · rename_i hc
    refine ⟨?_, h⟩
    simp only [not_or, not_and] at hc
    obtain ⟨h1, h2, h3, h4⟩ := hc
    refine ⟨by omega, by omega, fun hb => by have := h3 hb; omega, fun hh hb => ?_⟩
    have := h4 hh hb
    simpa using this
set_option maxHeartbeats 8000000 in
theorem end_walk (r : Int) (w : World) (hr : okI r) : Calls Try.prog 6 #[.int .i64 r] w fun e w' => e = .returned (.bool true) ∧ Below w.heap.size w w' := by
  have HM : Hid (∀ r, okI r → ∀ w, Calls Try.prog 7 #[.int .i64 r] w fun e w' => RetM (made r) w e w') := Lib.hid fun r hr w => made_any r w hr
  have HG : Hid (∀ r, okI r → ∀ w, Calls Try.prog 15 #[.int .i64 r] w fun e w' => e = .returned (.bool (han r)) ∧ w' = w) := Lib.hid fun r hr w => hangul_any r w hr
  have HK : Hid (∀ r w, Calls Try.prog 13 #[.int .i64 r] w fun e w' => e = .returned (.bool (mrkT r)) ∧ w' = w) := Lib.hid fun r w => mark_any r w
  have HW := Lib.hid fun w => wakes_any w
  have HR := Lib.hid hr
  clear hr
  go_enter Try.func6, Try.ntmps6
  go_wp2_with fail
  go_loopg [0, 3] 6 (fun gh q0 q3 wr => ∃ (n : Nat) (r : Int), n + gh = 6 ∧ q0 = .int .i64 r ∧ q3 = .int .i64 n ∧ n ≤ 5 ∧ Hid (okI r) ∧ Hid (ends (5 - n) r = true) ∧ Hid (Below w.heap.size w wr))
  case atStart => exact ⟨0, r, by omega, rfl, rfl, by omega, HR, Lib.hid (ends_all r), Lib.hid (Below.refl _ _)⟩
  case round =>
    clear HR
    obtain ⟨n, r, hng, rfl, rfl, hn5, HR, HE, HB⟩ := hrel
    by_cases hn : n < 5
    · obtain ⟨m, hm5⟩ : ∃ m, 5 - n = m + 1 := ⟨4 - n, by omega⟩
      have HE2 : Hid (ends (m + 1) r = true) := Lib.hid (by rw [← hm5]; exact HE.out)
      have HM5 : Hid (5 - (n + 1) = m) := Lib.hid (by omega)
      clear hm5 HE
      obtain ⟨a, b, ok, hm⟩ : ∃ a b ok, made r = (a, b, ok) := ⟨_, _, _, rfl⟩
      have H1 := Lib.hid fun w => HM.out r HR.out w
      have hok := made_ok r
      rw [hm] at H1 hok
      unfold RetM at H1
      have HOA := Lib.hid hok.1
      have hnI : (n : Int) < 5 := by omega
      cases ok with
      | false =>
        clear hok hm
        go_wp2_with (first
          | (go_at_call 7; refine (H1.out _).mono ?_; rintro _ w1 ⟨rfl, hb1⟩; have B1 := Lib.hid (below_call HB.out hb1); clear hb1 H1)
          | (go_at_call 17; refine (HW.out _).mono ?_; rintro _ w5 ⟨rfl, hb5⟩; have B5 := Lib.hid (below_call B1.out hb5); clear hb5))
        go_ret
        exact ⟨rfl, B5.out⟩
      | true =>
        obtain ⟨⟨c1, c2, c3, c4⟩, c5⟩ := ends_next hm HE2.out
        have HN := Lib.hid c5
        clear c5 hm hok HE2
        have H2 := Lib.hid fun w => HG.out r HR.out w
        have H3 := Lib.hid fun w => HK.out b w
        have H4 := Lib.hid fun w => HK.out a w
        by_cases hb0 : b = 0
        · subst hb0
          clear c3 c4 H3 H4
          generalize han r = h at H2
          cases h with
          | true =>
            go_wp2_with (first
              | (go_at_call 7; refine (H1.out _).mono ?_; rintro _ w1 ⟨rfl, hb1⟩; have B1 := Lib.hid (below_call HB.out hb1); clear hb1 H1)
              | (go_at_call 15; refine (H2.out _).mono ?_; rintro _ w9 ⟨rfl, hw9⟩; subst w9; clear H2))
            go_roundg (gk - 1)
            case measure => omega
            case rel => exact ⟨n + 1, a, by omega, rfl, by simp, by omega, HOA, Lib.hid (by rw [HM5.out]; exact HN.out), B1⟩
          | false =>
            go_wp2_with (first
              | (go_at_call 7; refine (H1.out _).mono ?_; rintro _ w1 ⟨rfl, hb1⟩; have B1 := Lib.hid (below_call HB.out hb1); clear hb1 H1)
              | (go_at_call 15; refine (H2.out _).mono ?_; rintro _ w9 ⟨rfl, hw9⟩; subst w9; clear H2))
            go_roundg (gk - 1)
            case measure => omega
            case rel => exact ⟨n + 1, a, by omega, rfl, by simp, by omega, HOA, Lib.hid (by rw [HM5.out]; exact HN.out), B1⟩
        · have c3' := c3 hb0
          have d0 : (b == 0) = false := by simpa using hb0
          cases hh : han r with
          | true =>
            rw [hh] at H2
            clear c3 c4 H3 H4 hb0 hh
            go_wp2_with (first
              | (go_at_call 7; refine (H1.out _).mono ?_; rintro _ w1 ⟨rfl, hb1⟩; have B1 := Lib.hid (below_call HB.out hb1); clear hb1 H1)
              | (go_at_call 15; refine (H2.out _).mono ?_; rintro _ w9 ⟨rfl, hw9⟩; subst w9; clear H2))
            go_roundg (gk - 1)
            case measure => omega
            case rel => exact ⟨n + 1, a, by omega, rfl, by simp, by omega, HOA, Lib.hid (by rw [HM5.out]; exact HN.out), B1⟩
          | false =>
            obtain ⟨k1, k2⟩ := c4 hh hb0
            rw [hh] at H2
            rw [k1] at H3
            rw [k2] at H4
            clear c3 c4 hb0 hh k1 k2
            go_wp2_with (first
              | (go_at_call 7; refine (H1.out _).mono ?_; rintro _ w1 ⟨rfl, hb1⟩; have B1 := Lib.hid (below_call HB.out hb1); clear hb1 H1)
              | (go_at_call 15; refine (H2.out _).mono ?_; rintro _ w9 ⟨rfl, hw9⟩; subst w9; clear H2)
              | (go_at_call 13; refine (H3.out _).mono ?_; rintro _ w9 ⟨rfl, hw9⟩; subst w9; clear H3)
              | (go_at_call 13; refine (H4.out _).mono ?_; rintro _ w9 ⟨rfl, hw9⟩; subst w9; clear H4))
            go_roundg (gk - 1)
            case measure => omega
            case rel => exact ⟨n + 1, a, by omega, rfl, by simp, by omega, HOA, Lib.hid (by rw [HM5.out]; exact HN.out), B1⟩
    · exact absurd HE.out (by
        have : n = 5 := by omega
        subst this
        exact fun h => ends_zero _ h)
end Go.Proofs.Ytdifocahmephjaa.Tab
