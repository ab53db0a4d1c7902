/- The walks of TablesBack and TablesEnd. -/
import Derived.Test.YtdifocahmephjaaTP
namespace Go.Proofs.Ytdifocahmephjaa.Tab
open Go.RowKit Go.Maps
set_option linter.unusedVariables false
set_option linter.unusedSimpArgs false
set_option maxRecDepth 100000
theorem prs_small : ∀ p ∈ prs, 0 ≤ p.1 ∧ p.1 ≤ 10000 ∧ 0 ≤ p.2.1 ∧ p.2.1 ≤ 10000 ∧ 0 ≤ p.2.2 ∧ p.2.2 ≤ 10000 := by decide +kernel
theorem made_ok (r : Int) : okI (made r).1 ∧ okI (made r).2.1 := by
  cases h : (made r).2.2 with
  | false =>
    unfold made at h ⊢
    split at h
    · split at h <;> cases h
    · rename_i hh
      rw [if_neg hh]
      cases hf : prs.find? (fun p => p.1 == r) with
      | none => exact ⟨⟨by decide, by decide⟩, ⟨by decide, by decide⟩⟩
      | some p => rw [hf] at h; cases h
  | true =>
    obtain ⟨a, b, ok, hm⟩ : ∃ a b ok, made r = (a, b, ok) := ⟨_, _, _, rfl⟩
    rw [hm] at h ⊢
    simp only at h
    subst h
    show okI a ∧ okI b
    rcases made_cases hm with ⟨h1, h2, h3, h4⟩ | ⟨h1, h2, h3, h4⟩ | ⟨h1, h2⟩
    · have := han_iff.1 h1; exact ⟨⟨by omega, by omega⟩, ⟨by omega, by omega⟩⟩
    · have := han_iff.1 h1; exact ⟨⟨by omega, by omega⟩, ⟨by omega, by omega⟩⟩
    · have := prs_small _ h2; simp only at this; exact ⟨⟨by omega, by omega⟩, ⟨by omega, by omega⟩⟩
theorem whole_ok (f s : Int) (h : (whole f s).2 = true) : okI (whole f s).1 := by
  obtain ⟨x, ok, hw⟩ : ∃ x ok, whole f s = (x, ok) := ⟨_, _, rfl⟩
  rw [hw] at h ⊢
  simp only at h
  subst h
  show okI x
  have := (whole_made hw).1
  rcases made_cases this with ⟨h1, _⟩ | ⟨h1, _⟩ | ⟨h1, h2⟩
  · have := han_iff.1 h1; exact ⟨by omega, by omega⟩
  · have := han_iff.1 h1; exact ⟨by omega, by omega⟩
  · have := prs_small _ h2; simp only at this; exact ⟨by omega, by omega⟩
set_option maxHeartbeats 8000000 in
theorem back_walk (r f s : Int) (w : World) (hr : okI r) (hf : okI f) (hs : okI s) : Calls Try.prog 5 #[.int .i64 r, .int .i64 f, .int .i64 s] w fun e w' => e = .returned (.bool true) ∧ Below w.heap.size w w' := by
  have H1 := Lib.hid fun w => made_any r w hr
  have H3 := Lib.hid fun w => whole_any f s w hf hs
  have HW := Lib.hid fun w => wakes_any w
  have hok := made_ok r
  have hwok := whole_ok f s
  have hmw := fun a b (h : made r = (a, b, true)) => made_whole (r := r) (a := a) (b := b) h
  have hma := fun a b (h : made r = (a, b, true)) => made_apart (r := r) (a := a) (b := b) h
  have hwm := fun x (h : whole f s = (x, true)) => whole_made (f := f) (s := s) (w := x) h
  obtain ⟨a, b, ok, hm⟩ : ∃ a b ok, made r = (a, b, ok) := ⟨_, _, _, rfl⟩
  obtain ⟨x, is, hw⟩ : ∃ x is, whole f s = (x, is) := ⟨_, _, rfl⟩
  rw [hm] at H1 hok
  rw [hw] at H3 hwok
  unfold RetM at H1
  unfold RetW at H3
  obtain ⟨hoa, hob⟩ := hok
  simp only at hoa hob
  cases is with
  | false =>
    clear hwok hwm
    cases ok with
    | false =>
      clear hoa hob hmw hma hr hf hs hm hw
      go_enter Try.func5, Try.ntmps5
      go_wp2_with (first
        | (go_at_call 7; refine (H1.out _).mono ?_; rintro _ w1 ⟨rfl, hb1⟩; have B1 := Lib.hid hb1; clear hb1 H1)
        | (go_at_call 9; refine (H3.out _).mono ?_; rintro _ w3 ⟨rfl, hb3⟩; have B3 := Lib.hid (below_call B1.out hb3); clear hb3 H3)
        | (go_at_call 17; refine (HW.out _).mono ?_; rintro _ w5 ⟨rfl, hb5⟩; have B5 := Lib.hid (below_call B3.out hb5); clear hb5))
      go_ret
      exact ⟨rfl, B5.out⟩
    | true =>
      have hne := hma a b hm
      have d1 : (a == r) = false := by simpa using hne
      by_cases hb0 : b = 0
      · subst hb0
        clear hoa hob hmw hma hr hf hs hm hw hne
        go_enter Try.func5, Try.ntmps5
        go_wp2_with (first
          | (go_at_call 7; refine (H1.out _).mono ?_; rintro _ w1 ⟨rfl, hb1⟩; have B1 := Lib.hid hb1; clear hb1 H1)
          | (go_at_call 9; refine (H3.out _).mono ?_; rintro _ w3 ⟨rfl, hb3⟩; have B3 := Lib.hid (below_call B1.out hb3); clear hb3 H3)
          | (go_at_call 17; refine (HW.out _).mono ?_; rintro _ w5 ⟨rfl, hb5⟩; have B5 := Lib.hid (below_call B3.out hb5); clear hb5))
        go_ret
        exact ⟨rfl, B5.out⟩
      · have d2 : (b == 0) = false := by simpa using hb0
        have H2 := Lib.hid fun w => whole_any a b w hoa hob
        rw [hmw a b hm hb0] at H2
        unfold RetW at H2
        clear hoa hob hmw hma hr hf hs hm hw hne hb0
        go_enter Try.func5, Try.ntmps5
        go_wp2_with (first
          | (go_at_call 7; refine (H1.out _).mono ?_; rintro _ w1 ⟨rfl, hb1⟩; have B1 := Lib.hid hb1; clear hb1 H1)
          | (go_at_call 9; refine (H2.out _).mono ?_; rintro _ w2 ⟨rfl, hb2⟩; have B2 := Lib.hid (below_call B1.out hb2); clear hb2 H2)
          | (go_at_call 9; refine (H3.out _).mono ?_; rintro _ w3 ⟨rfl, hb3⟩; have B3 := Lib.hid (below_call B2.out hb3); clear hb3 H3)
          | (go_at_call 17; refine (HW.out _).mono ?_; rintro _ w5 ⟨rfl, hb5⟩; have B5 := Lib.hid (below_call B3.out hb5); clear hb5))
        go_ret
        exact ⟨rfl, B5.out⟩
  | true =>
    obtain ⟨hm2, hs0⟩ := hwm x hw
    have hox := hwok rfl
    simp only at hox
    have H4 := Lib.hid fun w => made_any x w hox
    rw [hm2] at H4
    unfold RetM at H4
    have d3 : (s == 0) = false := by simpa using hs0
    clear hwok hwm
    cases ok with
    | false =>
      clear hoa hob hmw hma hr hf hs hm hw hs0 hm2 hox
      go_enter Try.func5, Try.ntmps5
      go_wp2_with (first
        | (go_at_call 7; refine (H1.out _).mono ?_; rintro _ w1 ⟨rfl, hb1⟩; have B1 := Lib.hid hb1; clear hb1 H1)
        | (go_at_call 9; refine (H3.out _).mono ?_; rintro _ w3 ⟨rfl, hb3⟩; have B3 := Lib.hid (below_call B1.out hb3); clear hb3 H3)
        | (go_at_call 7; refine (H4.out _).mono ?_; rintro _ w4 ⟨rfl, hb4⟩; have B4 := Lib.hid (below_call B3.out hb4); clear hb4 H4)
        | (go_at_call 17; refine (HW.out _).mono ?_; rintro _ w5 ⟨rfl, hb5⟩; have B5 := Lib.hid (below_call B4.out hb5); clear hb5))
      go_ret
      exact ⟨rfl, B5.out⟩
    | true =>
      have hne := hma a b hm
      have d1 : (a == r) = false := by simpa using hne
      by_cases hb0 : b = 0
      · subst hb0
        clear hoa hob hmw hma hr hf hs hm hw hne hs0 hm2 hox
        go_enter Try.func5, Try.ntmps5
        go_wp2_with (first
          | (go_at_call 7; refine (H1.out _).mono ?_; rintro _ w1 ⟨rfl, hb1⟩; have B1 := Lib.hid hb1; clear hb1 H1)
          | (go_at_call 9; refine (H3.out _).mono ?_; rintro _ w3 ⟨rfl, hb3⟩; have B3 := Lib.hid (below_call B1.out hb3); clear hb3 H3)
          | (go_at_call 7; refine (H4.out _).mono ?_; rintro _ w4 ⟨rfl, hb4⟩; have B4 := Lib.hid (below_call B3.out hb4); clear hb4 H4)
          | (go_at_call 17; refine (HW.out _).mono ?_; rintro _ w5 ⟨rfl, hb5⟩; have B5 := Lib.hid (below_call B4.out hb5); clear hb5))
        go_ret
        exact ⟨rfl, B5.out⟩
      · have d2 : (b == 0) = false := by simpa using hb0
        have H2 := Lib.hid fun w => whole_any a b w hoa hob
        rw [hmw a b hm hb0] at H2
        unfold RetW at H2
        clear hoa hob hmw hma hr hf hs hm hw hne hb0 hs0 hm2 hox
        go_enter Try.func5, Try.ntmps5
        go_wp2_with (first
          | (go_at_call 7; refine (H1.out _).mono ?_; rintro _ w1 ⟨rfl, hb1⟩; have B1 := Lib.hid hb1; clear hb1 H1)
          | (go_at_call 9; refine (H2.out _).mono ?_; rintro _ w2 ⟨rfl, hb2⟩; have B2 := Lib.hid (below_call B1.out hb2); clear hb2 H2)
          | (go_at_call 9; refine (H3.out _).mono ?_; rintro _ w3 ⟨rfl, hb3⟩; have B3 := Lib.hid (below_call B2.out hb3); clear hb3 H3)
          | (go_at_call 7; refine (H4.out _).mono ?_; rintro _ w4 ⟨rfl, hb4⟩; have B4 := Lib.hid (below_call B3.out hb4); clear hb4 H4)
          | (go_at_call 17; refine (HW.out _).mono ?_; rintro _ w5 ⟨rfl, hb5⟩; have B5 := Lib.hid (below_call B4.out hb5); clear hb5))
        go_ret
        exact ⟨rfl, B5.out⟩
end Go.Proofs.Ytdifocahmephjaa.Tab
