/- The contracts of Split and Lines, the program's. -/
import Derived.Test.YtehehmpepkgbeaaDoorCF
namespace Go.Proofs.YtehehmpepkgbeaaDoor.Chr
open Go.RowKit
set_option linter.unusedVariables false
set_option linter.unusedSimpArgs false
/-- The variable MaxLen of the library is there. -/
def Mx (w : World) : Prop := ∃ m, w.cell? ⟨0, 0, none⟩ = some (.int .i64 m)
theorem Mx.pos {w : World} (h : Mx w) : 0 < w.heap.size := by
  obtain ⟨m, hm⟩ := h
  exact World.block_lt_of_cell? w ⟨0, 0, none⟩ hm
theorem Mx.next {w w' : World} (h : Mx w) (hb : Below w.heap.size w w') : Mx w' := by
  have hp := h.pos
  obtain ⟨m, hm⟩ := h
  exact ⟨m, (hb.cell (p := ⟨0, 0, none⟩) hp).trans hm⟩
/-- The tables of package utf8 and MaxLen. -/
def G9 (w : World) : Prop := Gl w ∧ Mx w
theorem G9.next {w w' : World} (h : G9 w) (hb : Below w.heap.size w w') : G9 w' := ⟨h.1.below' hb, h.2.next hb⟩
theorem count1 (l sub : List UInt8) (h : l.length ≤ 1000000) : (str l).size + Lib.countB (str l) (str sub) * (str [10]).size ≤ 140737488355328 := by
  have h1 := count_le l sub
  have h2 : Lib.countB (str l) (str sub) = Lib.count l sub := rfl
  have h3 : (str [10]).size = 1 := rfl
  rw [h2, h3, str_size]
  omega
set_option maxHeartbeats 2000000 in
theorem plines_any (l : List UInt8) (w : World) (hg : Mx w) (hs : l.length ≤ 100000) : Calls Tryd.prog 28 #[.string (str l)] w fun e w' => RetT (lns l) w e w' := by
  obtain ⟨y, hy⟩ : ∃ y, Lib.replaceAll l [13, 10] [10] = y := ⟨_, rfl⟩
  have hyl : y.length ≤ 100000 := by rw [← hy]; have := first_len l; omega
  have HA : Hid (Calls Tryd.prog 39 #[.string (str l), .string (str [13, 10]), .string (str [10])] w fun e w' => RetT y w e w') := Lib.hid (by
    obtain ⟨m, hm⟩ := hg
    have := Tryd.strings_ReplaceAll (str l) (str [13, 10]) (str [10]) m w (by rw [str_size]; omega) hm (by decide) (count1 l [13, 10] (by omega))
    rw [str_list, str_list, str_list, hy] at this
    exact this)
  have HB : Hid (∀ w2, Below w.heap.size w w2 → Calls Tryd.prog 39 #[.string (str y), .string (str [13]), .string (str [10])] w2 fun e w' => RetT (lns l) w2 e w') := Lib.hid fun w2 hb => by
    obtain ⟨m, hm⟩ := hg.next hb
    have := Tryd.strings_ReplaceAll (str y) (str [13]) (str [10]) m w2 (by rw [str_size]; omega) hm (by decide) (count1 y [13] (by omega))
    rw [str_list, str_list, str_list, ← hy, lines_of, hy] at this
    exact this
  obtain ⟨z, hz⟩ : ∃ z, lns l = z := ⟨_, rfl⟩
  rw [hz] at HB ⊢
  obtain ⟨S, hS⟩ : ∃ S, str l = S := ⟨_, rfl⟩
  obtain ⟨T, hT⟩ : ∃ T, str y = T := ⟨_, rfl⟩
  unfold RetT at *
  rw [hS] at HA ⊢
  rw [hT] at HA HB
  clear hS hT hz hy hyl hg hs
  go_enter Tryd.func28, Tryd.ntmps28
  go_wp2_with (first
    | (go_at_call 39; refine HA.out.mono ?_; rintro _ w8 ⟨rfl, hb8⟩; have HB8 := Lib.hid hb8; clear hb8 HA)
    | (go_at_call 39; refine (HB.out _ HB8.out).mono ?_; rintro _ w9 ⟨rfl, hb9⟩))
  go_ret
  exact ⟨rfl, below_call HB8.out hb9⟩
def SplR (R : List UInt8 × List UInt8 × Bool) (w : World) (e : Ending) (w' : World) : Prop := e = .returned (.tuple #[.string (str R.1), .string (str R.2.1), .bool R.2.2]) ∧ Below w.heap.size w w'
set_option maxHeartbeats 4000000 in
theorem psplit_any (l : List UInt8) (w : World) (hg : G9 w) (hs : l.length ≤ 100000) : Calls Tryd.prog 18 #[.string (str l)] w fun e w' => SplR (spl l) w e w' := by
  rw [← pspl_spl]
  have hlen : (cutF l).1.length ≤ 100000 ∧ (cutF l).2.1.length ≤ 100000 := by
    rcases cut_cases l with ⟨h, _⟩ | ⟨a, b, h1, h⟩
    · rw [h]; exact ⟨hs, by simp⟩
    · have := congrArg List.length h1
      rw [List.length_append, List.length_cons] at this
      rw [h]; exact ⟨by show a.length ≤ _; omega, by show b.length ≤ _; omega⟩
  unfold pspl
  obtain ⟨a, b, two, hc⟩ : ∃ a b two, cutF l = (a, b, two) := ⟨_, _, _, rfl⟩
  have HC : Hid (Calls Tryd.prog 34 #[.string (str l), .string (str [58])] w fun e w' => e = .returned (.tuple #[.string (str a), .string (str b), .bool two]) ∧ Below w.heap.size w w') := Lib.hid (by
    obtain ⟨m, hm⟩ := hg.2
    refine (Tryd.strings_Cut (str l) (str [58]) m w (by rw [str_size]; omega) hm).mono fun e w' h => ?_
    obtain ⟨h1, n, rfl⟩ := h
    refine ⟨?_, (below_draws (Below.refl _ _) _)⟩
    rw [str_list, str_list] at h1
    have h2 : Lib.cut l [58] = (a, b, two) := hc
    rw [h2] at h1
    exact h1)
  rw [hc] at hlen ⊢
  have HP1 : Hid (∀ w2, Below w.heap.size w w2 → Calls Tryd.prog 20 #[.string (str a)] w2 fun e w' => RetB (plain a) w2 e w') := Lib.hid fun w2 hb => pplain_any a w2 (hg.1.below' hb) hlen.1
  have HP2 : Hid (∀ w2, Below w.heap.size w w2 → Calls Tryd.prog 20 #[.string (str b)] w2 fun e w' => RetB (plain b) w2 e w') := Lib.hid fun w2 hb => pplain_any b w2 (hg.1.below' hb) hlen.2
  obtain ⟨x, hx⟩ : ∃ x, plain a = x := ⟨_, rfl⟩
  obtain ⟨y, hy⟩ : ∃ y, plain b = y := ⟨_, rfl⟩
  rw [hx] at HP1 ⊢
  rw [hy] at HP2 ⊢
  obtain ⟨S, hS⟩ : ∃ S, str l = S := ⟨_, rfl⟩
  rw [hS] at HC ⊢
  unfold SplR
  have HEM : Hid ((⟨#[]⟩ : ByteArray) = str []) := Lib.hid rfl
  clear hx hy hS hc hlen hg hs
  cases x with
  | false =>
    simp only [Bool.not_true, Bool.not_false, Bool.false_or, Bool.true_or, Bool.and_true, Bool.and_false, Bool.and_self, Bool.true_and, Bool.false_and, if_true, if_false, Bool.false_eq_true]
    go_enter Tryd.func18, Tryd.ntmps18
    go_wp2_with (first
      | (go_at_call 34; refine HC.out.mono ?_; rintro _ w3 ⟨rfl, hb3⟩; have HB3 := Lib.hid hb3; clear hb3 HC)
      | (go_at_call 20; refine (HP1.out _ HB3.out).mono ?_; rintro _ w4 ⟨rfl, hb4⟩; have HB4 := Lib.hid (below_call HB3.out hb4); clear hb4 HP1))
    go_ret3
    exact ⟨rfl, HB4.out⟩
  | true =>
    cases two with
    | false =>
      simp only [Bool.not_true, Bool.not_false, Bool.false_or, Bool.true_or, Bool.and_true, Bool.and_false, Bool.and_self, Bool.true_and, Bool.false_and, if_true, if_false, Bool.false_eq_true]
      go_enter Tryd.func18, Tryd.ntmps18
      go_wp2_with (first
        | (go_at_call 34; refine HC.out.mono ?_; rintro _ w3 ⟨rfl, hb3⟩; have HB3 := Lib.hid hb3; clear hb3 HC)
        | (go_at_call 20; refine (HP1.out _ HB3.out).mono ?_; rintro _ w4 ⟨rfl, hb4⟩; have HB4 := Lib.hid (below_call HB3.out hb4); clear hb4 HP1))
      go_ret3
      exact ⟨rfl, HB4.out⟩
    | true =>
      cases y with
      | false =>
        simp only [Bool.not_true, Bool.not_false, Bool.false_or, Bool.true_or, Bool.and_true, Bool.and_false, Bool.and_self, Bool.true_and, Bool.false_and, if_true, if_false, Bool.false_eq_true]
        go_enter Tryd.func18, Tryd.ntmps18
        go_wp2_with (first
          | (go_at_call 34; refine HC.out.mono ?_; rintro _ w3 ⟨rfl, hb3⟩; have HB3 := Lib.hid hb3; clear hb3 HC)
          | (go_at_call 20; refine (HP1.out _ HB3.out).mono ?_; rintro _ w4 ⟨rfl, hb4⟩; have HB4 := Lib.hid (below_call HB3.out hb4); clear hb4 HP1)
          | (go_at_call 20; refine (HP2.out _ HB4.out).mono ?_; rintro _ w5 ⟨rfl, hb5⟩; have HB5 := Lib.hid (below_call HB4.out hb5); clear hb5 HP2))
        go_ret3
        exact ⟨rfl, HB5.out⟩
      | true =>
        simp only [Bool.not_true, Bool.not_false, Bool.false_or, Bool.true_or, Bool.and_true, Bool.and_false, Bool.and_self, Bool.true_and, Bool.false_and, if_true, if_false, Bool.false_eq_true]
        go_enter Tryd.func18, Tryd.ntmps18
        go_wp2_with (first
          | (go_at_call 34; refine HC.out.mono ?_; rintro _ w3 ⟨rfl, hb3⟩; have HB3 := Lib.hid hb3; clear hb3 HC)
          | (go_at_call 20; refine (HP1.out _ HB3.out).mono ?_; rintro _ w4 ⟨rfl, hb4⟩; have HB4 := Lib.hid (below_call HB3.out hb4); clear hb4 HP1)
          | (go_at_call 20; refine (HP2.out _ HB4.out).mono ?_; rintro _ w5 ⟨rfl, hb5⟩; have HB5 := Lib.hid (below_call HB4.out hb5); clear hb5 HP2))
        go_ret3
        exact ⟨rfl, HB5.out⟩
end Go.Proofs.YtehehmpepkgbeaaDoor.Chr
