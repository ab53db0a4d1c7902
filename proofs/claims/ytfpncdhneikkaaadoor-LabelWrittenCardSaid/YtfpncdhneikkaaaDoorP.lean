/- The walks of the laws LabelTrim and LabelOnce. -/
import Derived.Test.YtfpncdhneikkaaaDoorO
import Derived.Lib.Bytealg
import Derived.Laws.Externs
import Derived.Laws.DeepStrings4
import Derived.Laws.BytesArg
import Derived.Laws.IdiomStrings
namespace Go.Proofs.YtfpncdhneikkaaaDoor
open Go.RowKit
set_option linter.unusedVariables false
set_option linter.unusedSimpArgs false
set_option maxHeartbeats 2000000 in
theorem trimlaw_walk (s : ByteArray) (w : World) (hg : Gl w) (hs : s.size ≤ maxLen) : Calls Tryd.prog 6 #[.string s] w fun r w' => RetB true w r w' := by
  have HG := Lib.hid hg
  have H7 : Hid (∀ w, Gl w → Calls Tryd.prog 7 #[] w fun t w' => RetB true w t w') := Lib.hid wakes_any
  clear hg
  by_cases hlt : s.size ≤ 300
  rotate_left 1
  · have hd : decide ((300 : Int) < (s.size : Int)) = true := by simp; omega
    clear hlt
    go_enter Tryd.func6, Tryd.ntmps6
    go_wp2_with (go_at_call 7; refine (H7.out _ HG.out).mono ?_; rintro _ w7 ⟨rfl, hb7⟩; have HB7 := Lib.hid hb7; clear hb7 H7)
    go_ret
    exact ⟨rfl, HB7.out⟩
  have hd : decide ((300 : Int) < (s.size : Int)) = false := by simp; omega
  have hsz : s.data.toList.length = s.size := by simp
  obtain ⟨T, hT⟩ : ∃ T, str (trm s.data.toList) = T := ⟨_, rfl⟩
  obtain ⟨U, hU⟩ : ∃ U, str (lwr s.data.toList) = U := ⟨_, rfl⟩
  obtain ⟨X, hX⟩ : ∃ X, str (trm (lwr s.data.toList)) = X := ⟨_, rfl⟩
  have hTl : T.data.toList = trm s.data.toList := by rw [← hT]; rfl
  have hUl : U.data.toList = lwr s.data.toList := by rw [← hU]; rfl
  have hTs : T.size ≤ s.size := by rw [← hT, str_size]; have := trm_len s.data.toList; omega
  have hUs : U.size = s.size := by rw [← hU, str_size, lwr_len]; exact hsz
  have C1 : Hid (∀ w, Calls Tryd.prog 15 #[.string s] w fun r w' => r = .returned (.string T) ∧ Below w.heap.size w w') := Lib.hid fun w => by
    have := trim_any s w hs
    unfold RetS at this; rwa [hT] at this
  have C2 : Hid (∀ w, Calls Tryd.prog 17 #[.string s] w fun r w' => r = .returned (.string U) ∧ Below w.heap.size w w') := Lib.hid fun w => by
    have := lower_any s w hs
    unfold RetS at this; rwa [hU] at this
  have C3 : Hid (∀ w, Calls Tryd.prog 15 #[.string T] w fun r w' => r = .returned (.string T) ∧ Below w.heap.size w w') := Lib.hid fun w => by
    have := trim_any T w (by omega)
    unfold RetS at this; rwa [hTl, trm_trm, hT] at this
  have C4 : Hid (∀ w, Calls Tryd.prog 17 #[.string U] w fun r w' => r = .returned (.string U) ∧ Below w.heap.size w w') := Lib.hid fun w => by
    have := lower_any U w (by omega)
    unfold RetS at this; rwa [hUl, lwr_lwr, hU] at this
  have C5 : Hid (∀ w, Calls Tryd.prog 15 #[.string U] w fun r w' => r = .returned (.string X) ∧ Below w.heap.size w w') := Lib.hid fun w => by
    have := trim_any U w (by omega)
    unfold RetS at this; rwa [hUl, hX] at this
  have C6 : Hid (∀ w, Calls Tryd.prog 17 #[.string T] w fun r w' => r = .returned (.string X) ∧ Below w.heap.size w w') := Lib.hid fun w => by
    have := lower_any T w (by omega)
    unfold RetS at this; rwa [hTl, ← trm_lwr, hX] at this
  have d1 : ((U.size : Int) == (s.size : Int)) = true := by simp; omega
  have d1n : (U.size == s.size) = true := by simp; omega
  have d2 : decide ((T.size : Int) ≤ (s.size : Int)) = true := by simp; omega
  have d2n : decide (T.size ≤ s.size) = true := by simp; omega
  clear hT hU hX hTl hUl hlt hsz hUs
  go_enter Tryd.func6, Tryd.ntmps6
  go_wp2_with (first
    | (go_at_call 15; refine (C1.out _).mono ?_; rintro _ w1 ⟨rfl, hb1⟩; have HB1 := Lib.hid hb1; clear hb1 C1)
    | (go_at_call 17; refine (C2.out _).mono ?_; rintro _ w2 ⟨rfl, hb2⟩; have HB2 := Lib.hid (below_call HB1.out hb2); clear hb2 C2)
    | (go_at_call 15; refine (C3.out _).mono ?_; rintro _ w3 ⟨rfl, hb3⟩; have HB3 := Lib.hid (below_call HB2.out hb3); clear hb3 C3)
    | (go_at_call 17; refine (C4.out _).mono ?_; rintro _ w4 ⟨rfl, hb4⟩; have HB4 := Lib.hid (below_call HB3.out hb4); clear hb4 C4)
    | (go_at_call 15; refine (C5.out _).mono ?_; rintro _ w5 ⟨rfl, hb5⟩; have HB5 := Lib.hid (below_call HB4.out hb5); clear hb5 C5)
    | (go_at_call 17; refine (C6.out _).mono ?_; rintro _ w6 ⟨rfl, hb6⟩; have HB6 := Lib.hid (below_call HB5.out hb6); clear hb6 C6)
    | (go_at_call 7; refine (H7.out _ (HG.out.below' HB6.out)).mono ?_; rintro _ w7 ⟨rfl, hb7⟩; have HB7 := Lib.hid (below_call HB6.out hb7); clear hb7 H7))
  go_ret
  exact ⟨rfl, HB7.out⟩
end Go.Proofs.YtfpncdhneikkaaaDoor
