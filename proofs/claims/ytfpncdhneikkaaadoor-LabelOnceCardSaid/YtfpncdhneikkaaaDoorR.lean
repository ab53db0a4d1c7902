/- The walk of the law LabelTells. -/
import Derived.Test.YtfpncdhneikkaaaDoorO
import Derived.Test.YtfpncdhneikkaaaDoorN
import Derived.Lib.Bytealg
import Derived.Laws.Externs
import Derived.Laws.DeepStrings4
import Derived.Laws.BytesArg
import Derived.Laws.IdiomStrings
namespace Go.Proofs.YtfpncdhneikkaaaDoor
open Go.RowKit
set_option linter.unusedVariables false
set_option linter.unusedSimpArgs false
set_option maxRecDepth 100000 in
set_option maxHeartbeats 4000000 in
theorem tells_walk (s : ByteArray) (e : Int) (w : World) (hg : Gl w) (hs : s.size ≤ maxLen) : Calls Tryd.prog 3 #[.string s, .int .i8 e] w fun r w' => RetB true w r w' := by
  have HG := Lib.hid hg
  have H7 : Hid (∀ w, Gl w → Calls Tryd.prog 7 #[] w fun t w' => RetB true w t w') := Lib.hid wakes_any
  clear hg
  by_cases hlt : s.size ≤ 300
  rotate_left 1
  · have hd : decide ((300 : Int) < (s.size : Int)) = true := by simp; omega
    clear hlt
    go_enter Tryd.func3, Tryd.ntmps3
    go_wp2_with (go_at_call 7; refine (H7.out _ HG.out).mono ?_; rintro _ w7 ⟨rfl, hb7⟩; have HB7 := Lib.hid hb7; clear hb7 H7)
    go_ret
    exact ⟨rfl, HB7.out⟩
  have hd : decide ((300 : Int) < (s.size : Int)) = false := by simp; omega
  have C1 : Hid (∀ w, Gl w → Calls Tryd.prog 8 #[.string s] w fun r w' => OfS w (ofL s.data.toList) r w') := Lib.hid fun w hg => of_any s w hg hs
  have C2 : Hid (∀ w, Calls Tryd.prog 9 #[.string s] w fun r w' => OfS w (ofL s.data.toList) r w') := Lib.hid fun w => rof_any s w (by omega)
  have C3 : Hid (∀ w, Gl w → Calls Tryd.prog 10 #[.int .i8 e] w fun r w' => RetS (nameL e) w r w') := Lib.hid fun w hg => name_any e w hg
  have C4 : Hid (∀ w, Calls Tryd.prog 11 #[.int .i8 e] w fun r w' => RetS (nameL e) w r w') := Lib.hid fun w => rname_any e w
  have C5 : Hid (∀ w, Gl w → Calls Tryd.prog 13 #[.int .i8 e] w fun r w' => AllS w e r w') := Lib.hid fun w hg => all_any e w hg
  have C6 : Hid (∀ w, Calls Tryd.prog 14 #[.int .i8 e] w fun r w' => AllS w e r w') := Lib.hid fun w => rall_any e w
  have C7 : Hid (∀ v u w, Strs w v (allL e) → Strs w u (allL e) → Calls Tryd.prog 12 #[v, u] w fun r w' => RetB true w r w') := Lib.hid fun v u w h1 h2 => by
    have := texts_any v u _ _ w h1 h2 (by have := allL_len e; omega) (by have := allL_len e; omega)
    simpa using this
  have C8 : Hid (∀ w, Calls Tryd.prog 15 #[.string s] w fun r w' => RetS (trm s.data.toList) w r w') := Lib.hid fun w => trim_any s w hs
  have C9 : Hid (∀ w, Calls Tryd.prog 16 #[.string s] w fun r w' => RetS (trm s.data.toList) w r w') := Lib.hid fun w => rtrim_any s w hs
  have C10 : Hid (∀ w, Calls Tryd.prog 17 #[.string s] w fun r w' => RetS (lwr s.data.toList) w r w') := Lib.hid fun w => lower_any s w hs
  have C11 : Hid (∀ w, Calls Tryd.prog 18 #[.string s] w fun r w' => RetS (lwr s.data.toList) w r w') := Lib.hid fun w => rlower_any s w (by omega)
  unfold OfS at C1 C2
  unfold RetS at C3 C4 C8 C9 C10 C11
  obtain ⟨oe, h1⟩ : ∃ x, (ofL s.data.toList).1 = x := ⟨_, rfl⟩
  obtain ⟨ob, h2⟩ : ∃ x, (ofL s.data.toList).2 = x := ⟨_, rfl⟩
  obtain ⟨nm, h3⟩ : ∃ x, str (nameL e) = x := ⟨_, rfl⟩
  obtain ⟨tr, h4⟩ : ∃ x, str (trm s.data.toList) = x := ⟨_, rfl⟩
  obtain ⟨lw, h5⟩ : ∃ x, str (lwr s.data.toList) = x := ⟨_, rfl⟩
  rw [h1, h2] at C1 C2
  rw [h3] at C3 C4
  rw [h4] at C8 C9
  rw [h5] at C10 C11
  clear h1 h2 h3 h4 h5 hlt
  go_enter Tryd.func3, Tryd.ntmps3
  go_wp2_with (first
    | (go_at_call 8; refine (C1.out _ HG.out).mono ?_; rintro _ w1 ⟨rfl, hb1⟩; have HB1 := Lib.hid hb1; clear hb1 C1)
    | (go_at_call 9; refine (C2.out _).mono ?_; rintro _ w2 ⟨rfl, hb2⟩; have HB2 := Lib.hid (below_call HB1.out hb2); clear hb2 C2)
    | (go_at_call 10; refine (C3.out _ (HG.out.below' HB2.out)).mono ?_; rintro _ w3 ⟨rfl, hb3⟩; have HB3 := Lib.hid (below_call HB2.out hb3); clear hb3 C3)
    | (go_at_call 11; refine (C4.out _).mono ?_; rintro _ w4 ⟨rfl, hb4⟩; have HB4 := Lib.hid (below_call HB3.out hb4); clear hb4 C4)
    | (go_at_call 13; refine (C5.out _ (HG.out.below' HB4.out)).mono ?_; rintro _ w5 ⟨v5, rfl, hs5, hb5⟩; have HS5 := Lib.hid hs5; have HB5 := Lib.hid (below_call HB4.out hb5); clear hs5 hb5 C5)
    | (go_at_call 14; refine (C6.out _).mono ?_; rintro _ w6 ⟨v6, rfl, hs6, hb6⟩; have HS6 := Lib.hid hs6; have HT5 := Lib.hid (HS5.out.below hb6); have HB6 := Lib.hid (below_call HB5.out hb6); clear hs6 hb6 C6)
    | (go_at_call 12; refine (C7.out _ _ _ HT5.out HS6.out).mono ?_; rintro _ w8 ⟨rfl, hb8⟩; have HB8 := Lib.hid (below_call HB6.out hb8); clear hb8 C7)
    | (go_at_call 15; refine (C8.out _).mono ?_; rintro _ w9 ⟨rfl, hb9⟩; have HB9 := Lib.hid (below_call HB8.out hb9); clear hb9 C8)
    | (go_at_call 16; refine (C9.out _).mono ?_; rintro _ w10 ⟨rfl, hb10⟩; have HB10 := Lib.hid (below_call HB9.out hb10); clear hb10 C9)
    | (go_at_call 17; refine (C10.out _).mono ?_; rintro _ w11 ⟨rfl, hb11⟩; have HB11 := Lib.hid (below_call HB10.out hb11); clear hb11 C10)
    | (go_at_call 18; refine (C11.out _).mono ?_; rintro _ w12 ⟨rfl, hb12⟩; have HB12 := Lib.hid (below_call HB11.out hb12); clear hb12 C11)
    | (go_at_call 7; refine (H7.out _ (HG.out.below' HB12.out)).mono ?_; rintro _ w7 ⟨rfl, hb7⟩; have HB7 := Lib.hid (below_call HB12.out hb7); clear hb7 H7))
  go_ret
  exact ⟨rfl, HB7.out⟩
end Go.Proofs.YtfpncdhneikkaaaDoor
