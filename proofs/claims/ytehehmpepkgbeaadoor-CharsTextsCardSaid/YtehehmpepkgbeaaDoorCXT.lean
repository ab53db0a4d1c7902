/- The walks of CharsTell and CharsTexts. -/
import Derived.Test.YtehehmpepkgbeaaDoorCI
import Derived.Test.YtehehmpepkgbeaaDoorCK
namespace Go.Proofs.YtehehmpepkgbeaaDoor.Chr
open Go.RowKit
set_option linter.unusedVariables false
set_option linter.unusedSimpArgs false
set_option maxHeartbeats 4000000 in
theorem tell_walk (r : Int) (w : World) (hG : G9 w) : Calls Tryd.prog 3 #[.int .i64 r] w fun e w' => RetB true w e w' := by
  have HK : Hid (∀ w, G9 w → Calls Tryd.prog 17 #[] w fun e w' => RetB true w e w') := Lib.hid fun w g => wakes_any w g
  have HG := Lib.hid hG
  have HB : Hid (Below w.heap.size w w) := Lib.hid (Below.refl _ _)
  clear hG
  have PC : Hid (∀ w, Calls Tryd.prog 9 #[.int .i64 r] w fun e w' => RetB (chr r) w e w') := Lib.hid fun w => pchar_any r w
  have RC : Hid (∀ w, Calls Tryd.prog 10 #[.int .i64 r] w fun e w' => e = .returned (.bool (chr r)) ∧ w' = w) := Lib.hid fun w => rchar_any r w
  obtain ⟨xC, hC⟩ : ∃ x, chr r = x := ⟨_, rfl⟩
  rw [hC] at PC RC
  clear hC
  have PS : Hid (∀ w, Calls Tryd.prog 11 #[.int .i64 r] w fun e w' => RetB (spc r) w e w') := Lib.hid fun w => pspace_any r w
  have RS : Hid (∀ w, Calls Tryd.prog 12 #[.int .i64 r] w fun e w' => e = .returned (.bool (spc r)) ∧ w' = w) := Lib.hid fun w => rspace_any r w
  obtain ⟨xS, hS⟩ : ∃ x, spc r = x := ⟨_, rfl⟩
  rw [hS] at PS RS
  clear hS
  have PF : Hid (∀ w, Calls Tryd.prog 13 #[.int .i64 r] w fun e w' => RetB (fstC r) w e w') := Lib.hid fun w => pfirst_any r w
  have RF : Hid (∀ w, Calls Tryd.prog 14 #[.int .i64 r] w fun e w' => e = .returned (.bool (fstC r)) ∧ w' = w) := Lib.hid fun w => rfirst_any r w
  obtain ⟨xF, hF⟩ : ∃ x, fstC r = x := ⟨_, rfl⟩
  rw [hF] at PF RF
  clear hF
  have PU : Hid (∀ w, Calls Tryd.prog 15 #[.int .i64 r] w fun e w' => RetB (furC r) w e w') := Lib.hid fun w => pfurther_any r w
  have RU : Hid (∀ w, Calls Tryd.prog 16 #[.int .i64 r] w fun e w' => e = .returned (.bool (furC r)) ∧ w' = w) := Lib.hid fun w => rfurther_any r w
  obtain ⟨xU, hU⟩ : ∃ x, furC r = x := ⟨_, rfl⟩
  rw [hU] at PU RU
  clear hU
  unfold RetB
  go_enter Tryd.func3, Tryd.ntmps3
  go_wp2_with (first
    | (go_at_call 9; refine (PC.out _).mono ?_; rintro _ w1 ⟨rfl, hb1⟩; replace HG := Lib.hid (HG.out.next hb1); replace HB := Lib.hid (below_call HB.out hb1); clear hb1 PC)
    | (go_at_call 10; refine (RC.out _).mono ?_; rintro _ w2 ⟨rfl, hw2⟩; subst w2; clear RC)
    | (go_at_call 11; refine (PS.out _).mono ?_; rintro _ w1 ⟨rfl, hb1⟩; replace HG := Lib.hid (HG.out.next hb1); replace HB := Lib.hid (below_call HB.out hb1); clear hb1 PS)
    | (go_at_call 12; refine (RS.out _).mono ?_; rintro _ w2 ⟨rfl, hw2⟩; subst w2; clear RS)
    | (go_at_call 13; refine (PF.out _).mono ?_; rintro _ w1 ⟨rfl, hb1⟩; replace HG := Lib.hid (HG.out.next hb1); replace HB := Lib.hid (below_call HB.out hb1); clear hb1 PF)
    | (go_at_call 14; refine (RF.out _).mono ?_; rintro _ w2 ⟨rfl, hw2⟩; subst w2; clear RF)
    | (go_at_call 15; refine (PU.out _).mono ?_; rintro _ w1 ⟨rfl, hb1⟩; replace HG := Lib.hid (HG.out.next hb1); replace HB := Lib.hid (below_call HB.out hb1); clear hb1 PU)
    | (go_at_call 16; refine (RU.out _).mono ?_; rintro _ w2 ⟨rfl, hw2⟩; subst w2; clear RU)
    | (go_at_call 17; refine (HK.out _ HG.out).mono ?_; rintro _ wk ⟨rfl, hbk⟩; have HBK := Lib.hid (below_call HB.out hbk); clear hbk))
  go_ret
  exact ⟨rfl, HBK.out⟩
set_option maxRecDepth 100000 in
set_option maxHeartbeats 8000000 in
theorem texts_walk (l : List UInt8) (w : World) (hG : G9 w) : Calls Tryd.prog 4 #[.string (str l)] w fun e w' => RetB true w e w' := by
  have HK : Hid (∀ w, G9 w → Calls Tryd.prog 17 #[] w fun e w' => RetB true w e w') := Lib.hid fun w g => wakes_any w g
  have HG := Lib.hid hG
  have HB : Hid (Below w.heap.size w w) := Lib.hid (Below.refl _ _)
  clear hG
  by_cases hs : l.length ≤ 2000
  · have hz := str_size l
    have hgt : ¬ ((str l).size : Int) > 2000 := by omega
    have PS : Hid (∀ w, G9 w → Calls Tryd.prog 18 #[.string (str l)] w fun e w' => SplR (spl l) w e w') := Lib.hid fun w g => psplit_any l w g (by omega)
    have RS : Hid (∀ w, Calls Tryd.prog 19 #[.string (str l)] w fun e w' => SplR (spl l) w e w') := Lib.hid fun w => rsplit_any l w (by omega)
    have PP : Hid (∀ w, G9 w → Calls Tryd.prog 20 #[.string (str l)] w fun e w' => RetB (plain l) w e w') := Lib.hid fun w g => pplain_any l w g.1 (by omega)
    have RP : Hid (∀ w, Calls Tryd.prog 21 #[.string (str l)] w fun e w' => RetB (plain l) w e w') := Lib.hid fun w => rplain_any l w (by omega)
    have PB : Hid (∀ w, G9 w → Calls Tryd.prog 22 #[.string (str l)] w fun e w' => RetI (bad l) w e w') := Lib.hid fun w g => pbad_any l w g.1 (by omega)
    have RB : Hid (∀ w, Calls Tryd.prog 23 #[.string (str l)] w fun e w' => RetI (bad l) w e w') := Lib.hid fun w => rbad_any l w (by omega)
    have PK : Hid (∀ w, G9 w → Calls Tryd.prog 24 #[.string (str l)] w fun e w' => RetB (blk l) w e w') := Lib.hid fun w g => pblank_any l w g.1 (by omega)
    have RK : Hid (∀ w, Calls Tryd.prog 25 #[.string (str l)] w fun e w' => RetB (blk l) w e w') := Lib.hid fun w => rblank_any l w (by omega)
    have PT : Hid (∀ w, G9 w → Calls Tryd.prog 26 #[.string (str l)] w fun e w' => RetI (tk l : Nat) w e w') := Lib.hid fun w g => ptake_any l w g.1 (by omega)
    have RT : Hid (∀ w, Calls Tryd.prog 27 #[.string (str l)] w fun e w' => RetI (tk l : Nat) w e w') := Lib.hid fun w => rtake_any l w (by omega)
    have PL : Hid (∀ w, G9 w → Calls Tryd.prog 28 #[.string (str l)] w fun e w' => RetT (lns l) w e w') := Lib.hid fun w g => plines_any l w g.2 (by omega)
    have RL : Hid (∀ w, Calls Tryd.prog 29 #[.string (str l)] w fun e w' => RetT (lns l) w e w') := Lib.hid fun w => rlines_any l w (by omega)
    unfold SplR at PS RS
    unfold RetT at PL RL
    obtain ⟨X1, h1⟩ : ∃ x, str (spl l).1 = x := ⟨_, rfl⟩
    obtain ⟨X2, h2⟩ : ∃ x, str (spl l).2.1 = x := ⟨_, rfl⟩
    obtain ⟨x3, h3⟩ : ∃ x, (spl l).2.2 = x := ⟨_, rfl⟩
    rw [h1, h2, h3] at PS RS
    obtain ⟨x4, h4⟩ : ∃ x, plain l = x := ⟨_, rfl⟩
    rw [h4] at PP RP
    obtain ⟨x5, h5⟩ : ∃ x, bad l = x := ⟨_, rfl⟩
    rw [h5] at PB RB
    obtain ⟨x6, h6⟩ : ∃ x, blk l = x := ⟨_, rfl⟩
    rw [h6] at PK RK
    obtain ⟨x7, h7⟩ : ∃ x : Int, ((tk l : Nat) : Int) = x := ⟨_, rfl⟩
    rw [h7] at PT RT
    obtain ⟨X8, h8⟩ : ∃ x, str (lns l) = x := ⟨_, rfl⟩
    rw [h8] at PL RL
    obtain ⟨S, hS⟩ : ∃ S, str l = S := ⟨_, rfl⟩
    rw [hS] at PS RS PP RP PB RB PK RK PT RT PL RL hgt ⊢
    clear h1 h2 h3 h4 h5 h6 h7 h8 hS hz hs
    unfold RetB
    go_enter Tryd.func4, Tryd.ntmps4
    go_wp2_with (first
      | (go_at_call 18; refine (PS.out _ HG.out).mono ?_; rintro _ w1 ⟨rfl, hb1⟩; replace HG := Lib.hid (HG.out.next hb1); replace HB := Lib.hid (below_call HB.out hb1); clear hb1 PS)
      | (go_at_call 19; refine (RS.out _).mono ?_; rintro _ w1 ⟨rfl, hb1⟩; replace HG := Lib.hid (HG.out.next hb1); replace HB := Lib.hid (below_call HB.out hb1); clear hb1 RS)
      | (go_at_call 20; refine (PP.out _ HG.out).mono ?_; rintro _ w1 ⟨rfl, hb1⟩; replace HG := Lib.hid (HG.out.next hb1); replace HB := Lib.hid (below_call HB.out hb1); clear hb1 PP)
      | (go_at_call 21; refine (RP.out _).mono ?_; rintro _ w1 ⟨rfl, hb1⟩; replace HG := Lib.hid (HG.out.next hb1); replace HB := Lib.hid (below_call HB.out hb1); clear hb1 RP)
      | (go_at_call 22; refine (PB.out _ HG.out).mono ?_; rintro _ w1 ⟨rfl, hb1⟩; replace HG := Lib.hid (HG.out.next hb1); replace HB := Lib.hid (below_call HB.out hb1); clear hb1 PB)
      | (go_at_call 23; refine (RB.out _).mono ?_; rintro _ w1 ⟨rfl, hb1⟩; replace HG := Lib.hid (HG.out.next hb1); replace HB := Lib.hid (below_call HB.out hb1); clear hb1 RB)
      | (go_at_call 24; refine (PK.out _ HG.out).mono ?_; rintro _ w1 ⟨rfl, hb1⟩; replace HG := Lib.hid (HG.out.next hb1); replace HB := Lib.hid (below_call HB.out hb1); clear hb1 PK)
      | (go_at_call 25; refine (RK.out _).mono ?_; rintro _ w1 ⟨rfl, hb1⟩; replace HG := Lib.hid (HG.out.next hb1); replace HB := Lib.hid (below_call HB.out hb1); clear hb1 RK)
      | (go_at_call 26; refine (PT.out _ HG.out).mono ?_; rintro _ w1 ⟨rfl, hb1⟩; replace HG := Lib.hid (HG.out.next hb1); replace HB := Lib.hid (below_call HB.out hb1); clear hb1 PT)
      | (go_at_call 27; refine (RT.out _).mono ?_; rintro _ w1 ⟨rfl, hb1⟩; replace HG := Lib.hid (HG.out.next hb1); replace HB := Lib.hid (below_call HB.out hb1); clear hb1 RT)
      | (go_at_call 28; refine (PL.out _ HG.out).mono ?_; rintro _ w1 ⟨rfl, hb1⟩; replace HG := Lib.hid (HG.out.next hb1); replace HB := Lib.hid (below_call HB.out hb1); clear hb1 PL)
      | (go_at_call 29; refine (RL.out _).mono ?_; rintro _ w1 ⟨rfl, hb1⟩; replace HG := Lib.hid (HG.out.next hb1); replace HB := Lib.hid (below_call HB.out hb1); clear hb1 RL)
      | (go_at_call 17; refine (HK.out _ HG.out).mono ?_; rintro _ wk ⟨rfl, hbk⟩; have HBK := Lib.hid (below_call HB.out hbk); clear hbk))
    go_ret
    exact ⟨rfl, HBK.out⟩
  · have hz := str_size l
    have hgt : ((str l).size : Int) > 2000 := by omega
    obtain ⟨S, hS⟩ : ∃ S, str l = S := ⟨_, rfl⟩
    rw [hS] at hgt ⊢
    clear hS hz hs
    unfold RetB
    go_enter Tryd.func4, Tryd.ntmps4
    go_wp2_with (first
      | (go_at_call 17; refine (HK.out _ HG.out).mono ?_; rintro _ wk ⟨rfl, hbk⟩; have HBK := Lib.hid (below_call HB.out hbk); clear hbk))
    go_ret
    exact ⟨rfl, HBK.out⟩
end Go.Proofs.YtehehmpepkgbeaaDoor.Chr
