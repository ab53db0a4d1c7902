/- The walk of CharsNest. -/
import Derived.Test.YtehehmpepkgbeaaDoorCI
import Derived.Test.YtehehmpepkgbeaaDoorCK
namespace Go.Proofs.YtehehmpepkgbeaaDoor.Chr
open Go.RowKit
set_option linter.unusedVariables false
set_option linter.unusedSimpArgs false
set_option maxRecDepth 100000 in
set_option maxHeartbeats 8000000 in
theorem nest_walk (r : Int) (w : World) (hG : G9 w) : Calls Tryd.prog 6 #[.int .i64 r] w fun e w' => RetB true w e w' := by
  have HK : Hid (∀ w, G9 w → Calls Tryd.prog 17 #[] w fun e w' => RetB true w e w') := Lib.hid fun w g => wakes_any w g
  have HG := Lib.hid hG
  have HB : Hid (Below w.heap.size w w) := Lib.hid (Below.refl _ _)
  clear hG
  have PC : Hid (∀ w, Calls Tryd.prog 9 #[.int .i64 r] w fun e w' => RetB (chr r) w e w') := Lib.hid fun w => pchar_any r w
  have PS : Hid (∀ w, Calls Tryd.prog 11 #[.int .i64 r] w fun e w' => RetB (spc r) w e w') := Lib.hid fun w => pspace_any r w
  have PF : Hid (∀ w, Calls Tryd.prog 13 #[.int .i64 r] w fun e w' => RetB (fstC r) w e w') := Lib.hid fun w => pfirst_any r w
  have PU : Hid (∀ w, Calls Tryd.prog 15 #[.int .i64 r] w fun e w' => RetB (furC r) w e w') := Lib.hid fun w => pfurther_any r w
  have PP : Hid (∀ w, Calls Tryd.prog 30 #[.int .i64 r] w fun e w' => PutS w r e w') := Lib.hid fun w => rput_any r w
  unfold PutS at PP
  obtain ⟨E, hE⟩ : ∃ E, str (enc r) = E := ⟨_, rfl⟩
  rw [hE] at PP
  clear hE
  have h1 : fstC r = true → furC r = true := fst_fur
  have h2 : furC r = true → chr r = true := fur_chr
  have h3 : spc r = true → chr r = true ∧ furC r = false := spc_chr
  have h4 : chr r = true → isB r = true := chr_isB
  obtain ⟨xF, hF⟩ : ∃ x, fstC r = x := ⟨_, rfl⟩
  obtain ⟨xU, hU⟩ : ∃ x, furC r = x := ⟨_, rfl⟩
  obtain ⟨xS, hS⟩ : ∃ x, spc r = x := ⟨_, rfl⟩
  obtain ⟨xC, hC⟩ : ∃ x, chr r = x := ⟨_, rfl⟩
  obtain ⟨xB, hB⟩ : ∃ x, isB r = x := ⟨_, rfl⟩
  rw [hF] at PF h1
  rw [hU] at PU h1 h2 h3
  rw [hS] at PS h3
  rw [hC] at PC h2 h3 h4
  rw [hB] at PP h4
  clear hF hU hS hC hB
  have hcase : (xF = true ∧ xU = true ∧ xC = true ∧ xS = false ∧ xB = true) ∨ (xF = false ∧ xU = true ∧ xC = true ∧ xS = false ∧ xB = true) ∨ (xF = false ∧ xU = false ∧ xC = true ∧ xS = true ∧ xB = true) ∨ (xF = false ∧ xU = false ∧ xS = false ∧ xB = true) ∨ (xF = false ∧ xU = false ∧ xS = false ∧ xB = false ∧ xC = false) := by
    revert h1 h2 h3 h4
    cases xF <;> cases xU <;> cases xC <;> cases xS <;> cases xB <;> simp
  clear h1 h2 h3 h4
  unfold RetB
  rcases hcase with ⟨rfl, rfl, rfl, rfl, rfl⟩ | ⟨rfl, rfl, rfl, rfl, rfl⟩ | ⟨rfl, rfl, rfl, rfl, rfl⟩ | ⟨rfl, rfl, rfl, rfl⟩ | ⟨rfl, rfl, rfl, rfl, rfl⟩
  · go_enter Tryd.func6, Tryd.ntmps6
    go_wp2_with (first
      | (go_at_call 13; refine (PF.out _).mono ?_; rintro _ w1 ⟨rfl, hb1⟩; replace HG := Lib.hid (HG.out.next hb1); replace HB := Lib.hid (below_call HB.out hb1); clear hb1 )
      | (go_at_call 15; refine (PU.out _).mono ?_; rintro _ w1 ⟨rfl, hb1⟩; replace HG := Lib.hid (HG.out.next hb1); replace HB := Lib.hid (below_call HB.out hb1); clear hb1 )
      | (go_at_call 9; refine (PC.out _).mono ?_; rintro _ w1 ⟨rfl, hb1⟩; replace HG := Lib.hid (HG.out.next hb1); replace HB := Lib.hid (below_call HB.out hb1); clear hb1 )
      | (go_at_call 11; refine (PS.out _).mono ?_; rintro _ w1 ⟨rfl, hb1⟩; replace HG := Lib.hid (HG.out.next hb1); replace HB := Lib.hid (below_call HB.out hb1); clear hb1 )
      | (go_at_call 30; refine (PP.out _).mono ?_; rintro _ w1 ⟨rfl, hb1⟩; replace HG := Lib.hid (HG.out.next hb1); replace HB := Lib.hid (below_call HB.out hb1); clear hb1)
      | (go_at_call 17; refine (HK.out _ HG.out).mono ?_; rintro _ wk ⟨rfl, hbk⟩; have HBK := Lib.hid (below_call HB.out hbk); clear hbk))
    go_ret
    exact ⟨rfl, HBK.out⟩
  · go_enter Tryd.func6, Tryd.ntmps6
    go_wp2_with (first
      | (go_at_call 13; refine (PF.out _).mono ?_; rintro _ w1 ⟨rfl, hb1⟩; replace HG := Lib.hid (HG.out.next hb1); replace HB := Lib.hid (below_call HB.out hb1); clear hb1 )
      | (go_at_call 15; refine (PU.out _).mono ?_; rintro _ w1 ⟨rfl, hb1⟩; replace HG := Lib.hid (HG.out.next hb1); replace HB := Lib.hid (below_call HB.out hb1); clear hb1 )
      | (go_at_call 9; refine (PC.out _).mono ?_; rintro _ w1 ⟨rfl, hb1⟩; replace HG := Lib.hid (HG.out.next hb1); replace HB := Lib.hid (below_call HB.out hb1); clear hb1 )
      | (go_at_call 11; refine (PS.out _).mono ?_; rintro _ w1 ⟨rfl, hb1⟩; replace HG := Lib.hid (HG.out.next hb1); replace HB := Lib.hid (below_call HB.out hb1); clear hb1 )
      | (go_at_call 30; refine (PP.out _).mono ?_; rintro _ w1 ⟨rfl, hb1⟩; replace HG := Lib.hid (HG.out.next hb1); replace HB := Lib.hid (below_call HB.out hb1); clear hb1)
      | (go_at_call 17; refine (HK.out _ HG.out).mono ?_; rintro _ wk ⟨rfl, hbk⟩; have HBK := Lib.hid (below_call HB.out hbk); clear hbk))
    go_ret
    exact ⟨rfl, HBK.out⟩
  · go_enter Tryd.func6, Tryd.ntmps6
    go_wp2_with (first
      | (go_at_call 13; refine (PF.out _).mono ?_; rintro _ w1 ⟨rfl, hb1⟩; replace HG := Lib.hid (HG.out.next hb1); replace HB := Lib.hid (below_call HB.out hb1); clear hb1 )
      | (go_at_call 15; refine (PU.out _).mono ?_; rintro _ w1 ⟨rfl, hb1⟩; replace HG := Lib.hid (HG.out.next hb1); replace HB := Lib.hid (below_call HB.out hb1); clear hb1 )
      | (go_at_call 9; refine (PC.out _).mono ?_; rintro _ w1 ⟨rfl, hb1⟩; replace HG := Lib.hid (HG.out.next hb1); replace HB := Lib.hid (below_call HB.out hb1); clear hb1 )
      | (go_at_call 11; refine (PS.out _).mono ?_; rintro _ w1 ⟨rfl, hb1⟩; replace HG := Lib.hid (HG.out.next hb1); replace HB := Lib.hid (below_call HB.out hb1); clear hb1 )
      | (go_at_call 30; refine (PP.out _).mono ?_; rintro _ w1 ⟨rfl, hb1⟩; replace HG := Lib.hid (HG.out.next hb1); replace HB := Lib.hid (below_call HB.out hb1); clear hb1)
      | (go_at_call 17; refine (HK.out _ HG.out).mono ?_; rintro _ wk ⟨rfl, hbk⟩; have HBK := Lib.hid (below_call HB.out hbk); clear hbk))
    go_ret
    exact ⟨rfl, HBK.out⟩
  · go_enter Tryd.func6, Tryd.ntmps6
    go_wp2_with (first
      | (go_at_call 13; refine (PF.out _).mono ?_; rintro _ w1 ⟨rfl, hb1⟩; replace HG := Lib.hid (HG.out.next hb1); replace HB := Lib.hid (below_call HB.out hb1); clear hb1 )
      | (go_at_call 15; refine (PU.out _).mono ?_; rintro _ w1 ⟨rfl, hb1⟩; replace HG := Lib.hid (HG.out.next hb1); replace HB := Lib.hid (below_call HB.out hb1); clear hb1 )
      | (go_at_call 9; refine (PC.out _).mono ?_; rintro _ w1 ⟨rfl, hb1⟩; replace HG := Lib.hid (HG.out.next hb1); replace HB := Lib.hid (below_call HB.out hb1); clear hb1 )
      | (go_at_call 11; refine (PS.out _).mono ?_; rintro _ w1 ⟨rfl, hb1⟩; replace HG := Lib.hid (HG.out.next hb1); replace HB := Lib.hid (below_call HB.out hb1); clear hb1 )
      | (go_at_call 30; refine (PP.out _).mono ?_; rintro _ w1 ⟨rfl, hb1⟩; replace HG := Lib.hid (HG.out.next hb1); replace HB := Lib.hid (below_call HB.out hb1); clear hb1)
      | (go_at_call 17; refine (HK.out _ HG.out).mono ?_; rintro _ wk ⟨rfl, hbk⟩; have HBK := Lib.hid (below_call HB.out hbk); clear hbk))
    go_ret
    exact ⟨rfl, HBK.out⟩
  · go_enter Tryd.func6, Tryd.ntmps6
    go_wp2_with (first
      | (go_at_call 13; refine (PF.out _).mono ?_; rintro _ w1 ⟨rfl, hb1⟩; replace HG := Lib.hid (HG.out.next hb1); replace HB := Lib.hid (below_call HB.out hb1); clear hb1 )
      | (go_at_call 15; refine (PU.out _).mono ?_; rintro _ w1 ⟨rfl, hb1⟩; replace HG := Lib.hid (HG.out.next hb1); replace HB := Lib.hid (below_call HB.out hb1); clear hb1 )
      | (go_at_call 9; refine (PC.out _).mono ?_; rintro _ w1 ⟨rfl, hb1⟩; replace HG := Lib.hid (HG.out.next hb1); replace HB := Lib.hid (below_call HB.out hb1); clear hb1 )
      | (go_at_call 11; refine (PS.out _).mono ?_; rintro _ w1 ⟨rfl, hb1⟩; replace HG := Lib.hid (HG.out.next hb1); replace HB := Lib.hid (below_call HB.out hb1); clear hb1 )
      | (go_at_call 30; refine (PP.out _).mono ?_; rintro _ w1 ⟨rfl, hb1⟩; replace HG := Lib.hid (HG.out.next hb1); replace HB := Lib.hid (below_call HB.out hb1); clear hb1)
      | (go_at_call 17; refine (HK.out _ HG.out).mono ?_; rintro _ wk ⟨rfl, hbk⟩; have HBK := Lib.hid (below_call HB.out hbk); clear hbk))
    go_ret
    exact ⟨rfl, HBK.out⟩
end Go.Proofs.YtehehmpepkgbeaaDoor.Chr
