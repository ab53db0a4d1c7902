/- The walk of CharsNames. -/
import Derived.Test.YtehehmpepkgbeaaDoorCI
import Derived.Test.YtehehmpepkgbeaaDoorCK
namespace Go.Proofs.YtehehmpepkgbeaaDoor.Chr
open Go.RowKit
set_option linter.unusedVariables false
set_option linter.unusedSimpArgs false
theorem cat_ab (a b : List UInt8) : (str a ++ (⟨#[58]⟩ : ByteArray)) ++ str b = str (a ++ 58 :: b) := by
  have h : ∀ (x y : List UInt8), str (x ++ y) = str x ++ str y := fun x y => by
    apply ByteArray.ext
    rw [ByteArray.data_append]
    simp [str]
  have e : (⟨#[58]⟩ : ByteArray) = str [58] := rfl
  rw [e, ← h, ← h]
  simp
set_option maxRecDepth 100000 in
set_option maxHeartbeats 16000000 in
theorem names_walk (a b : List UInt8) (w : World) (hG : G9 w) : Calls Tryd.prog 7 #[.string (str a), .string (str b)] w fun e w' => RetB true w e w' := by
  have HK : Hid (∀ w, G9 w → Calls Tryd.prog 17 #[] w fun e w' => RetB true w e w') := Lib.hid fun w g => wakes_any w g
  have HG := Lib.hid hG
  have HB : Hid (Below w.heap.size w w) := Lib.hid (Below.refl _ _)
  clear hG
  have hza := str_size a
  have hzb := str_size b
  unfold RetB
  by_cases hs : a.length ≤ 300
  · by_cases ht : b.length ≤ 300
    · have hga : ¬ ((str a).size : Int) > 300 := by omega
      have hgb : ¬ ((str b).size : Int) > 300 := by omega
      have hla : (str a).size ≤ 300 := by omega
      have hlb : (str b).size ≤ 300 := by omega
      have HSP : Hid (∀ w, G9 w → Calls Tryd.prog 18 #[.string ((str a ++ (⟨#[58]⟩ : ByteArray)) ++ str b)] w fun e w' => SplR (spl (a ++ 58 :: b)) w e w') := Lib.hid fun w g => by
        rw [cat_ab]; exact psplit_any _ w g (by rw [List.length_append, List.length_cons]; omega)
      have HSA : Hid (∀ w, G9 w → Calls Tryd.prog 18 #[.string (str a)] w fun e w' => SplR (spl a) w e w') := Lib.hid fun w g => psplit_any a w g (by omega)
      have HPA : Hid (∀ w, G9 w → Calls Tryd.prog 20 #[.string (str a)] w fun e w' => RetB (plain a) w e w') := Lib.hid fun w g => pplain_any a w g.1 (by omega)
      have HPB : Hid (∀ w, G9 w → Calls Tryd.prog 20 #[.string (str b)] w fun e w' => RetB (plain b) w e w') := Lib.hid fun w g => pplain_any b w g.1 (by omega)
      have HTA : Hid (∀ w, G9 w → Calls Tryd.prog 26 #[.string (str a)] w fun e w' => RetI (tk a : Nat) w e w') := Lib.hid fun w g => ptake_any a w g.1 (by omega)
      have HTB : Hid (∀ w, G9 w → Calls Tryd.prog 26 #[.string ((str a ++ (⟨#[58]⟩ : ByteArray)) ++ str b)] w fun e w' => RetI (tk (a ++ 58 :: b) : Nat) w e w') := Lib.hid fun w g => by
        rw [cat_ab]; exact ptake_any _ w g.1 (by rw [List.length_append, List.length_cons]; omega)
      unfold SplR at HSP HSA
      cases hp : plain a with
      | false =>
        have h1 : (spl (a ++ 58 :: b)).2.2 = false := by rw [spl_only, hp]; rfl
        rw [hp] at HPA
        rw [spl_false h1] at HSP
        obtain ⟨Y1, hY1⟩ : ∃ Y, str (spl a).1 = Y := ⟨_, rfl⟩
        obtain ⟨Y2, hY2⟩ : ∃ Y, str (spl a).2.1 = Y := ⟨_, rfl⟩
        obtain ⟨y3, hy3⟩ : ∃ y, (spl a).2.2 = y := ⟨_, rfl⟩
        rw [hY1, hY2, hy3] at HSA
        obtain ⟨Z, hZ⟩ : ∃ Z, str ([] : List UInt8) = Z := ⟨_, rfl⟩
        dsimp only at HSP
        rw [hZ] at HSP
        obtain ⟨S, hS⟩ : ∃ S, str a = S := ⟨_, rfl⟩
        obtain ⟨T, hT⟩ : ∃ T, str b = T := ⟨_, rfl⟩
        rw [hS] at HSP HSA HPA hga hla ⊢
        rw [hT] at HSP hgb hlb ⊢
        clear hY1 hY2 hy3 hZ hS hT h1 hp hza hzb hs ht HPB HTA HTB
        go_enter Tryd.func7, Tryd.ntmps7
        go_wp2_with (first
          | (go_at_call 18; refine (HSP.out _ HG.out).mono ?_; rintro _ w1 ⟨rfl, hb1⟩; replace HG := Lib.hid (HG.out.next hb1); replace HB := Lib.hid (below_call HB.out hb1); clear hb1 HSP)
          | (go_at_call 18; refine (HSA.out _ HG.out).mono ?_; rintro _ w1 ⟨rfl, hb1⟩; replace HG := Lib.hid (HG.out.next hb1); replace HB := Lib.hid (below_call HB.out hb1); clear hb1 HSA)
          | (go_at_call 20; refine (HPA.out _ HG.out).mono ?_; rintro _ w1 ⟨rfl, hb1⟩; replace HG := Lib.hid (HG.out.next hb1); replace HB := Lib.hid (below_call HB.out hb1); clear hb1 )
          | (go_at_call 17; refine (HK.out _ HG.out).mono ?_; rintro _ wk ⟨rfl, hbk⟩; have HBK := Lib.hid (below_call HB.out hbk); clear hbk))
        go_ret
        exact ⟨rfl, HBK.out⟩
      | true =>
        rw [hp] at HPA
        rw [spl_plain hp] at HSA
        have h9 := tk_plain hp
        have h10 : ((tk a : Nat) : Int) = ((str a).size : Int) := by rw [h9, hza]
        rw [h10] at HTA
        obtain ⟨Z, hZ⟩ : ∃ Z, str ([] : List UInt8) = Z := ⟨_, rfl⟩
        dsimp only at HSA
        rw [hZ] at HSA
        cases hq : plain b with
        | false =>
          have h1 : (spl (a ++ 58 :: b)).2.2 = false := by rw [spl_only, hp, hq]; rfl
          rw [hq] at HPB
          rw [spl_false h1] at HSP
          dsimp only at HSP
          rw [hZ] at HSP
          obtain ⟨S, hS⟩ : ∃ S, str a = S := ⟨_, rfl⟩
          obtain ⟨T, hT⟩ : ∃ T, str b = T := ⟨_, rfl⟩
          rw [hS] at HSP HSA HPA HTA hga hla ⊢
          rw [hT] at HSP HPB hgb hlb ⊢
          clear hZ hS hT h1 hp hq hza hzb hs ht HTB h9 h10
          have HPA1 := HPA
          go_enter Tryd.func7, Tryd.ntmps7
          go_wp2_with (first
            | (go_at_call 18; refine (HSP.out _ HG.out).mono ?_; rintro _ w1 ⟨rfl, hb1⟩; replace HG := Lib.hid (HG.out.next hb1); replace HB := Lib.hid (below_call HB.out hb1); clear hb1 HSP)
            | (go_at_call 18; refine (HSA.out _ HG.out).mono ?_; rintro _ w1 ⟨rfl, hb1⟩; replace HG := Lib.hid (HG.out.next hb1); replace HB := Lib.hid (below_call HB.out hb1); clear hb1 HSA)
            | (go_at_call 20; refine (HPA1.out _ HG.out).mono ?_; rintro _ w1 ⟨rfl, hb1⟩; replace HG := Lib.hid (HG.out.next hb1); replace HB := Lib.hid (below_call HB.out hb1); clear hb1 HPA1)
            | (go_at_call 20; refine (HPB.out _ HG.out).mono ?_; rintro _ w1 ⟨rfl, hb1⟩; replace HG := Lib.hid (HG.out.next hb1); replace HB := Lib.hid (below_call HB.out hb1); clear hb1 HPB)
            | (go_at_call 20; refine (HPA.out _ HG.out).mono ?_; rintro _ w1 ⟨rfl, hb1⟩; replace HG := Lib.hid (HG.out.next hb1); replace HB := Lib.hid (below_call HB.out hb1); clear hb1 )
            | (go_at_call 26; refine (HTA.out _ HG.out).mono ?_; rintro _ w1 ⟨rfl, hb1⟩; replace HG := Lib.hid (HG.out.next hb1); replace HB := Lib.hid (below_call HB.out hb1); clear hb1 HTA)
            | (go_at_call 17; refine (HK.out _ HG.out).mono ?_; rintro _ wk ⟨rfl, hbk⟩; have HBK := Lib.hid (below_call HB.out hbk); clear hbk))
          go_ret
          exact ⟨rfl, HBK.out⟩
        | true =>
          rw [hq] at HPB
          rw [spl_made hp hq] at HSP
          have h11 := tk_made hp hq
          have h12 : ((tk (a ++ 58 :: b) : Nat) : Int) = ((str a).size : Int) + ((str b).size : Int) + 1 := by rw [h11, hza, hzb]; omega
          rw [h12] at HTB
          dsimp only at HSP
          obtain ⟨S, hS⟩ : ∃ S, str a = S := ⟨_, rfl⟩
          obtain ⟨T, hT⟩ : ∃ T, str b = T := ⟨_, rfl⟩
          rw [hS] at HSP HSA HPA HTA HTB hga hla ⊢
          rw [hT] at HSP HPB HTB hgb hlb ⊢
          clear hZ hS hT hp hq hza hzb hs ht h9 h10 h11 h12
          have HPA1 := HPA
          go_enter Tryd.func7, Tryd.ntmps7
          go_wp2_with (first
            | (go_at_call 18; refine (HSP.out _ HG.out).mono ?_; rintro _ w1 ⟨rfl, hb1⟩; replace HG := Lib.hid (HG.out.next hb1); replace HB := Lib.hid (below_call HB.out hb1); clear hb1 HSP)
            | (go_at_call 18; refine (HSA.out _ HG.out).mono ?_; rintro _ w1 ⟨rfl, hb1⟩; replace HG := Lib.hid (HG.out.next hb1); replace HB := Lib.hid (below_call HB.out hb1); clear hb1 HSA)
            | (go_at_call 20; refine (HPA1.out _ HG.out).mono ?_; rintro _ w1 ⟨rfl, hb1⟩; replace HG := Lib.hid (HG.out.next hb1); replace HB := Lib.hid (below_call HB.out hb1); clear hb1 HPA1)
            | (go_at_call 20; refine (HPB.out _ HG.out).mono ?_; rintro _ w1 ⟨rfl, hb1⟩; replace HG := Lib.hid (HG.out.next hb1); replace HB := Lib.hid (below_call HB.out hb1); clear hb1 HPB)
            | (go_at_call 20; refine (HPA.out _ HG.out).mono ?_; rintro _ w1 ⟨rfl, hb1⟩; replace HG := Lib.hid (HG.out.next hb1); replace HB := Lib.hid (below_call HB.out hb1); clear hb1 )
            | (go_at_call 26; refine (HTB.out _ HG.out).mono ?_; rintro _ w1 ⟨rfl, hb1⟩; replace HG := Lib.hid (HG.out.next hb1); replace HB := Lib.hid (below_call HB.out hb1); clear hb1 HTB)
            | (go_at_call 26; refine (HTA.out _ HG.out).mono ?_; rintro _ w1 ⟨rfl, hb1⟩; replace HG := Lib.hid (HG.out.next hb1); replace HB := Lib.hid (below_call HB.out hb1); clear hb1 HTA)
            | (go_at_call 17; refine (HK.out _ HG.out).mono ?_; rintro _ wk ⟨rfl, hbk⟩; have HBK := Lib.hid (below_call HB.out hbk); clear hbk))
          go_ret
          exact ⟨rfl, HBK.out⟩
    · have hga : ¬ ((str a).size : Int) > 300 := by omega
      have hgb : ((str b).size : Int) > 300 := by omega
      obtain ⟨S, hS⟩ : ∃ S, str a = S := ⟨_, rfl⟩
      obtain ⟨T, hT⟩ : ∃ T, str b = T := ⟨_, rfl⟩
      rw [hS] at hga ⊢
      rw [hT] at hgb ⊢
      clear hS hT hza hzb hs ht
      go_enter Tryd.func7, Tryd.ntmps7
      go_wp2_with (first
        | (go_at_call 17; refine (HK.out _ HG.out).mono ?_; rintro _ wk ⟨rfl, hbk⟩; have HBK := Lib.hid (below_call HB.out hbk); clear hbk))
      go_ret
      exact ⟨rfl, HBK.out⟩
  · have hga : ((str a).size : Int) > 300 := by omega
    obtain ⟨S, hS⟩ : ∃ S, str a = S := ⟨_, rfl⟩
    obtain ⟨T, hT⟩ : ∃ T, str b = T := ⟨_, rfl⟩
    rw [hS] at hga ⊢
    rw [hT]
    clear hS hT hza hzb hs
    go_enter Tryd.func7, Tryd.ntmps7
    go_wp2_with (first
      | (go_at_call 17; refine (HK.out _ HG.out).mono ?_; rintro _ wk ⟨rfl, hbk⟩; have HBK := Lib.hid (below_call HB.out hbk); clear hbk))
    go_ret
    exact ⟨rfl, HBK.out⟩
end Go.Proofs.YtehehmpepkgbeaaDoor.Chr
