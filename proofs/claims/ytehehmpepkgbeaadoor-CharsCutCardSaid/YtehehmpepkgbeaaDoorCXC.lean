/- The walk of CharsCut. -/
import Derived.Test.YtehehmpepkgbeaaDoorCI
import Derived.Test.YtehehmpepkgbeaaDoorCK
namespace Go.Proofs.YtehehmpepkgbeaaDoor.Chr
open Go.RowKit
set_option linter.unusedVariables false
set_option linter.unusedSimpArgs false
set_option maxRecDepth 100000 in
set_option maxHeartbeats 16000000 in
theorem cut_walk (l : List UInt8) (w : World) (hG : G9 w) : Calls Tryd.prog 8 #[.string (str l)] w fun e w' => RetB true w e w' := by
  have HK : Hid (∀ w, G9 w → Calls Tryd.prog 17 #[] w fun e w' => RetB true w e w') := Lib.hid fun w g => wakes_any w g
  have HG := Lib.hid hG
  have HB : Hid (Below w.heap.size w w) := Lib.hid (Below.refl _ _)
  clear hG
  have hz := str_size l
  unfold RetB
  by_cases hs : l.length ≤ 2000
  · have hgt : ¬ ((str l).size : Int) > 2000 := by omega
    have HBA : Hid (∀ w, G9 w → Calls Tryd.prog 22 #[.string (str l)] w fun e w' => RetI (bad l) w e w') := Lib.hid fun w g => pbad_any l w g.1 (by omega)
    have HTA : Hid (∀ w, G9 w → Calls Tryd.prog 26 #[.string (str l)] w fun e w' => RetI (tk l : Nat) w e w') := Lib.hid fun w g => ptake_any l w g.1 (by omega)
    have HTK : Hid (∀ w, G9 w → Calls Tryd.prog 26 #[.string (str (l.take (tk l)))] w fun e w' => RetI (tk l : Nat) w e w') := Lib.hid fun w g => by
      have := ptake_any (l.take (tk l)) w g.1 (by rw [List.length_take]; omega)
      rwa [tk_twice] at this
    have HVA : Hid (∀ w, Calls Tryd.prog 31 #[.string (str l)] w fun e w' => RetB (okB l) w e w') := Lib.hid fun w => by
      have := rvalid_any (str l) w (by rw [hz]; omega)
      rwa [str_list] at this
    have hkl := tk_le l
    have hsk : ∀ w0 : World, (Instr.slice 9 (.string (str l)) none (some (.int .i64 ((tk l : Nat) : Int))) none).run Tryd.prog w0 = .ok (.string (str (l.take (tk l)))) w0 := slice_to9 (str l) (tk l) (by rw [hz]; exact hkl) (str_list l) rfl
    have hkb := tk_bad l
    have hk0 : ¬ ((tk l : Nat) : Int) < 0 := by omega
    have hk1 : ¬ ((tk l : Nat) : Int) > ((str l).size : Int) := by omega
    by_cases hn : bad l < 0
    · have hn1 : bad l = -1 := by rcases bad_bd l with h | h <;> omega
      have hok := bad_right hn
      rw [hok] at HVA
      rw [hn1] at HBA
      have hg0 : ¬ ((-1 : Int) ≥ ((str l).size : Int)) := by omega
      have hg1 : ¬ ((-1 : Int) ≥ 0) := by omega
      have hg2 : (-1 : Int) < 0 := by omega
      obtain ⟨k, hk⟩ : ∃ k, tk l = k := ⟨_, rfl⟩
      rw [hk] at HTA HTK hsk hk0 hk1
      obtain ⟨K, hK⟩ : ∃ K, str (l.take k) = K := ⟨_, rfl⟩
      rw [hK] at HTK hsk
      obtain ⟨S, hS⟩ : ∃ S, str l = S := ⟨_, rfl⟩
      rw [hS] at HBA HTA HVA hgt hsk hk1 hg0 ⊢
      clear hS hK hk hn hn1 hok hkl hkb hz hs
      go_enter Tryd.func8, Tryd.ntmps8
      go_wp2_with (first
        | (go_at_call 22; refine (HBA.out _ HG.out).mono ?_; rintro _ w1 ⟨rfl, hb1⟩; replace HG := Lib.hid (HG.out.next hb1); replace HB := Lib.hid (below_call HB.out hb1); clear hb1 HBA)
        | (go_at_call 26; refine (HTA.out _ HG.out).mono ?_; rintro _ w1 ⟨rfl, hb1⟩; replace HG := Lib.hid (HG.out.next hb1); replace HB := Lib.hid (below_call HB.out hb1); clear hb1 HTA)
        | (go_at_call 26; refine (HTK.out _ HG.out).mono ?_; rintro _ w1 ⟨rfl, hb1⟩; replace HG := Lib.hid (HG.out.next hb1); replace HB := Lib.hid (below_call HB.out hb1); clear hb1 HTK)
        | (go_at_call 31; refine (HVA.out _).mono ?_; rintro _ w1 ⟨rfl, hb1⟩; replace HG := Lib.hid (HG.out.next hb1); replace HB := Lib.hid (below_call HB.out hb1); clear hb1 HVA)
        | (go_at_call 17; refine (HK.out _ HG.out).mono ?_; rintro _ wk ⟨rfl, hbk⟩; have HBK := Lib.hid (below_call HB.out hbk); clear hbk))
      go_ret
      exact ⟨rfl, HBK.out⟩
    · obtain ⟨n, hnn⟩ : ∃ n : Nat, bad l = n := ⟨(bad l).toNat, by omega⟩
      have hlt := bad_lt l (by omega)
      obtain ⟨hc1, hc2⟩ := bad_cut hnn
      have hkn : ((tk l : Nat) : Int) ≤ (n : Int) := by rcases hkb with h | h <;> omega
      have HB1 : Hid (∀ w, G9 w → Calls Tryd.prog 22 #[.string (str (l.take n))] w fun e w' => RetI (-1) w e w') := Lib.hid fun w g => by
        have := pbad_any (l.take n) w g.1 (by rw [List.length_take]; omega)
        rwa [hc1] at this
      have HB2 : Hid (∀ w, G9 w → Calls Tryd.prog 22 #[.string (str (l.drop n))] w fun e w' => RetI 0 w e w') := Lib.hid fun w g => by
        have := pbad_any (l.drop n) w g.1 (by rw [List.length_drop]; omega)
        rwa [hc2] at this
      have hs1 : ∀ w0 : World, (Instr.slice 9 (.string (str l)) none (some (.int .i64 (n : Int))) none).run Tryd.prog w0 = .ok (.string (str (l.take n))) w0 := slice_to9 (str l) n (by rw [hz]; omega) (str_list l) rfl
      have hs2 : ∀ w0 : World, (Instr.slice 9 (.string (str l)) (some (.int .i64 (n : Int))) none none).run Tryd.prog w0 = .ok (.string (str (l.drop n))) w0 := slice_from9 (str l) n (by rw [hz]; omega) (str_list l) rfl
      rw [hnn] at HBA
      have hg0 : ¬ ((n : Int) ≥ ((str l).size : Int)) := by omega
      have hg1 : ((n : Int) ≥ 0) := by omega
      have hg2 : ¬ (n : Int) < 0 := by omega
      obtain ⟨k, hk⟩ : ∃ k, tk l = k := ⟨_, rfl⟩
      rw [hk] at HTA HTK hsk hk0 hk1 hkn
      obtain ⟨K, hK⟩ : ∃ K, str (l.take k) = K := ⟨_, rfl⟩
      rw [hK] at HTK hsk
      obtain ⟨K1, hK1⟩ : ∃ K, str (l.take n) = K := ⟨_, rfl⟩
      rw [hK1] at HB1 hs1
      obtain ⟨K2, hK2⟩ : ∃ K, str (l.drop n) = K := ⟨_, rfl⟩
      rw [hK2] at HB2 hs2
      obtain ⟨S, hS⟩ : ∃ S, str l = S := ⟨_, rfl⟩
      rw [hS] at HBA HTA hgt hsk hs1 hs2 hk1 hg0 ⊢
      clear hS hK hK1 hK2 hk hn hnn hlt hc1 hc2 hkl hkb hz hs HVA
      go_enter Tryd.func8, Tryd.ntmps8
      go_wp2_with (first
        | (go_at_call 22; refine (HBA.out _ HG.out).mono ?_; rintro _ w1 ⟨rfl, hb1⟩; replace HG := Lib.hid (HG.out.next hb1); replace HB := Lib.hid (below_call HB.out hb1); clear hb1 HBA)
        | (go_at_call 22; refine (HB1.out _ HG.out).mono ?_; rintro _ w1 ⟨rfl, hb1⟩; replace HG := Lib.hid (HG.out.next hb1); replace HB := Lib.hid (below_call HB.out hb1); clear hb1 HB1)
        | (go_at_call 22; refine (HB2.out _ HG.out).mono ?_; rintro _ w1 ⟨rfl, hb1⟩; replace HG := Lib.hid (HG.out.next hb1); replace HB := Lib.hid (below_call HB.out hb1); clear hb1 HB2)
        | (go_at_call 26; refine (HTA.out _ HG.out).mono ?_; rintro _ w1 ⟨rfl, hb1⟩; replace HG := Lib.hid (HG.out.next hb1); replace HB := Lib.hid (below_call HB.out hb1); clear hb1 HTA)
        | (go_at_call 26; refine (HTK.out _ HG.out).mono ?_; rintro _ w1 ⟨rfl, hb1⟩; replace HG := Lib.hid (HG.out.next hb1); replace HB := Lib.hid (below_call HB.out hb1); clear hb1 HTK)
        | (go_at_call 17; refine (HK.out _ HG.out).mono ?_; rintro _ wk ⟨rfl, hbk⟩; have HBK := Lib.hid (below_call HB.out hbk); clear hbk))
      go_ret
      exact ⟨rfl, HBK.out⟩
  · have hgt : ((str l).size : Int) > 2000 := by omega
    obtain ⟨S, hS⟩ : ∃ S, str l = S := ⟨_, rfl⟩
    rw [hS] at hgt ⊢
    clear hS hz hs
    go_enter Tryd.func8, Tryd.ntmps8
    go_wp2_with (first
      | (go_at_call 17; refine (HK.out _ HG.out).mono ?_; rintro _ wk ⟨rfl, hbk⟩; have HBK := Lib.hid (below_call HB.out hbk); clear hbk))
    go_ret
    exact ⟨rfl, HBK.out⟩
end Go.Proofs.YtehehmpepkgbeaaDoor.Chr
