/- The walk of DeclareTells. -/
import Derived.Test.YtdkfbikpadehdaaDoorEK
namespace Go.Proofs.YtdkfbikpadehdaaDoor.Dec
open Go.RowKit
set_option linter.unusedVariables false
set_option linter.unusedSimpArgs false
open Lab (RetS ret_str str str_size str_list str_eta str_inj u8v info5 info_parts)
set_option maxRecDepth 100000 in
set_option maxHeartbeats 4000000 in
theorem tells_walk (l : List UInt8) (w : World) (hm0 : Mx w) (hs : l.length ≤ maxLen) : Calls Tryd.prog 3 #[.string (str l)] w fun e w' => RetB true w e w' := by
  have HW : Hid (∀ w, Mx w → Calls Tryd.prog 7 #[] w fun e w' => RetB true w e w') := Lib.hid wakes_any
  have HM1 : Hid (∀ w, Calls Tryd.prog 8 #[.string (str l)] w fun e w' => MarkR l w e w') := Lib.hid fun w => pmark_any l w
  have HM2 : Hid (∀ w, Calls Tryd.prog 9 #[.string (str l)] w fun e w' => e = .returned (markV (mrk l)) ∧ w' = w) := Lib.hid fun w => mark_any l w hs
  have HC1 : Hid (∀ w, Calls Tryd.prog 10 #[.string (str l)] w fun e w' => CutR l w e w') := Lib.hid fun w => pcut_any l w
  have HC2 : Hid (∀ w, Calls Tryd.prog 11 #[.string (str l)] w fun e w' => e = .returned (.string (str (cut l))) ∧ w' = w) := Lib.hid fun w => cut_any l w hs
  have HH1 : Hid (∀ w, Calls Tryd.prog 12 #[.string (str l)] w fun e w' => ShapeR l w e w') := Lib.hid fun w => pshape_any l w
  have HH2 : Hid (∀ w, Calls Tryd.prog 13 #[.string (str l)] w fun e w' => e = .returned (shapeV (shp l)) ∧ w' = w) := Lib.hid fun w => shape_any l w hs
  have HS1 : Hid (∀ w, Mx w → Calls Tryd.prog 14 #[.string (str l)] w fun e w' => ScanR (scn l) w e w') := Lib.hid fun w hm => pscan_any l w hm hs
  have HS2 : Hid (∀ w, Calls Tryd.prog 15 #[.string (str l)] w fun e w' => ScanR (scn l) w e w') := Lib.hid fun w => rscan_any l w hs
  have HP1 : Hid (∀ w, Mx w → Calls Tryd.prog 17 #[.string (str l)] w fun e w' => PartsR l w e w') := Lib.hid fun w hm => pparts_any l w hm hs
  have HP2 : Hid (∀ w, Calls Tryd.prog 18 #[.string (str l)] w fun e w' => PartsR l w e w') := Lib.hid fun w => parts_any l w hs
  unfold MarkR at HM1
  unfold CutR at HC1
  unfold ShapeR at HH1
  unfold ScanR at HS1 HS2
  unfold PartsR at HP1 HP2
  unfold RetB at HW ⊢
  have HMX := Lib.hid hm0
  clear hm0
  obtain ⟨a1, n1, b1, h⟩ := markV_form (mrk l)
  rw [h] at HM1 HM2
  clear h
  obtain ⟨a2, b2, h⟩ := shapeV_form (shp l)
  rw [h] at HH1 HH2
  clear h
  obtain ⟨x3, b3, h⟩ := scanV_form (scn l)
  rw [h] at HS1 HS2
  clear h
  have hps : (prts l).length ≤ maxLen := Nat.le_trans (prts_len l) (by decide)
  obtain ⟨ps, hp⟩ : ∃ ps, prts l = ps := ⟨_, rfl⟩
  rw [hp] at HP1 HP2 hps
  clear hp
  have HSM : Hid (∀ (u u' : Value) (w : World), Prs w u ps → Prs w u' ps → Calls Tryd.prog 16 #[u, u'] w fun e w' => e = .returned (.bool true) ∧ Below w.heap.size w w') := Lib.hid fun u u' w h h' => by
    have := rsame_any ps ps u u' w h h' hps hps
    simpa using this
  obtain ⟨X, hX⟩ : ∃ X, str (cut l) = X := ⟨_, rfl⟩
  rw [hX] at HC1 HC2
  clear hX hps
  obtain ⟨Y, hY⟩ : ∃ Y, str x3 = Y := ⟨_, rfl⟩
  rw [hY] at HS1 HS2
  clear hY
  unfold maxLen at hs
  have hsz := str_size l
  obtain ⟨s, hs'⟩ : ∃ s, str l = s := ⟨_, rfl⟩
  rw [hs'] at hsz HM1 HM2 HC1 HC2 HH1 HH2 HS1 HS2 HP1 HP2 ⊢
  have hsm : s.size ≤ 2 ^ 63 - 1 := by omega
  clear hs' hs hsz
  by_cases hbig : 2000 < s.size
  · have d0 : decide ((2000 : Int) < (s.size : Int)) = true := by simp; omega
    clear HM1 HM2 HC1 HC2 HH1 HH2 HS1 HS2 HP1 HP2 HSM
    go_enter Tryd.func3, Tryd.ntmps3
    go_wp2_with (go_at_call 7; refine (HW.out _ HMX.out).mono ?_; rintro _ w1 ⟨rfl, hb1⟩; replace HMX := Lib.hid (HMX.out.next hb1); clear HW)
    go_ret
    exact ⟨rfl, hb1⟩
  · have d0 : decide ((2000 : Int) < (s.size : Int)) = false := by simp; omega
    go_enter Tryd.func3, Tryd.ntmps3
    go_wp2_with (first
      | (go_at_call 8; refine (HM1.out _).mono ?_; rintro _ w1 ⟨rfl, hb1⟩; replace HMX := Lib.hid (HMX.out.next hb1); clear HM1)
      | (go_at_call 9; refine (HM2.out _).mono ?_; rintro _ w9 ⟨rfl, hw9⟩; subst w9; clear HM2)
      | (go_at_call 10; refine (HC1.out _).mono ?_; rintro _ w2 ⟨rfl, hb2⟩; replace HMX := Lib.hid (HMX.out.next hb2); clear HC1)
      | (go_at_call 11; refine (HC2.out _).mono ?_; rintro _ w9 ⟨rfl, hw9⟩; subst w9; clear HC2)
      | (go_at_call 12; refine (HH1.out _).mono ?_; rintro _ w3 ⟨rfl, hb3⟩; replace HMX := Lib.hid (HMX.out.next hb3); clear HH1)
      | (go_at_call 13; refine (HH2.out _).mono ?_; rintro _ w9 ⟨rfl, hw9⟩; subst w9; clear HH2)
      | (go_at_call 14; refine (HS1.out _ HMX.out).mono ?_; rintro _ w4 ⟨rfl, hb4⟩; replace HMX := Lib.hid (HMX.out.next hb4); clear HS1)
      | (go_at_call 15; refine (HS2.out _).mono ?_; rintro _ w5 ⟨rfl, hb5⟩; replace HMX := Lib.hid (HMX.out.next hb5); clear HS2)
      | (go_at_call 17; refine (HP1.out _ HMX.out).mono ?_; rintro _ w6 ⟨u6, rfl, hp6, hb6⟩; replace HMX := Lib.hid (HMX.out.next hb6); clear HP1)
      | (go_at_call 18; refine (HP2.out _).mono ?_; rintro _ w7 ⟨u7, rfl, hp7, hb7⟩; replace HMX := Lib.hid (HMX.out.next hb7); clear HP2)
      | (go_at_call 16; refine (HSM.out _ _ _ (hp6.below hb7) hp7).mono ?_; rintro _ w8 ⟨rfl, hb8⟩; replace HMX := Lib.hid (HMX.out.next hb8); clear HSM)
      | (go_at_call 7; refine (HW.out _ HMX.out).mono ?_; rintro _ w10 ⟨rfl, hb10⟩; replace HMX := Lib.hid (HMX.out.next hb10); clear HW))
    go_ret
    exact ⟨rfl, below_call (below_call (below_call (below_call (below_call (below_call (below_call (below_call hb1 hb2) hb3) hb4) hb5) hb6) hb7) hb8) hb10⟩
end Go.Proofs.YtdkfbikpadehdaaDoor.Dec
