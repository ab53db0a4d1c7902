/- The walk of DeclareFirst. -/
import Derived.Test.YtdkfbikpadehdaaDoorEK
namespace Go.Proofs.YtdkfbikpadehdaaDoor.Dec
open Go.RowKit
set_option linter.unusedVariables false
set_option linter.unusedSimpArgs false
open Lab (RetS ret_str str str_size str_list str_eta str_inj u8v info5 info_parts)
theorem str_app (a b : List UInt8) : str (a ++ b) = str a ++ str b := by
  apply ByteArray.ext
  rw [ByteArray.data_append]
  simp [str]
set_option maxRecDepth 100000 in
set_option maxHeartbeats 4000000 in
theorem first_walk (l bh : List UInt8) (w : World) (hm0 : Mx w) (hs : l.length ≤ maxLen) (ht : bh.length ≤ maxLen) : Calls Tryd.prog 4 #[.string (str l), .string (str bh)] w fun e w' => RetB true w e w' := by
  have HW : Hid (∀ w, Mx w → Calls Tryd.prog 7 #[] w fun e w' => RetB true w e w') := Lib.hid wakes_any
  have hlm : l.length ≤ maxLen := hs
  have HS1 : Hid (∀ w, Mx w → Calls Tryd.prog 14 #[.string (str l)] w fun e w' => ScanR (scn l) w e w') := Lib.hid fun w hm => pscan_any l w hm hlm
  have HS2 : Hid (l.length ≤ 2000 → bh.length ≤ 2000 → ∀ w, Mx w → Calls Tryd.prog 14 #[.string (str l ++ str bh)] w fun e w' => ScanR (scn (l ++ bh)) w e w') := Lib.hid fun q1 q2 w hm => by
    have := pscan_any (l ++ bh) w hm (by rw [List.length_append]; unfold maxLen; omega)
    rwa [str_app] at this
  have HP1 : Hid (∀ w, Mx w → Calls Tryd.prog 17 #[.string (str l)] w fun e w' => PartsR l w e w') := Lib.hid fun w hm => pparts_any l w hm hlm
  have HPF : Hid (∀ w, Mx w → Calls Tryd.prog 17 #[.string (str (l.take 200))] w fun e w' => PartsR (l.take 200) w e w') := Lib.hid fun w hm => pparts_any (l.take 200) w hm (by rw [List.length_take]; unfold maxLen; omega)
  have HP2 : Hid (l.length ≤ 2000 → bh.length ≤ 2000 → ∀ w, Mx w → Calls Tryd.prog 17 #[.string (str l ++ str bh)] w fun e w' => PartsR (l ++ bh) w e w') := Lib.hid fun q1 q2 w hm => by
    have := pparts_any (l ++ bh) w hm (by rw [List.length_append]; unfold maxLen; omega)
    rwa [str_app] at this
  have hsl : 200 < (str l).size → ∀ w0 : World, (Instr.slice 9 (.string (str l)) none (some (.int .i64 200)) none).run Tryd.prog w0 = .ok (.string (str (l.take 200))) w0 := fun h w0 =>
    slice_to (str l) 200 (by omega) (str_list l) rfl w0
  have hsame : ¬ 200 < (str l).size → str (l.take 200) = str l := fun h => by
    rw [str_size] at h
    rw [List.take_of_length_le (by omega)]
  unfold ScanR at HS1 HS2
  unfold PartsR at HP1 HPF HP2
  rw [prts_take] at HPF
  have hpa := prts_app (b := l) bh
  have hsa := scn_app (b := l) bh
  have hsn := scn_none (b := l)
  have hps : (prts l).length ≤ maxLen := Nat.le_trans (prts_len l) (by decide)
  obtain ⟨ps, hp⟩ : ∃ ps, prts l = ps := ⟨_, rfl⟩
  rw [hp] at HP1 HPF hpa hsa hsn hps
  clear hp
  unfold RetB at HW ⊢
  have HMX := Lib.hid hm0
  clear hm0
  have HSM : Hid (∀ (u u' : Value) (w : World), Prs w u ps → Prs w u' ps → Calls Tryd.prog 16 #[u, u'] w fun e w' => e = .returned (.bool true) ∧ Below w.heap.size w w') := Lib.hid fun u u' w h h' => by
    have := rsame_any ps ps u u' w h h' hps hps
    simpa using this
  have HSM2 := HSM
  obtain ⟨F, hF⟩ : ∃ F, str (l.take 200) = F := ⟨_, rfl⟩
  rw [hF] at HPF hsl hsame
  clear hF hps
  have hsz := str_size l
  have htz := str_size bh
  obtain ⟨s, hs'⟩ : ∃ s, str l = s := ⟨_, rfl⟩
  obtain ⟨t, ht'⟩ : ∃ t, str bh = t := ⟨_, rfl⟩
  rw [hs'] at hsz HS1 HS2 HP1 HP2 hsl hsame ⊢
  rw [ht'] at htz HS2 HP2 ⊢
  unfold maxLen at hs ht
  have hs6 : s.size ≤ 2 ^ 63 - 1 := by omega
  have ht6 : t.size ≤ 2 ^ 63 - 1 := by omega
  clear hs' ht' hs ht hlm
  by_cases hbig : 2000 < s.size
  · have d0 : decide ((2000 : Int) < (s.size : Int)) = true := by simp; omega
    clear HS1 HS2 HP1 HP2 HPF HSM HSM2 hsl hsame hsz htz
    go_enter Tryd.func4, Tryd.ntmps4
    go_wp2_with (go_at_call 7; refine (HW.out _ HMX.out).mono ?_; rintro _ w1 ⟨rfl, hb1⟩; replace HMX := Lib.hid (HMX.out.next hb1); clear HW)
    go_ret
    exact ⟨rfl, hb1⟩
  have d0 : decide ((2000 : Int) < (s.size : Int)) = false := by simp; omega
  by_cases hbig2 : 2000 < t.size
  · have d1 : decide ((2000 : Int) < (t.size : Int)) = true := by simp; omega
    clear HS1 HS2 HP1 HP2 HPF HSM HSM2 hsl hsame hsz htz
    go_enter Tryd.func4, Tryd.ntmps4
    go_wp2_with (go_at_call 7; refine (HW.out _ HMX.out).mono ?_; rintro _ w1 ⟨rfl, hb1⟩; replace HMX := Lib.hid (HMX.out.next hb1); clear HW)
    go_ret
    exact ⟨rfl, hb1⟩
  have d1 : decide ((2000 : Int) < (t.size : Int)) = false := by simp; omega
  have hs7 : s.size ≤ 2000 := by omega
  have ht7 : t.size ≤ 2000 := by omega
  replace HS2 := Lib.hid (HS2.out (by omega) (by omega))
  replace HP2 := Lib.hid (HP2.out (by omega) (by omega))
  clear hsz htz
  clear hs6 ht6 hbig hbig2
  by_cases hpe : ps = []
  · rw [hsn hpe] at HS1
    subst hpe
    clear hpa hsa hsn HS2 HP2 HSM2
    replace HS1 : Hid (∀ w, Mx w → Calls Tryd.prog 14 #[.string s] w fun e w' => e = .returned (.tuple #[.string ⟨#[]⟩, .bool false]) ∧ Below w.heap.size w w') := HS1
    by_cases h2 : 200 < s.size
    · have hsl0 := hsl h2
      have d2 : decide ((200 : Int) < (s.size : Int)) = true := by simp; omega
      clear hsl hsame
      go_enter Tryd.func4, Tryd.ntmps4
      go_wp2_with (first
        | (go_at_call 17; refine (HP1.out _ HMX.out).mono ?_; rintro _ w1 ⟨u1, rfl, hp1, hb1⟩; replace HMX := Lib.hid (HMX.out.next hb1); clear HP1; obtain ⟨p1, cap1, rfl⟩ := hp1.form)
        | (go_at_call 14; refine (HS1.out _ HMX.out).mono ?_; rintro _ w2 ⟨rfl, hb2⟩; replace HMX := Lib.hid (HMX.out.next hb2); clear HS1)
        | (go_at_call 17; refine (HPF.out _ HMX.out).mono ?_; rintro _ w3 ⟨u3, rfl, hp3, hb3⟩; replace HMX := Lib.hid (HMX.out.next hb3); clear HPF; have hp1c := (hp1.below hb2).below hb3)
        | (go_at_call 16; refine (HSM.out _ _ _ hp1c hp3).mono ?_; rintro _ w4 ⟨rfl, hb4⟩; replace HMX := Lib.hid (HMX.out.next hb4); clear HSM)
        | (go_at_call 7; refine (HW.out _ HMX.out).mono ?_; rintro _ w8 ⟨rfl, hb8⟩; replace HMX := Lib.hid (HMX.out.next hb8); clear HW))
      go_ret
      exact ⟨rfl, below_call (below_call (below_call (below_call hb1 hb2) hb3) hb4) hb8⟩
    · have hsl0 := hsame h2
      subst hsl0
      have d2 : decide ((200 : Int) < (F.size : Int)) = false := by simp; omega
      clear hsl hsame
      go_enter Tryd.func4, Tryd.ntmps4
      go_wp2_with (first
        | (go_at_call 17; refine (HP1.out _ HMX.out).mono ?_; rintro _ w1 ⟨u1, rfl, hp1, hb1⟩; replace HMX := Lib.hid (HMX.out.next hb1); clear HP1; obtain ⟨p1, cap1, rfl⟩ := hp1.form)
        | (go_at_call 14; refine (HS1.out _ HMX.out).mono ?_; rintro _ w2 ⟨rfl, hb2⟩; replace HMX := Lib.hid (HMX.out.next hb2); clear HS1)
        | (go_at_call 17; refine (HPF.out _ HMX.out).mono ?_; rintro _ w3 ⟨u3, rfl, hp3, hb3⟩; replace HMX := Lib.hid (HMX.out.next hb3); clear HPF; have hp1c := (hp1.below hb2).below hb3)
        | (go_at_call 16; refine (HSM.out _ _ _ hp1c hp3).mono ?_; rintro _ w4 ⟨rfl, hb4⟩; replace HMX := Lib.hid (HMX.out.next hb4); clear HSM)
        | (go_at_call 7; refine (HW.out _ HMX.out).mono ?_; rintro _ w8 ⟨rfl, hb8⟩; replace HMX := Lib.hid (HMX.out.next hb8); clear HW))
      go_ret
      exact ⟨rfl, below_call (below_call (below_call (below_call hb1 hb2) hb3) hb4) hb8⟩
  · rw [hpa hpe] at HP2
    rw [hsa hpe] at HS2
    obtain ⟨x3, b3, h⟩ := scanV_form (scn l)
    rw [h] at HS1 HS2
    clear h
    obtain ⟨Y, hY⟩ : ∃ Y, str x3 = Y := ⟨_, rfl⟩
    rw [hY] at HS1 HS2
    clear hY
    have hpg : 0 < ps.length := List.length_pos_iff.2 hpe
    have d3 : decide ((0 : Int) < (ps.length : Int)) = true := by simp; omega
    clear hpa hsa hsn
    by_cases h2 : 200 < s.size
    · have hsl0 := hsl h2
      have d2 : decide ((200 : Int) < (s.size : Int)) = true := by simp; omega
      clear hsl hsame
      go_enter Tryd.func4, Tryd.ntmps4
      go_wp2_with (first
        | (go_at_call 17; refine (HP1.out _ HMX.out).mono ?_; rintro _ w1 ⟨u1, rfl, hp1, hb1⟩; replace HMX := Lib.hid (HMX.out.next hb1); clear HP1; obtain ⟨p1, cap1, rfl⟩ := hp1.form)
        | (go_at_call 14; refine (HS1.out _ HMX.out).mono ?_; rintro _ w2 ⟨rfl, hb2⟩; replace HMX := Lib.hid (HMX.out.next hb2); clear HS1)
        | (go_at_call 17; refine (HPF.out _ HMX.out).mono ?_; rintro _ w3 ⟨u3, rfl, hp3, hb3⟩; replace HMX := Lib.hid (HMX.out.next hb3); clear HPF; have hp1c := (hp1.below hb2).below hb3)
        | (go_at_call 16; refine (HSM.out _ _ _ hp1c hp3).mono ?_; rintro _ w4 ⟨rfl, hb4⟩; replace HMX := Lib.hid (HMX.out.next hb4); clear HSM)
        | (go_at_call 14; refine (HS2.out _ HMX.out).mono ?_; rintro _ w5 ⟨rfl, hb5⟩; replace HMX := Lib.hid (HMX.out.next hb5); clear HS2)
        | (go_at_call 17; refine (HP2.out _ HMX.out).mono ?_; rintro _ w6 ⟨u6, rfl, hp6, hb6⟩; replace HMX := Lib.hid (HMX.out.next hb6); clear HP2; have hp1d := ((hp1c.below hb4).below hb5).below hb6)
        | (go_at_call 16; refine (HSM2.out _ _ _ hp1d hp6).mono ?_; rintro _ w7 ⟨rfl, hb7⟩; replace HMX := Lib.hid (HMX.out.next hb7); clear HSM2)
        | (go_at_call 7; refine (HW.out _ HMX.out).mono ?_; rintro _ w8 ⟨rfl, hb8⟩; replace HMX := Lib.hid (HMX.out.next hb8); clear HW))
      go_ret
      exact ⟨rfl, below_call (below_call (below_call (below_call (below_call (below_call (below_call hb1 hb2) hb3) hb4) hb5) hb6) hb7) hb8⟩
    · have hsl0 := hsame h2
      subst hsl0
      have d2 : decide ((200 : Int) < (F.size : Int)) = false := by simp; omega
      clear hsl hsame
      go_enter Tryd.func4, Tryd.ntmps4
      go_wp2_with (first
        | (go_at_call 17; refine (HP1.out _ HMX.out).mono ?_; rintro _ w1 ⟨u1, rfl, hp1, hb1⟩; replace HMX := Lib.hid (HMX.out.next hb1); clear HP1; obtain ⟨p1, cap1, rfl⟩ := hp1.form)
        | (go_at_call 14; refine (HS1.out _ HMX.out).mono ?_; rintro _ w2 ⟨rfl, hb2⟩; replace HMX := Lib.hid (HMX.out.next hb2); clear HS1)
        | (go_at_call 17; refine (HPF.out _ HMX.out).mono ?_; rintro _ w3 ⟨u3, rfl, hp3, hb3⟩; replace HMX := Lib.hid (HMX.out.next hb3); clear HPF; have hp1c := (hp1.below hb2).below hb3)
        | (go_at_call 16; refine (HSM.out _ _ _ hp1c hp3).mono ?_; rintro _ w4 ⟨rfl, hb4⟩; replace HMX := Lib.hid (HMX.out.next hb4); clear HSM)
        | (go_at_call 14; refine (HS2.out _ HMX.out).mono ?_; rintro _ w5 ⟨rfl, hb5⟩; replace HMX := Lib.hid (HMX.out.next hb5); clear HS2)
        | (go_at_call 17; refine (HP2.out _ HMX.out).mono ?_; rintro _ w6 ⟨u6, rfl, hp6, hb6⟩; replace HMX := Lib.hid (HMX.out.next hb6); clear HP2; have hp1d := ((hp1c.below hb4).below hb5).below hb6)
        | (go_at_call 16; refine (HSM2.out _ _ _ hp1d hp6).mono ?_; rintro _ w7 ⟨rfl, hb7⟩; replace HMX := Lib.hid (HMX.out.next hb7); clear HSM2)
        | (go_at_call 7; refine (HW.out _ HMX.out).mono ?_; rintro _ w8 ⟨rfl, hb8⟩; replace HMX := Lib.hid (HMX.out.next hb8); clear HW))
      go_ret
      exact ⟨rfl, below_call (below_call (below_call (below_call (below_call (below_call (below_call hb1 hb2) hb3) hb4) hb5) hb6) hb7) hb8⟩
end Go.Proofs.YtdkfbikpadehdaaDoor.Dec
