/- The walk of DeclareApart. -/
import Derived.Test.YtdkfbikpadehdaaDoorEK
namespace Go.Proofs.YtdkfbikpadehdaaDoor.Dec
open Go.RowKit
set_option linter.unusedVariables false
set_option linter.unusedSimpArgs false
open Lab (RetS ret_str str str_size str_list str_eta str_inj u8v info5 info_parts)
theorem mark_apart (l : List UInt8) : ∃ (a : Int), markV (mrk l) = .tuple #[.int .i8 a, .int .i64 (mrkN l : Int), .bool (mrk l).isSome] := by
  unfold mrkN
  cases mrk l with
  | none => exact ⟨0, rfl⟩
  | some m => exact ⟨m.1, rfl⟩
theorem shape_apart (l : List UInt8) : ∃ (a : Int), shapeV (shp l) = .tuple #[.int .i8 a, .bool (shp l).isSome] := by
  cases shp l with
  | none => exact ⟨0, rfl⟩
  | some m => exact ⟨m, rfl⟩
set_option maxRecDepth 100000 in
set_option maxHeartbeats 4000000 in
theorem apart_walk (l : List UInt8) (w : World) (hm0 : Mx w) (hs : l.length ≤ maxLen) : Calls Tryd.prog 6 #[.string (str l)] w fun e w' => RetB true w e w' := by
  have HW : Hid (∀ w, Mx w → Calls Tryd.prog 7 #[] w fun e w' => RetB true w e w') := Lib.hid wakes_any
  have HM1 : Hid (∀ w, Calls Tryd.prog 8 #[.string (str l)] w fun e w' => MarkR l w e w') := Lib.hid fun w => pmark_any l w
  have HC1 : Hid (∀ w, Calls Tryd.prog 10 #[.string (str l)] w fun e w' => CutR l w e w') := Lib.hid fun w => pcut_any l w
  have HH1 : Hid (∀ w, Calls Tryd.prog 12 #[.string (str l)] w fun e w' => ShapeR l w e w') := Lib.hid fun w => pshape_any l w
  have HP1 : Hid (∀ w, Mx w → Calls Tryd.prog 17 #[.string (str l)] w fun e w' => PartsR l w e w') := Lib.hid fun w hm => pparts_any l w hm hs
  unfold MarkR at HM1
  unfold CutR at HC1
  unfold ShapeR at HH1
  unfold PartsR at HP1
  unfold RetB at HW ⊢
  have HMX := Lib.hid hm0
  clear hm0
  obtain ⟨a1, h⟩ := mark_apart l
  rw [h] at HM1
  clear h
  obtain ⟨a2, h⟩ := shape_apart l
  rw [h] at HH1
  clear h
  have hap := apart l
  have hpos := mrk_pos (b := l)
  have hml := mrk_len (b := l)
  have hcl := cut_len l
  have hcn := cut_none (b := l)
  obtain ⟨ps, hp⟩ : ∃ ps, prts l = ps := ⟨_, rfl⟩
  rw [hp] at HP1 hap
  clear hp
  obtain ⟨d, hd⟩ : ∃ d, (shp l).isSome = d := ⟨_, rfl⟩
  rw [hd] at HH1 hap
  clear hd
  obtain ⟨X, hX⟩ : ∃ X, str (cut l) = X := ⟨_, rfl⟩
  have hXs : X.size = l.length - mrkN l := by rw [← hX, str_size, hcl]
  have hXl : (mrk l).isSome = false → X = str l := fun h => by
    rw [← hX, hcn (by cases hm : mrk l with
      | none => rfl
      | some m => rw [hm] at h; cases h)]
  rw [hX] at HC1
  clear hX hcl hcn
  obtain ⟨b, hb⟩ : ∃ b, (mrk l).isSome = b := ⟨_, rfl⟩
  rw [hb] at HM1 hap hpos hXl
  obtain ⟨n, hn⟩ : ∃ n, mrkN l = n := ⟨_, rfl⟩
  rw [hn] at HM1 hpos hml hXs
  clear hb hn
  unfold maxLen at hs
  have hsz := str_size l
  obtain ⟨s, hs'⟩ : ∃ s, str l = s := ⟨_, rfl⟩
  rw [hs'] at hsz HM1 HC1 HH1 HP1 hXl ⊢
  rw [← hsz] at hs hml hXs
  clear hs' hsz
  have HC2 := HC1
  by_cases hbig : 2000 < s.size
  · have d0 : decide ((2000 : Int) < (s.size : Int)) = true := by simp; omega
    clear HM1 HC1 HH1 HP1 HC2 hXs hXl
    go_enter Tryd.func6, Tryd.ntmps6
    go_wp2_with (go_at_call 7; refine (HW.out _ HMX.out).mono ?_; rintro _ w1 ⟨rfl, hb1⟩; replace HMX := Lib.hid (HMX.out.next hb1); clear HW)
    go_ret
    exact ⟨rfl, hb1⟩
  have d0 : decide ((2000 : Int) < (s.size : Int)) = false := by simp; omega
  have hs6 : s.size ≤ 2000 := by omega
  clear hs hbig
  have hXz : (X.size : Int) = (s.size : Int) - (n : Int) := by omega
  cases b with
  | true =>
    have hn0 : 0 < n := by simpa using hpos
    have hd : d = false := by
      cases d with
      | false => rfl
      | true => simp at hap; split at hap <;> omega
    have hpe : ps = [] := by
      rcases Classical.em (ps = []) with h | h
      · exact h
      · rw [if_pos h, hd] at hap; simp at hap
    subst hd
    subst hpe
    have d1 : decide ((0 : Int) < (n : Int)) = true := by simp; omega
    have d2 : ((X.size : Int) == (s.size : Int) - (n : Int)) = true := by rw [hXz]; simp
    clear hap hpos hXl hXs HC2
    go_enter Tryd.func6, Tryd.ntmps6
    go_wp2_with (first
      | (go_at_call 8; refine (HM1.out _).mono ?_; rintro _ w1 ⟨rfl, hb1⟩; replace HMX := Lib.hid (HMX.out.next hb1); clear HM1)
      | (go_at_call 12; refine (HH1.out _).mono ?_; rintro _ w2 ⟨rfl, hb2⟩; replace HMX := Lib.hid (HMX.out.next hb2); clear HH1)
      | (go_at_call 17; refine (HP1.out _ HMX.out).mono ?_; rintro _ w3 ⟨u3, rfl, hp3, hb3⟩; replace HMX := Lib.hid (HMX.out.next hb3); clear HP1; obtain ⟨p3, cap3, rfl⟩ := hp3.form)
      | (go_at_call 10; refine (HC1.out _).mono ?_; rintro _ w4 ⟨rfl, hb4⟩; replace HMX := Lib.hid (HMX.out.next hb4); clear HC1)
      | (go_at_call 10; refine (HC2.out _).mono ?_; rintro _ w5 ⟨rfl, hb5⟩; replace HMX := Lib.hid (HMX.out.next hb5); clear HC2)
      | (go_at_call 7; refine (HW.out _ HMX.out).mono ?_; rintro _ w6 ⟨rfl, hb6⟩; replace HMX := Lib.hid (HMX.out.next hb6); clear HW))
    go_ret
    exact ⟨rfl, below_call (below_call (below_call (below_call hb1 hb2) hb3) hb4) hb6⟩
  | false =>
    have hn0 : n = 0 := by
      have : ¬ 0 < n := by simpa using hpos
      omega
    have hXe := hXl rfl
    subst hXe
    subst hn0
    clear hXl hXs hXz hpos hml
    cases d with
    | true =>
      have hpe : ps = [] := by
        rcases Classical.em (ps = []) with h | h
        · exact h
        · rw [if_pos h] at hap; simp at hap
      subst hpe
      clear hap
      go_enter Tryd.func6, Tryd.ntmps6
      go_wp2_with (first
        | (go_at_call 8; refine (HM1.out _).mono ?_; rintro _ w1 ⟨rfl, hb1⟩; replace HMX := Lib.hid (HMX.out.next hb1); clear HM1)
        | (go_at_call 12; refine (HH1.out _).mono ?_; rintro _ w2 ⟨rfl, hb2⟩; replace HMX := Lib.hid (HMX.out.next hb2); clear HH1)
        | (go_at_call 17; refine (HP1.out _ HMX.out).mono ?_; rintro _ w3 ⟨u3, rfl, hp3, hb3⟩; replace HMX := Lib.hid (HMX.out.next hb3); clear HP1; obtain ⟨p3, cap3, rfl⟩ := hp3.form)
        | (go_at_call 10; refine (HC1.out _).mono ?_; rintro _ w4 ⟨rfl, hb4⟩; replace HMX := Lib.hid (HMX.out.next hb4); clear HC1)
        | (go_at_call 10; refine (HC2.out _).mono ?_; rintro _ w5 ⟨rfl, hb5⟩; replace HMX := Lib.hid (HMX.out.next hb5); clear HC2)
        | (go_at_call 7; refine (HW.out _ HMX.out).mono ?_; rintro _ w6 ⟨rfl, hb6⟩; replace HMX := Lib.hid (HMX.out.next hb6); clear HW))
      go_ret
      exact ⟨rfl, below_call (below_call (below_call (below_call (below_call hb1 hb2) hb3) hb4) hb5) hb6⟩
    | false =>
      clear hap
      by_cases hpe : ps.length = 0
      · have d3 : decide ((0 : Int) < (ps.length : Int)) = false := by rw [hpe]; rfl
        go_enter Tryd.func6, Tryd.ntmps6
        go_wp2_with (first
          | (go_at_call 8; refine (HM1.out _).mono ?_; rintro _ w1 ⟨rfl, hb1⟩; replace HMX := Lib.hid (HMX.out.next hb1); clear HM1)
          | (go_at_call 12; refine (HH1.out _).mono ?_; rintro _ w2 ⟨rfl, hb2⟩; replace HMX := Lib.hid (HMX.out.next hb2); clear HH1)
          | (go_at_call 17; refine (HP1.out _ HMX.out).mono ?_; rintro _ w3 ⟨u3, rfl, hp3, hb3⟩; replace HMX := Lib.hid (HMX.out.next hb3); clear HP1; obtain ⟨p3, cap3, rfl⟩ := hp3.form)
          | (go_at_call 10; refine (HC1.out _).mono ?_; rintro _ w4 ⟨rfl, hb4⟩; replace HMX := Lib.hid (HMX.out.next hb4); clear HC1)
          | (go_at_call 10; refine (HC2.out _).mono ?_; rintro _ w5 ⟨rfl, hb5⟩; replace HMX := Lib.hid (HMX.out.next hb5); clear HC2)
          | (go_at_call 7; refine (HW.out _ HMX.out).mono ?_; rintro _ w6 ⟨rfl, hb6⟩; replace HMX := Lib.hid (HMX.out.next hb6); clear HW))
        go_ret
        exact ⟨rfl, below_call (below_call (below_call (below_call (below_call hb1 hb2) hb3) hb4) hb5) hb6⟩
      · have d3 : decide ((0 : Int) < (ps.length : Int)) = true := by simp; omega
        have hpg : 0 < ps.length := by omega
        go_enter Tryd.func6, Tryd.ntmps6
        go_wp2_with (first
          | (go_at_call 8; refine (HM1.out _).mono ?_; rintro _ w1 ⟨rfl, hb1⟩; replace HMX := Lib.hid (HMX.out.next hb1); clear HM1)
          | (go_at_call 12; refine (HH1.out _).mono ?_; rintro _ w2 ⟨rfl, hb2⟩; replace HMX := Lib.hid (HMX.out.next hb2); clear HH1)
          | (go_at_call 17; refine (HP1.out _ HMX.out).mono ?_; rintro _ w3 ⟨u3, rfl, hp3, hb3⟩; replace HMX := Lib.hid (HMX.out.next hb3); clear HP1; obtain ⟨p3, cap3, rfl⟩ := hp3.form)
          | (go_at_call 10; refine (HC1.out _).mono ?_; rintro _ w4 ⟨rfl, hb4⟩; replace HMX := Lib.hid (HMX.out.next hb4); clear HC1)
          | (go_at_call 10; refine (HC2.out _).mono ?_; rintro _ w5 ⟨rfl, hb5⟩; replace HMX := Lib.hid (HMX.out.next hb5); clear HC2)
          | (go_at_call 7; refine (HW.out _ HMX.out).mono ?_; rintro _ w6 ⟨rfl, hb6⟩; replace HMX := Lib.hid (HMX.out.next hb6); clear HW))
        go_ret
        exact ⟨rfl, below_call (below_call (below_call (below_call (below_call hb1 hb2) hb3) hb4) hb5) hb6⟩
end Go.Proofs.YtdkfbikpadehdaaDoor.Dec
