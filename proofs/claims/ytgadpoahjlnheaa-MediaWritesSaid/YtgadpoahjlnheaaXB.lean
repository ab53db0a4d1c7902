/- The walk of MediaBack. -/
import Derived.Test.YtgadpoahjlnheaaX
import Derived.Test.YtgadpoahjlnheaaYE
import Derived.Test.YtgadpoahjlnheaaYG
namespace Go.Proofs.Ytgadpoahjlnheaa.Med
open Go.RowKit
set_option linter.unusedVariables false
set_option linter.unusedSimpArgs false
open Lab (RetS ret_str str str_size str_list str_eta str_inj u8v st_ixb info5 info_parts)
def PSome (m : Med) (w : World) (e : Ending) (w' : World) : Prop :=
  ∃ p cap, e = .returned (.tuple #[.agg #[.string (str m.1), .slice p m.2.length cap], .int .i64 0]) ∧ Prs w' (.slice p m.2.length cap) m.2 ∧ Below w.heap.size w w'
theorem parse_some {l : List UInt8} {m : Med} (h : parse l = some m) (hl : l.length ≤ 100000) (w : World) : Calls Try.prog 8 #[.string (str l)] w fun e w' => PSome m w e w' := by
  have := parse_str l w hl
  rw [h] at this
  exact this
def PNone (w : World) (e : Ending) (w' : World) : Prop := ∃ p cap, e = .returned (.tuple #[.agg #[.string (str []), .slice p 0 cap], .int .i64 70]) ∧ Below w.heap.size w w'
theorem parse_none {l : List UInt8} (h : parse l = none) (hl : l.length ≤ 100000) (w : World) : Calls Try.prog 8 #[.string (str l)] w fun e w' => PNone w e w' := by
  have := parse_str l w hl
  rw [h] at this
  refine this.mono ?_
  rintro e w' ⟨p, cap, rfl, _, hb⟩
  exact ⟨p, cap, rfl, hb⟩
theorem text_some {m : Med} (h : ok m = true) (u : Value) (w : World) (hu : Prs w u m.2) (hl : tot m ≤ 3000) (hc : m.2.length ≤ 3000) : Calls Try.prog 18 #[.agg #[.string (str m.1), u]] w fun e w' => e = .returned (.tuple #[.string (str (text m)), .int .i64 0]) ∧ Below w.heap.size w w' := by
  refine (text_any m u w hu hl hc).mono ?_
  rintro e w' ⟨rfl, hb⟩
  refine ⟨?_, hb⟩
  unfold textR textX; rw [if_pos h, if_pos h]
theorem text_none {m : Med} (h : ok m = false) (u : Value) (w : World) (hu : Prs w u m.2) (hl : tot m ≤ 3000) (hc : m.2.length ≤ 3000) : Calls Try.prog 18 #[.agg #[.string (str m.1), u]] w fun e w' => e = .returned (.tuple #[.string (str []), .int .i64 2]) ∧ Below w.heap.size w w' := by
  refine (text_any m u w hu hl hc).mono ?_
  rintro e w' ⟨rfl, hb⟩
  refine ⟨?_, hb⟩
  unfold textR textX; rw [if_neg (by simp [h]), if_neg (by simp [h])]
theorem rsame_self (m : Med) (u u' : Value) (w : World) (hu : Prs w u m.2) (hu' : Prs w u' m.2) (hl : m.2.length ≤ 3000) : Calls Try.prog 12 #[.agg #[.string (str m.1), u], .agg #[.string (str m.1), u']] w fun e w' => e = .returned (.bool true) ∧ Below w.heap.size w w' := by
  have := rsame_any m m u u' w hu hu' (by unfold maxLen; omega)
  simpa using this
set_option maxRecDepth 100000 in
set_option maxHeartbeats 8000000 in
theorem back_walk (m : Med) (u : Value) (s : ByteArray) (w : World) (hu : Prs w u m.2) (ht : m.1.length ≤ 1000000000000000) (hl0 : m.2.length ≤ 1000000000000000) (hp : ∀ q ∈ m.2, q.1.length ≤ 1000000000000000 ∧ q.2.length ≤ 1000000000000000) :
    Calls Try.prog 5 #[.agg #[.string (str m.1), u], .string s] w fun e w' => RetB true w e w' := by
  obtain ⟨p0, cap0, rfl⟩ := hu.form
  have HW := Lib.hid wakes_any
  have HB0 : Hid (Below w.heap.size w (w.alloc (.cells #[.string (str m.1), .slice p0 m.2.length cap0] 25))) := Lib.hid ((Below.refl _ w).alloc (Nat.le_refl _) _)
  have HU := Lib.hid (hu.below HB0.out)
  have HK := Lib.hid (Blk.new w #[.string (str m.1), .slice p0 m.2.length cap0] 25)
  have HG : Hid (∀ (w : World) (u : Value), Prs w u m.2 → Calls Try.prog 17 #[.agg #[.string (str m.1), u]] w fun e w' => RetB (grt m) w e w') := Lib.hid fun w u h => great_any m u w h ht hl0 hp
  have HS1 : Hid (m.2.length ≤ 3000 → ∀ (w : World) (u u' : Value), Prs w u m.2 → Prs w u' m.2 → Calls Try.prog 12 #[.agg #[.string (str m.1), u], .agg #[.string (str m.1), u']] w fun e w' => e = .returned (.bool true) ∧ Below w.heap.size w w') := Lib.hid fun hl w u u' h h' => rsame_self m u u' w h h' hl
  clear hu ht hl0 hp
  obtain ⟨T, hT⟩ : ∃ T, str m.1 = T := ⟨_, rfl⟩
  obtain ⟨N, hN⟩ : ∃ N, m.2.length = N := ⟨_, rfl⟩
  rw [hT, hN] at HB0 HU HK
  rw [hT] at HG
  rw [hT, hN] at HS1
  rw [hT, hN]
  obtain ⟨g, hg⟩ : ∃ g, grt m = g := ⟨_, rfl⟩
  rw [hg] at HG
  cases g with
  | true =>
    clear hg HS1 hN hT
    go_enter Try.func5, Try.ntmps5
    go_wp2_with (first
      | (go_at_call 17; refine (HG.out _ _ HU.out).mono ?_; rintro _ w1 ⟨rfl, hb1⟩; clear HG)
      | (go_at_call 7; refine (HW.out _).mono ?_; rintro _ w9 ⟨rfl, hb9⟩))
    go_ret
    exact ⟨rfl, below_call (below_call HB0.out hb1) hb9⟩
  | false =>
    have hb := grt_not hg
    have hS1 : N ≤ 3000 := by have := hb.2; omega
    replace HS1 := Lib.hid (HS1.out hS1)
    clear hg hS1
    by_cases hs : s.size ≤ 3000
    · have hsi : (s.size : Int) ≤ 3000 := by omega
      have hd : decide ((3000 : Int) < (s.size : Int)) = false := by simp; omega
      obtain ⟨l, hl⟩ : ∃ l, str l = s := ⟨s.data.toList, str_eta s⟩
      have hll : l.length ≤ 3000 := by rw [← str_size, hl]; exact hs
      obtain ⟨r, hr⟩ : ∃ r, parse l = r := ⟨_, rfl⟩
      obtain ⟨o, hok⟩ : ∃ o, ok m = o := ⟨_, rfl⟩
      cases r with
      | none =>
        cases o with
        | false =>
          have HX1 : Hid (∀ (w : World) (u : Value), Prs w u m.2 → Calls Try.prog 18 #[.agg #[.string T, u]] w fun e w' => e = .returned (.tuple #[.string (str []), .int .i64 2]) ∧ Below w.heap.size w w') := Lib.hid fun w u h => by
            have := text_none hok u w h hb.1 (by have := hb.2; omega)
            rwa [hT] at this
          have HP2 : Hid (∀ w, Calls Try.prog 8 #[.string s] w fun e w' => PNone w e w') := Lib.hid fun w => by
            have := parse_none hr (by omega) w
            rwa [hl] at this
          clear hok hr hl hll hb hT hN
          go_enter Try.func5, Try.ntmps5
          go_wp2_with (first
            | (go_at_call 17; refine (HG.out _ _ HU.out).mono ?_; rintro _ w1 ⟨rfl, hb1⟩; clear HG
               obtain ⟨a0, a1, _, _⟩ := blk2 (HK.out.below hb1)
               have K1 := Lib.hid (HK.out.below hb1)
               have U1 := Lib.hid (HU.out.below hb1)
               have B1 := Lib.hid (below_call HB0.out hb1))
            | (go_at_call 18; refine (HX1.out _ _ U1.out).mono ?_; rintro _ w2 ⟨rfl, hb2⟩; clear HX1
               obtain ⟨b0, b1, _, _⟩ := blk2 (K1.out.below hb2)
               have K2 := Lib.hid (K1.out.below hb2)
               have U2 := Lib.hid (U1.out.below hb2)
               have B2 := Lib.hid (below_call B1.out hb2))
            | (go_at_call 8; refine (HP2.out _).mono ?_; rintro _ w5 ⟨p5, cap5, rfl, hb5⟩; clear HP2
               have B5 := Lib.hid (below_call (below_call B2.out hb5) (al w5 (.cells #[.string (str []), .slice p5 0 cap5] 25))))
            | (go_at_call 7; refine (HW.out _).mono ?_; rintro _ w9 ⟨rfl, hb9⟩))
          go_ret
          exact ⟨rfl, below_call B5.out hb9⟩
        | true =>
          obtain ⟨A, hA⟩ : ∃ A, str (text m) = A := ⟨_, rfl⟩
          have HX1 : Hid (∀ (w : World) (u : Value), Prs w u m.2 → Calls Try.prog 18 #[.agg #[.string T, u]] w fun e w' => e = .returned (.tuple #[.string A, .int .i64 0]) ∧ Below w.heap.size w w') := Lib.hid fun w u h => by
            have := text_some hok u w h hb.1 (by have := hb.2; omega)
            rwa [hA, hT] at this
          have HP1 : Hid (∀ w, Calls Try.prog 8 #[.string A] w fun e w' => ∃ p cap, e = .returned (.tuple #[.agg #[.string T, .slice p N cap], .int .i64 0]) ∧ Prs w' (.slice p N cap) m.2 ∧ Below w.heap.size w w') := Lib.hid fun w => by
            have := parse_some (parse_text hok) (by have := text_len m; omega) w
            rw [hA] at this
            unfold PSome at this
            rwa [hT, hN] at this
          have HP2 : Hid (∀ w, Calls Try.prog 8 #[.string s] w fun e w' => PNone w e w') := Lib.hid fun w => by
            have := parse_none hr (by omega) w
            rwa [hl] at this
          clear hok hr hl hll hb hT hN hA
          go_enter Try.func5, Try.ntmps5
          go_wp2_with (first
            | (go_at_call 17; refine (HG.out _ _ HU.out).mono ?_; rintro _ w1 ⟨rfl, hb1⟩; clear HG
               obtain ⟨a0, a1, _, _⟩ := blk2 (HK.out.below hb1)
               have K1 := Lib.hid (HK.out.below hb1)
               have U1 := Lib.hid (HU.out.below hb1)
               have B1 := Lib.hid (below_call HB0.out hb1))
            | (go_at_call 18; refine (HX1.out _ _ U1.out).mono ?_; rintro _ w2 ⟨rfl, hb2⟩; clear HX1
               obtain ⟨b0, b1, _, _⟩ := blk2 (K1.out.below hb2)
               have K2 := Lib.hid (K1.out.below hb2)
               have U2 := Lib.hid (U1.out.below hb2)
               have B2 := Lib.hid (below_call B1.out hb2))
            | (go_at_call 8; refine (HP1.out _).mono ?_; rintro _ w3 ⟨p3, cap3, rfl, hp3, hb3⟩; clear HP1
               obtain ⟨c0, c1, _, _⟩ := blk2 ((K2.out.below hb3).alloc (.cells #[.string T, .slice p3 N cap3] 25))
               have U3 := Lib.hid ((U2.out.below hb3).below (al w3 (.cells #[.string T, .slice p3 N cap3] 25)))
               have V3 := Lib.hid (hp3.below (al w3 (.cells #[.string T, .slice p3 N cap3] 25)))
               have B3 := Lib.hid (below_call (below_call B2.out hb3) (al w3 (.cells #[.string T, .slice p3 N cap3] 25))))
            | (go_at_call 12; refine (HS1.out _ _ _ V3.out U3.out).mono ?_; rintro _ w4 ⟨rfl, hb4⟩; clear HS1
               have B4 := Lib.hid (below_call B3.out hb4))
            | (go_at_call 8; refine (HP2.out _).mono ?_; rintro _ w5 ⟨p5, cap5, rfl, hb5⟩; clear HP2
               have B5 := Lib.hid (below_call (below_call B4.out hb5) (al w5 (.cells #[.string (str []), .slice p5 0 cap5] 25))))
            | (go_at_call 7; refine (HW.out _).mono ?_; rintro _ w9 ⟨rfl, hb9⟩))
          go_ret
          exact ⟨rfl, below_call B5.out hb9⟩
      | some m2 =>
        have hok2 := parse_ok hr
        obtain ⟨hb2, hb2c⟩ := parse_tot hr
        obtain ⟨T2, hT2⟩ : ∃ T, str m2.1 = T := ⟨_, rfl⟩
        obtain ⟨N2, hN2⟩ : ∃ N, m2.2.length = N := ⟨_, rfl⟩
        obtain ⟨A2, hA2⟩ : ∃ A, str (text m2) = A := ⟨_, rfl⟩
        cases o with
        | false =>
          have HX1 : Hid (∀ (w : World) (u : Value), Prs w u m.2 → Calls Try.prog 18 #[.agg #[.string T, u]] w fun e w' => e = .returned (.tuple #[.string (str []), .int .i64 2]) ∧ Below w.heap.size w w') := Lib.hid fun w u h => by
            have := text_none hok u w h hb.1 (by have := hb.2; omega)
            rwa [hT] at this
          have HP2 : Hid (∀ w, Calls Try.prog 8 #[.string s] w fun e w' => ∃ p cap, e = .returned (.tuple #[.agg #[.string T2, .slice p N2 cap], .int .i64 0]) ∧ Prs w' (.slice p N2 cap) m2.2 ∧ Below w.heap.size w w') := Lib.hid fun w => by
            have := parse_some hr (by omega) w
            rw [hl] at this
            unfold PSome at this
            rwa [hT2, hN2] at this
          have HX2 : Hid (∀ (w : World) (u : Value), Prs w u m2.2 → Calls Try.prog 18 #[.agg #[.string T2, u]] w fun e w' => e = .returned (.tuple #[.string A2, .int .i64 0]) ∧ Below w.heap.size w w') := Lib.hid fun w u h => by
            have := text_some hok2 u w h (by omega) (by omega)
            rwa [hA2, hT2] at this
          have HP3 : Hid (∀ w, Calls Try.prog 8 #[.string A2] w fun e w' => ∃ p cap, e = .returned (.tuple #[.agg #[.string T2, .slice p N2 cap], .int .i64 0]) ∧ Prs w' (.slice p N2 cap) m2.2 ∧ Below w.heap.size w w') := Lib.hid fun w => by
            have := parse_some (parse_text hok2) (by have := text_len m2; omega) w
            rw [hA2] at this
            unfold PSome at this
            rwa [hT2, hN2] at this
          have HS2 : Hid (∀ (w : World) (u u' : Value), Prs w u m2.2 → Prs w u' m2.2 → Calls Try.prog 12 #[.agg #[.string T2, u], .agg #[.string T2, u']] w fun e w' => e = .returned (.bool true) ∧ Below w.heap.size w w') := Lib.hid fun w u u' h h' => by
            have := rsame_self m2 u u' w h h' (by omega)
            rwa [hT2] at this
          have hne : A2.toList.isEmpty = false := by
            have := text_ne hok2
            rw [← hA2, toList_str]
            cases hx : text m2 with
            | nil => exact absurd hx this
            | cons c t => rfl
          clear hok hok2 hr hl hll hb hT hN
          clear hT2 hN2 hA2 hb2 hb2c
          go_enter Try.func5, Try.ntmps5
          go_wp2_with (first
            | (go_at_call 17; refine (HG.out _ _ HU.out).mono ?_; rintro _ w1 ⟨rfl, hb1⟩; clear HG
               obtain ⟨a0, a1, _, _⟩ := blk2 (HK.out.below hb1)
               have K1 := Lib.hid (HK.out.below hb1)
               have U1 := Lib.hid (HU.out.below hb1)
               have B1 := Lib.hid (below_call HB0.out hb1))
            | (go_at_call 18; refine (HX1.out _ _ U1.out).mono ?_; rintro _ w2 ⟨rfl, hb2⟩; clear HX1
               obtain ⟨b0, b1, _, _⟩ := blk2 (K1.out.below hb2)
               have K2 := Lib.hid (K1.out.below hb2)
               have U2 := Lib.hid (U1.out.below hb2)
               have B2 := Lib.hid (below_call B1.out hb2))
            | (go_at_call 8; refine (HP2.out _).mono ?_; rintro _ w5 ⟨p5, cap5, rfl, hp5, hb5⟩; clear HP2
               have V5 := Lib.hid (hp5.below (al w5 (.cells #[.string T2, .slice p5 N2 cap5] 25)))
               have K5 := Lib.hid (Blk.new w5 #[.string T2, .slice p5 N2 cap5] 25)
               have B5 := Lib.hid (below_call (below_call B2.out hb5) (al w5 (.cells #[.string T2, .slice p5 N2 cap5] 25))))
            | (go_at_call 18; refine (HX2.out _ _ V5.out).mono ?_; rintro _ w6 ⟨rfl, hb6⟩; clear HX2
               have V6 := Lib.hid (V5.out.below hb6)
               have K6 := Lib.hid (K5.out.below hb6)
               have B6 := Lib.hid (below_call B5.out hb6))
            | (go_at_call 8; refine (HP3.out _).mono ?_; rintro _ w7 ⟨p7, cap7, rfl, hp7, hb7⟩; clear HP3
               obtain ⟨d0, d1, _, _⟩ := blk2 ((K6.out.below hb7).alloc (.cells #[.string T2, .slice p7 N2 cap7] 25))
               have V7 := Lib.hid ((V6.out.below hb7).below (al w7 (.cells #[.string T2, .slice p7 N2 cap7] 25)))
               have Y7 := Lib.hid (hp7.below (al w7 (.cells #[.string T2, .slice p7 N2 cap7] 25)))
               have B7 := Lib.hid (below_call (below_call B6.out hb7) (al w7 (.cells #[.string T2, .slice p7 N2 cap7] 25))))
            | (go_at_call 12; refine (HS2.out _ _ _ V7.out Y7.out).mono ?_; rintro _ w8 ⟨rfl, hb8⟩; clear HS2
               have B8 := Lib.hid (below_call B7.out hb8))
            | (go_at_call 7; refine (HW.out _).mono ?_; rintro _ w9 ⟨rfl, hb9⟩))
          go_ret
          exact ⟨rfl, below_call B8.out hb9⟩
        | true =>
          obtain ⟨A, hA⟩ : ∃ A, str (text m) = A := ⟨_, rfl⟩
          have HX1 : Hid (∀ (w : World) (u : Value), Prs w u m.2 → Calls Try.prog 18 #[.agg #[.string T, u]] w fun e w' => e = .returned (.tuple #[.string A, .int .i64 0]) ∧ Below w.heap.size w w') := Lib.hid fun w u h => by
            have := text_some hok u w h hb.1 (by have := hb.2; omega)
            rwa [hA, hT] at this
          have HP1 : Hid (∀ w, Calls Try.prog 8 #[.string A] w fun e w' => ∃ p cap, e = .returned (.tuple #[.agg #[.string T, .slice p N cap], .int .i64 0]) ∧ Prs w' (.slice p N cap) m.2 ∧ Below w.heap.size w w') := Lib.hid fun w => by
            have := parse_some (parse_text hok) (by have := text_len m; omega) w
            rw [hA] at this
            unfold PSome at this
            rwa [hT, hN] at this
          have HP2 : Hid (∀ w, Calls Try.prog 8 #[.string s] w fun e w' => ∃ p cap, e = .returned (.tuple #[.agg #[.string T2, .slice p N2 cap], .int .i64 0]) ∧ Prs w' (.slice p N2 cap) m2.2 ∧ Below w.heap.size w w') := Lib.hid fun w => by
            have := parse_some hr (by omega) w
            rw [hl] at this
            unfold PSome at this
            rwa [hT2, hN2] at this
          have HX2 : Hid (∀ (w : World) (u : Value), Prs w u m2.2 → Calls Try.prog 18 #[.agg #[.string T2, u]] w fun e w' => e = .returned (.tuple #[.string A2, .int .i64 0]) ∧ Below w.heap.size w w') := Lib.hid fun w u h => by
            have := text_some hok2 u w h (by omega) (by omega)
            rwa [hA2, hT2] at this
          have HP3 : Hid (∀ w, Calls Try.prog 8 #[.string A2] w fun e w' => ∃ p cap, e = .returned (.tuple #[.agg #[.string T2, .slice p N2 cap], .int .i64 0]) ∧ Prs w' (.slice p N2 cap) m2.2 ∧ Below w.heap.size w w') := Lib.hid fun w => by
            have := parse_some (parse_text hok2) (by have := text_len m2; omega) w
            rw [hA2] at this
            unfold PSome at this
            rwa [hT2, hN2] at this
          have HS2 : Hid (∀ (w : World) (u u' : Value), Prs w u m2.2 → Prs w u' m2.2 → Calls Try.prog 12 #[.agg #[.string T2, u], .agg #[.string T2, u']] w fun e w' => e = .returned (.bool true) ∧ Below w.heap.size w w') := Lib.hid fun w u u' h h' => by
            have := rsame_self m2 u u' w h h' (by omega)
            rwa [hT2] at this
          have hne : A2.toList.isEmpty = false := by
            have := text_ne hok2
            rw [← hA2, toList_str]
            cases hx : text m2 with
            | nil => exact absurd hx this
            | cons c t => rfl
          clear hok hok2 hr hl hll hb hT hN hA
          clear hT2 hN2 hA2 hb2 hb2c
          go_enter Try.func5, Try.ntmps5
          go_wp2_with (first
            | (go_at_call 17; refine (HG.out _ _ HU.out).mono ?_; rintro _ w1 ⟨rfl, hb1⟩; clear HG
               obtain ⟨a0, a1, _, _⟩ := blk2 (HK.out.below hb1)
               have K1 := Lib.hid (HK.out.below hb1)
               have U1 := Lib.hid (HU.out.below hb1)
               have B1 := Lib.hid (below_call HB0.out hb1))
            | (go_at_call 18; refine (HX1.out _ _ U1.out).mono ?_; rintro _ w2 ⟨rfl, hb2⟩; clear HX1
               obtain ⟨b0, b1, _, _⟩ := blk2 (K1.out.below hb2)
               have K2 := Lib.hid (K1.out.below hb2)
               have U2 := Lib.hid (U1.out.below hb2)
               have B2 := Lib.hid (below_call B1.out hb2))
            | (go_at_call 8; refine (HP1.out _).mono ?_; rintro _ w3 ⟨p3, cap3, rfl, hp3, hb3⟩; clear HP1
               obtain ⟨c0, c1, _, _⟩ := blk2 ((K2.out.below hb3).alloc (.cells #[.string T, .slice p3 N cap3] 25))
               have U3 := Lib.hid ((U2.out.below hb3).below (al w3 (.cells #[.string T, .slice p3 N cap3] 25)))
               have V3 := Lib.hid (hp3.below (al w3 (.cells #[.string T, .slice p3 N cap3] 25)))
               have B3 := Lib.hid (below_call (below_call B2.out hb3) (al w3 (.cells #[.string T, .slice p3 N cap3] 25))))
            | (go_at_call 12; refine (HS1.out _ _ _ V3.out U3.out).mono ?_; rintro _ w4 ⟨rfl, hb4⟩; clear HS1
               have B4 := Lib.hid (below_call B3.out hb4))
            | (go_at_call 8; refine (HP2.out _).mono ?_; rintro _ w5 ⟨p5, cap5, rfl, hp5, hb5⟩; clear HP2
               have V5 := Lib.hid (hp5.below (al w5 (.cells #[.string T2, .slice p5 N2 cap5] 25)))
               have K5 := Lib.hid (Blk.new w5 #[.string T2, .slice p5 N2 cap5] 25)
               have B5 := Lib.hid (below_call (below_call B4.out hb5) (al w5 (.cells #[.string T2, .slice p5 N2 cap5] 25))))
            | (go_at_call 18; refine (HX2.out _ _ V5.out).mono ?_; rintro _ w6 ⟨rfl, hb6⟩; clear HX2
               have V6 := Lib.hid (V5.out.below hb6)
               have K6 := Lib.hid (K5.out.below hb6)
               have B6 := Lib.hid (below_call B5.out hb6))
            | (go_at_call 8; refine (HP3.out _).mono ?_; rintro _ w7 ⟨p7, cap7, rfl, hp7, hb7⟩; clear HP3
               obtain ⟨d0, d1, _, _⟩ := blk2 ((K6.out.below hb7).alloc (.cells #[.string T2, .slice p7 N2 cap7] 25))
               have V7 := Lib.hid ((V6.out.below hb7).below (al w7 (.cells #[.string T2, .slice p7 N2 cap7] 25)))
               have Y7 := Lib.hid (hp7.below (al w7 (.cells #[.string T2, .slice p7 N2 cap7] 25)))
               have B7 := Lib.hid (below_call (below_call B6.out hb7) (al w7 (.cells #[.string T2, .slice p7 N2 cap7] 25))))
            | (go_at_call 12; refine (HS2.out _ _ _ V7.out Y7.out).mono ?_; rintro _ w8 ⟨rfl, hb8⟩; clear HS2
               have B8 := Lib.hid (below_call B7.out hb8))
            | (go_at_call 7; refine (HW.out _).mono ?_; rintro _ w9 ⟨rfl, hb9⟩))
          go_ret
          exact ⟨rfl, below_call B8.out hb9⟩
    · have hd : decide ((3000 : Int) < (s.size : Int)) = true := by simp; omega
      clear HS1 hN hT hb
      go_enter Try.func5, Try.ntmps5
      go_wp2_with (first
        | (go_at_call 17; refine (HG.out _ _ HU.out).mono ?_; rintro _ w1 ⟨rfl, hb1⟩; clear HG)
        | (go_at_call 7; refine (HW.out _).mono ?_; rintro _ w9 ⟨rfl, hb9⟩))
      go_ret
      exact ⟨rfl, below_call (below_call HB0.out hb1) hb9⟩
end Go.Proofs.Ytgadpoahjlnheaa.Med
