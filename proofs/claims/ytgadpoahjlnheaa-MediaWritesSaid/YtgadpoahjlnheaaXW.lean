/- The walk of MediaWrites. -/
import Derived.Test.YtgadpoahjlnheaaXB
import Derived.Test.YtgadpoahjlnheaaTR
import Derived.Test.YtgadpoahjlnheaaSE
namespace Go.Proofs.Ytgadpoahjlnheaa.Med
open Go.RowKit
set_option linter.unusedVariables false
set_option linter.unusedSimpArgs false
open Lab (RetS ret_str str str_size str_list str_eta str_inj u8v st_ixb info5 info_parts)
set_option maxRecDepth 100000 in
set_option maxHeartbeats 8000000 in
theorem writes_walk (m n : Med) (u v : Value) (w : World) (hu : Prs w u m.2) (hv : Prs w v n.2) (htm : m.1.length ≤ 1000000000000000) (hlm : m.2.length ≤ 1000000000000000) (hpm : ∀ q ∈ m.2, q.1.length ≤ 1000000000000000 ∧ q.2.length ≤ 1000000000000000)
    (htn : n.1.length ≤ 1000000000000000) (hln : n.2.length ≤ 1000000000000000) (hpn : ∀ q ∈ n.2, q.1.length ≤ 1000000000000000 ∧ q.2.length ≤ 1000000000000000) :
    Calls Try.prog 4 #[.agg #[.string (str m.1), u], .agg #[.string (str n.1), v]] w fun e w' => RetB true w e w' := by
  obtain ⟨p0, cap0, rfl⟩ := hu.form
  obtain ⟨p1, cap1, rfl⟩ := hv.form
  have HW := Lib.hid wakes_any
  have HGm : Hid (∀ (w : World) (u : Value), Prs w u m.2 → Calls Try.prog 17 #[.agg #[.string (str m.1), u]] w fun e w' => RetB (grt m) w e w') := Lib.hid fun w u h => great_any m u w h htm hlm hpm
  have HGn : Hid (∀ (w : World) (u : Value), Prs w u n.2 → Calls Try.prog 17 #[.agg #[.string (str n.1), u]] w fun e w' => RetB (grt n) w e w') := Lib.hid fun w u h => great_any n u w h htn hln hpn
  have HB0 : Hid (Below w.heap.size w ((w.alloc (.cells #[.string (str m.1), .slice p0 m.2.length cap0] 25)).alloc (.cells #[.string (str n.1), .slice p1 n.2.length cap1] 25))) := Lib.hid (((Below.refl _ w).alloc (Nat.le_refl _) _).alloc (by simp) _)
  have HU := Lib.hid (hu.below HB0.out)
  have HV := Lib.hid (hv.below HB0.out)
  have HK := Lib.hid ((Blk.new w #[.string (str m.1), .slice p0 m.2.length cap0] 25).alloc (.cells #[.string (str n.1), .slice p1 n.2.length cap1] 25))
  have HJ := Lib.hid (Blk.new' (n := w.heap.size + 1) (w.alloc (.cells #[.string (str m.1), .slice p0 m.2.length cap0] 25)) #[.string (str n.1), .slice p1 n.2.length cap1] 25 (by simp))
  have H18 : Hid (tot m ≤ 3000 → m.2.length ≤ 60 → ∀ (u : Value) (w : World), Prs w u m.2 → Calls Try.prog 18 #[.agg #[.string (str m.1), u]] w fun e w' => TextE m w e w') := Lib.hid fun h1 h2 u w h => text_any m u w h h1 (by omega)
  have H19 : Hid (tot m ≤ 3000 → m.2.length ≤ 60 → ∀ (u : Value) (w : World), Prs w u m.2 → Calls Try.prog 19 #[.agg #[.string (str m.1), u]] w fun e w' => TextE m w e w') := Lib.hid fun h1 h2 u w h => rtext_any m u w h h1 (by omega)
  have H20 : Hid (∀ (u v : Value) (w : World), Prs w u m.2 → Prs w v n.2 → Calls Try.prog 20 #[.agg #[.string (str m.1), u], .agg #[.string (str n.1), v]] w fun e w' => e = .returned (.bool (decide (m = n))) ∧ Below w.heap.size w w') := Lib.hid fun u v w h1 h2 => same_any m n u v w h1 h2 (by unfold maxLen; omega)
  have H12 : Hid (∀ (u v : Value) (w : World), Prs w u m.2 → Prs w v n.2 → Calls Try.prog 12 #[.agg #[.string (str m.1), u], .agg #[.string (str n.1), v]] w fun e w' => e = .returned (.bool (decide (m = n))) ∧ Below w.heap.size w w') := Lib.hid fun u v w h1 h2 => rsame_any m n u v w h1 h2 (by unfold maxLen; omega)
  have H13 : Hid (∀ (u : Value) (w : World), Prs w u m.2 → Calls Try.prog 13 #[.agg #[.string (str m.1), u]] w fun e w' => RetB (xml m.1) w e w') := Lib.hid fun u w h => xml_any m u w h.slc (by unfold maxLen; omega)
  have H14 : Hid (∀ (u : Value) (w : World), Prs w u m.2 → Calls Try.prog 14 #[.agg #[.string (str m.1), u]] w fun e w' => RetB (xml m.1) w e w') := Lib.hid fun u w h => rxml_any m u w h.slc (by unfold maxLen; omega)
  clear hu hv htm hlm hpm htn hln hpn
  obtain ⟨D, hD⟩ : ∃ D, decide (m = n) = D := ⟨_, rfl⟩
  obtain ⟨X, hX⟩ : ∃ X, xml m.1 = X := ⟨_, rfl⟩
  rw [hD] at H20 H12
  rw [hX] at H13 H14
  obtain ⟨T, hT⟩ : ∃ T, str m.1 = T := ⟨_, rfl⟩
  obtain ⟨S, hS⟩ : ∃ S, str n.1 = S := ⟨_, rfl⟩
  obtain ⟨N, hN⟩ : ∃ N, m.2.length = N := ⟨_, rfl⟩
  obtain ⟨K, hK⟩ : ∃ K, n.2.length = K := ⟨_, rfl⟩
  rw [hT, hS, hN, hK] at HB0 HU HV HK HJ
  rw [hT] at HGm H18 H19 H13 H14
  rw [hS] at HGn
  rw [hT, hS] at H20 H12
  rw [hT, hS, hN, hK]
  obtain ⟨g, hg⟩ : ∃ g, grt m = g := ⟨_, rfl⟩
  obtain ⟨f, hf⟩ : ∃ f, grt n = f := ⟨_, rfl⟩
  rw [hg] at HGm
  rw [hf] at HGn
  cases g with
  | true =>
    clear hg hf hN hT hS hK hD hX
    go_enter Try.func4, Try.ntmps4
    go_wp2_with (first
      | (go_at_call 17; refine (HGm.out _ _ HU.out).mono ?_; rintro _ w1 ⟨rfl, hb1⟩; clear HGm)
      | (go_at_call 7; refine (HW.out _).mono ?_; rintro _ w9 ⟨rfl, hb9⟩))
    go_ret
    exact ⟨rfl, below_call (below_call HB0.out hb1) hb9⟩
  | false =>
    have hb := grt_not hg
    cases f with
    | true =>
      clear hg hf hN hT hS hK hD hX hb
      go_enter Try.func4, Try.ntmps4
      go_wp2_with (first
        | (go_at_call 17; refine (HGm.out _ _ HU.out).mono ?_; rintro _ w1 ⟨rfl, hb1⟩; clear HGm
           obtain ⟨a0, a1, _, _⟩ := blk2 (HJ.out.below hb1)
           have V1 := Lib.hid (HV.out.below hb1))
        | (go_at_call 17; refine (HGn.out _ _ V1.out).mono ?_; rintro _ w2 ⟨rfl, hb2⟩; clear HGn)
        | (go_at_call 7; refine (HW.out _).mono ?_; rintro _ w9 ⟨rfl, hb9⟩))
      go_ret
      exact ⟨rfl, below_call (below_call (below_call HB0.out hb1) hb2) hb9⟩
    | false =>
      obtain ⟨A, hA⟩ : ∃ A, str (textR m) = A := ⟨_, rfl⟩
      obtain ⟨E, hE⟩ : ∃ E, textX m = E := ⟨_, rfl⟩
      have G18 : Hid (∀ (u : Value) (w : World), Prs w u m.2 → Calls Try.prog 18 #[.agg #[.string T, u]] w fun e w' => e = .returned (.tuple #[.string A, .int .i64 E]) ∧ Below w.heap.size w w') := Lib.hid fun u w h => by
        have := H18.out hb.1 hb.2 u w h
        unfold TextE at this
        rwa [hA, hE] at this
      have G19 : Hid (∀ (u : Value) (w : World), Prs w u m.2 → Calls Try.prog 19 #[.agg #[.string T, u]] w fun e w' => e = .returned (.tuple #[.string A, .int .i64 E]) ∧ Below w.heap.size w w') := Lib.hid fun u w h => by
        have := H19.out hb.1 hb.2 u w h
        unfold TextE at this
        rwa [hA, hE] at this
      clear hg hf hN hT hS hK hD hX hb hA hE H18 H19
      go_enter Try.func4, Try.ntmps4
      go_wp2_with (first
        | (go_at_call 17; refine (HGm.out _ _ HU.out).mono ?_; rintro _ w1 ⟨rfl, hb1⟩; clear HGm
           obtain ⟨a0, a1, _, _⟩ := blk2 (HJ.out.below hb1)
           have V1 := Lib.hid (HV.out.below hb1))
        | (go_at_call 17; refine (HGn.out _ _ V1.out).mono ?_; rintro _ w2 ⟨rfl, hb2⟩; clear HGn
           have B2 := Lib.hid (below_call (below_call HB0.out hb1) hb2)
           have K2 := Lib.hid ((HK.out.below hb1).below hb2)
           have J2 := Lib.hid ((HJ.out.below hb1).below hb2)
           have U2 := Lib.hid ((HU.out.below hb1).below hb2)
           have V2 := Lib.hid ((HV.out.below hb1).below hb2)
           obtain ⟨b0, b1, _, _⟩ := blk2 K2.out)
        | (go_at_call 18; refine (G18.out _ _ U2.out).mono ?_; rintro _ w3 ⟨rfl, hb3⟩; clear G18
           have B3 := Lib.hid (below_call B2.out hb3)
           have K3 := Lib.hid (K2.out.below hb3)
           have J3 := Lib.hid (J2.out.below hb3)
           have U3 := Lib.hid (U2.out.below hb3)
           have V3 := Lib.hid (V2.out.below hb3)
           obtain ⟨c0, c1, _, _⟩ := blk2 K3.out)
        | (go_at_call 19; refine (G19.out _ _ U3.out).mono ?_; rintro _ w4 ⟨rfl, hb4⟩; clear G19
           have B4 := Lib.hid (below_call B3.out hb4)
           have K4 := Lib.hid (K3.out.below hb4)
           have J4 := Lib.hid (J3.out.below hb4)
           have U4 := Lib.hid (U3.out.below hb4)
           have V4 := Lib.hid (V3.out.below hb4)))
      have HKP : Hid (∀ W, Below w4.heap.size w4 W → (W.cell? ⟨w.heap.size, 0, none⟩ = some (.string T) ∧ W.cell? ⟨w.heap.size, 1, none⟩ = some (.slice p0 N cap0)) ∧ (W.cell? ⟨w.heap.size + 1, 0, none⟩ = some (.string S) ∧ W.cell? ⟨w.heap.size + 1, 1, none⟩ = some (.slice p1 K cap1))) := Lib.hid fun W h => by
        obtain ⟨x0, x1, _, _⟩ := blk2 (K4.out.below h)
        obtain ⟨y0, y1, _, _⟩ := blk2 (J4.out.below h)
        exact ⟨⟨x0, x1⟩, y0, y1⟩
      have G20 : Hid (∀ W, Below w4.heap.size w4 W → Calls Try.prog 20 #[.agg #[.string T, .slice p0 N cap0], .agg #[.string S, .slice p1 K cap1]] W fun e w' => e = .returned (.bool D) ∧ Below w4.heap.size w4 w') := Lib.hid fun W h => (H20.out _ _ W (U4.out.below h) (V4.out.below h)).mono fun e w' hh => ⟨hh.1, below_call h hh.2⟩
      have G12 : Hid (∀ W, Below w4.heap.size w4 W → Calls Try.prog 12 #[.agg #[.string T, .slice p0 N cap0], .agg #[.string S, .slice p1 K cap1]] W fun e w' => e = .returned (.bool D) ∧ Below w4.heap.size w4 w') := Lib.hid fun W h => (H12.out _ _ W (U4.out.below h) (V4.out.below h)).mono fun e w' hh => ⟨hh.1, below_call h hh.2⟩
      have G13 : Hid (∀ W, Below w4.heap.size w4 W → Calls Try.prog 13 #[.agg #[.string T, .slice p0 N cap0]] W fun e w' => e = .returned (.bool X) ∧ Below w4.heap.size w4 w') := Lib.hid fun W h => (H13.out _ W (U4.out.below h)).mono fun e w' hh => ⟨hh.1, below_call h hh.2⟩
      have G14 : Hid (∀ W, Below w4.heap.size w4 W → Calls Try.prog 14 #[.agg #[.string T, .slice p0 N cap0]] W fun e w' => e = .returned (.bool X) ∧ Below w4.heap.size w4 w') := Lib.hid fun W h => (H14.out _ W (U4.out.below h)).mono fun e w' hh => ⟨hh.1, below_call h hh.2⟩
      have G7 : Hid (∀ W, Below w4.heap.size w4 W → Calls Try.prog 7 #[] W fun e w' => e = .returned (.bool true) ∧ Below w4.heap.size w4 w') := Lib.hid fun W h => (HW.out W).mono fun e w' hh => ⟨hh.1, below_call h hh.2⟩
      have hr0 : Below w4.heap.size w4 w4.drew := (Below.refl _ _).drew
      clear H12 H13 H14 H20 HW
      go_region_held3 (fun wx => (wx.cell? ⟨w.heap.size, 0, none⟩ = some (.string T) ∧ wx.cell? ⟨w.heap.size, 1, none⟩ = some (.slice p0 N cap0)) ∧ (wx.cell? ⟨w.heap.size + 1, 0, none⟩ = some (.string S) ∧ wx.cell? ⟨w.heap.size + 1, 1, none⟩ = some (.slice p1 K cap1)))
        (first
          | exact HKP.out _ (Below.refl _ _)
          | exact HKP.out _ hr0
          | exact HKP.out _ hg5
          | exact HKP.out _ hg6
          | exact HKP.out _ hg7
          | exact HKP.out _ hg8
          | exact HKP.out _ hg9)
        (first
          | (go_at_call 20; refine (G20.out _ hr0).mono ?_; rintro _ w5 ⟨rfl, hg5⟩)
          | (go_at_call 12; refine (G12.out _ hg5).mono ?_; rintro _ w6 ⟨rfl, hg6⟩)
          | (go_at_call 13; refine (G13.out _ hg6).mono ?_; rintro _ w7 ⟨rfl, hg7⟩)
          | (go_at_call 14; refine (G14.out _ hg7).mono ?_; rintro _ w8 ⟨rfl, hg8⟩)
          | (go_at_call 7; refine (G7.out _ hg8).mono ?_; rintro _ w9 ⟨rfl, hg9⟩))
      all_goals
        go_wp2_with fail
        go_ret
        exact ⟨rfl, below_call B4.out hg9⟩
end Go.Proofs.Ytgadpoahjlnheaa.Med
