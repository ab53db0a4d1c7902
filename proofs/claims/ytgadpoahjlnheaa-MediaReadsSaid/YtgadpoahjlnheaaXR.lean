/- The walk of MediaReads. -/
import Derived.Test.YtgadpoahjlnheaaX
import Derived.Test.YtgadpoahjlnheaaPB
namespace Go.Proofs.Ytgadpoahjlnheaa.Med
open Go.RowKit
set_option linter.unusedVariables false
set_option linter.unusedSimpArgs false
open Lab (RetS ret_str str str_size str_list str_eta str_inj u8v st_ixb info5 info_parts)
set_option maxRecDepth 100000 in
set_option maxHeartbeats 8000000 in
theorem reads_walk (s : ByteArray) (w : World) (hs0 : s.size ≤ maxLen) : Calls Try.prog 3 #[.string s] w fun e w' => RetB true w e w' := by
  have HW := Lib.hid wakes_any
  by_cases hs : s.size ≤ 3000
  · have hd : decide ((3000 : Int) < (s.size : Int)) = false := by simp; omega
    obtain ⟨l, hl⟩ : ∃ l, str l = s := ⟨s.data.toList, str_eta s⟩
    have hll : l.length ≤ 3000 := by rw [← str_size, hl]; exact hs
    obtain ⟨r, hr⟩ : ∃ r, parse l = r := ⟨_, rfl⟩
    have htot := medOf_tot l
    rw [hr] at htot
    obtain ⟨m, hm⟩ : ∃ m, r.getD ([], []) = m := ⟨_, rfl⟩
    have hm' : medOf r = m := hm
    rw [hm] at htot
    obtain ⟨E, hE⟩ : ∃ E, errOf r = E := ⟨_, rfl⟩
    obtain ⟨T, hT⟩ : ∃ T, str m.1 = T := ⟨_, rfl⟩
    obtain ⟨N, hN⟩ : ∃ N, m.2.length = N := ⟨_, rfl⟩
    have P1 : Hid (∀ w, Calls Try.prog 8 #[.string s] w fun e w' => ∃ p cap, e = .returned (.tuple #[.agg #[.string T, .slice p N cap], .int .i64 E]) ∧ Prs w' (.slice p N cap) m.2 ∧ Below w.heap.size w w') := Lib.hid fun w => by
      have := parse_str l w (by omega)
      unfold ParseU at this
      rwa [hr, hl, hm', hE, hT, hN] at this
    have P2 : Hid (∀ w, Calls Try.prog 9 #[.string s] w fun e w' => ∃ p cap, e = .returned (.tuple #[.agg #[.string T, .slice p N cap], .int .i64 E]) ∧ Prs w' (.slice p N cap) m.2 ∧ Below w.heap.size w w') := Lib.hid fun w => by
      have := (rparse_any l w (by omega)).mono fun e w' h => h.un
      unfold ParseU at this
      rwa [hr, hl, hm', hE, hT, hN] at this
    have hN3 : m.2.length ≤ maxLen := by unfold maxLen; omega
    have hT3 : m.1.length ≤ maxLen := by unfold tot at htot; unfold maxLen; omega
    obtain ⟨c, hc⟩ : ∃ c, chs m.2 = c := ⟨_, rfl⟩
    obtain ⟨C1, hC1⟩ : ∃ C, str c.1 = C := ⟨_, rfl⟩
    obtain ⟨C2, hC2⟩ : ∃ C, c.2 = C := ⟨_, rfl⟩
    have H10 : Hid (∀ (u : Value) (w : World), Prs w u m.2 → Calls Try.prog 10 #[.agg #[.string T, u]] w fun e w' => e = .returned (.tuple #[.string C1, .bool C2]) ∧ Below w.heap.size w w') := Lib.hid fun u w h => by
      have := charset_any m u w h hN3
      unfold ChE at this
      rwa [hc, hC1, hC2, hT] at this
    have H11 : Hid (∀ (u : Value) (w : World), Prs w u m.2 → Calls Try.prog 11 #[.agg #[.string T, u]] w fun e w' => e = .returned (.tuple #[.string C1, .bool C2]) ∧ Below w.heap.size w w') := Lib.hid fun u w h => by
      have := rcharset_any m u w h hN3
      unfold ChE at this
      rwa [hc, hC1, hC2, hT] at this
    obtain ⟨X, hX⟩ : ∃ X, xml m.1 = X := ⟨_, rfl⟩
    have H13 : Hid (∀ (u : Value) (w : World), Prs w u m.2 → Calls Try.prog 13 #[.agg #[.string T, u]] w fun e w' => e = .returned (.bool X) ∧ Below w.heap.size w w') := Lib.hid fun u w h => by
      have := xml_any m u w h.slc hT3
      unfold RetB at this
      rwa [hX, hT] at this
    have H14 : Hid (∀ (u : Value) (w : World), Prs w u m.2 → Calls Try.prog 14 #[.agg #[.string T, u]] w fun e w' => e = .returned (.bool X) ∧ Below w.heap.size w w') := Lib.hid fun u w h => by
      have := rxml_any m u w h.slc hT3
      unfold RetB at this
      rwa [hX, hT] at this
    have H12 : Hid (∀ (u u' : Value) (w : World), Prs w u m.2 → Prs w u' m.2 → Calls Try.prog 12 #[.agg #[.string T, u], .agg #[.string T, u']] w fun e w' => e = .returned (.bool true) ∧ Below w.heap.size w w') := Lib.hid fun u u' w h h' => by
      have := rsame_any m m u u' w h h' hN3
      rw [hT] at this
      simpa using this
    obtain ⟨L, hL⟩ : ∃ L, str (lwr l) = L := ⟨_, rfl⟩
    have H15 : Hid (∀ (w : World), Calls Try.prog 15 #[.string s] w fun e w' => e = .returned (.string L) ∧ Below w.heap.size w w') := Lib.hid fun w => by
      have := mlower_any s w hs0
      unfold RetS at this
      rwa [← hl, str_list, hL, hl] at this
    have H16 : Hid (∀ (w : World), Calls Try.prog 16 #[.string s] w fun e w' => e = .returned (.string L) ∧ Below w.heap.size w w') := Lib.hid fun w => by
      have := rlower_any s w hs0
      unfold RetS at this
      rwa [← hl, str_list, hL, hl] at this
    clear hr hl hll htot hm hm' hE hT hN hN3 hT3 hc hC1 hC2 hX hL
    go_enter Try.func3, Try.ntmps3
    go_wp2_with (first
      | (go_at_call 8; refine (P1.out _).mono ?_; rintro _ w1 ⟨p3, cap3, rfl, hp3, hb1⟩; clear P1
         have B1 := Lib.hid (below_call hb1 (al w1 (.cells #[.string T, .slice p3 N cap3] 25)))
         have U1 := Lib.hid (hp3.below (al w1 (.cells #[.string T, .slice p3 N cap3] 25))))
      | (go_at_call 9; refine (P2.out _).mono ?_; rintro _ w2 ⟨p5, cap5, rfl, hp5, hb2⟩; clear P2
         have B2 := Lib.hid (below_call (below_call B1.out hb2) (al w2 (.cells #[.string T, .slice p5 N cap5] 25)))
         have U2 := Lib.hid ((U1.out.below hb2).below (al w2 (.cells #[.string T, .slice p5 N cap5] 25)))
         have V2 := Lib.hid (hp5.below (al w2 (.cells #[.string T, .slice p5 N cap5] 25)))
         have K2 := Lib.hid (((Blk.new w1 #[.string T, .slice p3 N cap3] 25).below hb2).alloc (.cells #[.string T, .slice p5 N cap5] 25))
         have J2 := Lib.hid (Blk.new w2 #[.string T, .slice p5 N cap5] 25)
         obtain ⟨a0, a1, _, _⟩ := blk2 K2.out)
      | (go_at_call 10; refine (H10.out _ _ U2.out).mono ?_; rintro _ w3 ⟨rfl, hb3⟩; clear H10
         have B3 := Lib.hid (below_call B2.out hb3)
         have U3 := Lib.hid (U2.out.below hb3)
         have V3 := Lib.hid (V2.out.below hb3)
         have K3 := Lib.hid (K2.out.below hb3)
         have J3 := Lib.hid (J2.out.below hb3)
         obtain ⟨b0, b1, _, _⟩ := blk2 J3.out)
      | (go_at_call 11; refine (H11.out _ _ V3.out).mono ?_; rintro _ w4 ⟨rfl, hb4⟩; clear H11
         have B4 := Lib.hid (below_call B3.out hb4)
         have U4 := Lib.hid (U3.out.below hb4)
         have V4 := Lib.hid (V3.out.below hb4)
         have K4 := Lib.hid (K3.out.below hb4)
         have J4 := Lib.hid (J3.out.below hb4)))
    have HKP : Hid (∀ W, Below w4.heap.size w4 W → (W.cell? ⟨w1.heap.size, 0, none⟩ = some (.string T) ∧ W.cell? ⟨w1.heap.size, 1, none⟩ = some (.slice p3 N cap3)) ∧ (W.cell? ⟨w2.heap.size, 0, none⟩ = some (.string T) ∧ W.cell? ⟨w2.heap.size, 1, none⟩ = some (.slice p5 N cap5))) := Lib.hid fun W h => by
      obtain ⟨x0, x1, _, _⟩ := blk2 (K4.out.below h)
      obtain ⟨y0, y1, _, _⟩ := blk2 (J4.out.below h)
      exact ⟨⟨x0, x1⟩, y0, y1⟩
    have G12 : Hid (∀ W, Below w4.heap.size w4 W → Calls Try.prog 12 #[.agg #[.string T, .slice p3 N cap3], .agg #[.string T, .slice p5 N cap5]] W fun e w' => e = .returned (.bool true) ∧ Below w4.heap.size w4 w') := Lib.hid fun W h => (H12.out _ _ W (U4.out.below h) (V4.out.below h)).mono fun e w' hh => ⟨hh.1, below_call h hh.2⟩
    have G13 : Hid (∀ W, Below w4.heap.size w4 W → Calls Try.prog 13 #[.agg #[.string T, .slice p3 N cap3]] W fun e w' => e = .returned (.bool X) ∧ Below w4.heap.size w4 w') := Lib.hid fun W h => (H13.out _ W (U4.out.below h)).mono fun e w' hh => ⟨hh.1, below_call h hh.2⟩
    have G14 : Hid (∀ W, Below w4.heap.size w4 W → Calls Try.prog 14 #[.agg #[.string T, .slice p5 N cap5]] W fun e w' => e = .returned (.bool X) ∧ Below w4.heap.size w4 w') := Lib.hid fun W h => (H14.out _ W (V4.out.below h)).mono fun e w' hh => ⟨hh.1, below_call h hh.2⟩
    have G15 : Hid (∀ W, Below w4.heap.size w4 W → Calls Try.prog 15 #[.string s] W fun e w' => e = .returned (.string L) ∧ Below w4.heap.size w4 w') := Lib.hid fun W h => (H15.out W).mono fun e w' hh => ⟨hh.1, below_call h hh.2⟩
    have G16 : Hid (∀ W, Below w4.heap.size w4 W → Calls Try.prog 16 #[.string s] W fun e w' => e = .returned (.string L) ∧ Below w4.heap.size w4 w') := Lib.hid fun W h => (H16.out W).mono fun e w' hh => ⟨hh.1, below_call h hh.2⟩
    have G7 : Hid (∀ W, Below w4.heap.size w4 W → Calls Try.prog 7 #[] W fun e w' => e = .returned (.bool true) ∧ Below w4.heap.size w4 w') := Lib.hid fun W h => (HW.out W).mono fun e w' hh => ⟨hh.1, below_call h hh.2⟩
    have hr0 : Below w4.heap.size w4 w4.drew := (Below.refl _ _).drew
    clear H12 H13 H14 H15 H16 HW
    go_region_held3 (fun wx => (wx.cell? ⟨w1.heap.size, 0, none⟩ = some (.string T) ∧ wx.cell? ⟨w1.heap.size, 1, none⟩ = some (.slice p3 N cap3)) ∧ (wx.cell? ⟨w2.heap.size, 0, none⟩ = some (.string T) ∧ wx.cell? ⟨w2.heap.size, 1, none⟩ = some (.slice p5 N cap5)))
      (first
        | exact HKP.out _ (Below.refl _ _)
        | exact HKP.out _ hr0
        | exact HKP.out _ hg5
        | exact HKP.out _ hg6
        | exact HKP.out _ hg7
        | exact HKP.out _ hg8
        | exact HKP.out _ hg9
        | exact HKP.out _ hg10)
      (first
        | (go_at_call 12; refine (G12.out _ hr0).mono ?_; rintro _ w5 ⟨rfl, hg5⟩)
        | (go_at_call 13; refine (G13.out _ hg5).mono ?_; rintro _ w6 ⟨rfl, hg6⟩)
        | (go_at_call 14; refine (G14.out _ hg6).mono ?_; rintro _ w7 ⟨rfl, hg7⟩)
        | (go_at_call 15; refine (G15.out _ hg7).mono ?_; rintro _ w8 ⟨rfl, hg8⟩)
        | (go_at_call 16; refine (G16.out _ hg8).mono ?_; rintro _ w9 ⟨rfl, hg9⟩)
        | (go_at_call 7; refine (G7.out _ hg9).mono ?_; rintro _ w10 ⟨rfl, hg10⟩))
    all_goals
      go_wp2_with fail
      go_ret
      exact ⟨rfl, below_call B4.out hg10⟩
  · have hd : decide ((3000 : Int) < (s.size : Int)) = true := by simp; omega
    go_enter Try.func3, Try.ntmps3
    go_wp2_with (go_at_call 7; refine (HW.out _).mono ?_; rintro _ w9 ⟨rfl, hb9⟩)
    go_ret
    exact ⟨rfl, hb9⟩
end Go.Proofs.Ytgadpoahjlnheaa.Med
