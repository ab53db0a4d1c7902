/- The contracts of slices.Equal of parameters and of Same. -/
import Derived.Test.YtgadpoahjlnheaaU
namespace Go.Proofs.Ytgadpoahjlnheaa.Med
open Go.RowKit
set_option linter.unusedVariables false
set_option linter.unusedSimpArgs false
open Lab (RetS ret_str str str_size str_list str_eta str_inj u8v st_ixb info5 info_parts)
set_option maxHeartbeats 2000000 in
theorem equal_any (ps qs : List Par) (u u' : Value) (w : World) (hu : Prs w u ps) (hu' : Prs w u' qs) (hl : ps.length ≤ maxLen) :
    Calls Try.prog 34 #[u, u'] w fun e w' => e = .returned (.bool (decide (ps = qs))) ∧ Below w.heap.size w w' := by
  obtain ⟨p, cap, rfl⟩ := hu.form
  obtain ⟨p', cap', rfl⟩ := hu'.form
  unfold maxLen at hl
  by_cases hn : ps.length = qs.length
  · have hnn : ((ps.length : Int) != (qs.length : Int)) = false := by simp; omega
    have HN := Lib.hid hn
    have hq := Lib.hid hu
    have hq' := Lib.hid hu'
    clear hu hu' hn
    have h48 := neq48
    have hg48 := guard48
    go_enter Try.func34, Try.ntmps34
    go_wp2_with fail
    go_loopg [13] (ps.length + 1) (fun g q wr => ∃ (k : Nat), k + g = ps.length + 1 ∧ q = .int .i64 k ∧ k ≤ ps.length ∧ Hid (eqTo ps qs k) ∧ Hid (Below w.heap.size w wr))
    case atStart => exact ⟨0, by omega, rfl, by omega, Lib.hid rfl, Lib.hid (Below.refl _ _)⟩
    case round =>
      obtain ⟨k, hkg, rfl, hk7, HE, HW⟩ := hrel
      have hq := Lib.hid (hq.out.below HW.out)
      have hq' := Lib.hid (hq'.out.below HW.out)
      by_cases hlt : k < ps.length
      · have hlt2 : k < qs.length := by have := HN.out; omega
        obtain ⟨b, off, rfl, hbl, x1, x2⟩ := (hq.out.at).2 k hlt
        obtain ⟨b', off', rfl, hbl', y1, y2⟩ := (hq'.out.at).2 k hlt2
        have hk0 : (0 : Int) ≤ (k : Int) := by omega
        have hk3 : (k : Int) < (ps.length : Int) := by omega
        have hk4 : (k : Int) < (qs.length : Int) := by omega
        by_cases he : ps[k] = qs[k]
        · have hd : decide (ps[k] ≠ qs[k]) = false := by simpa using he
          have HE2 := Lib.hid (eqTo_step HE.out hlt hlt2 he)
          clear he hbl hbl'
          go_wp2_with fail
          go_quiet (fail)
          go_wp2_with fail
          go_roundg (gk - 1)
          case measure => omega
          case rel => exact ⟨k + 1, by omega, by go_num, by omega, HE2, Lib.hid (below_draws HW.out _)⟩
        · have hd : decide (ps[k] ≠ qs[k]) = true := by simpa using he
          have HF : Hid (decide (ps = qs) = false) := Lib.hid (by
            simp only [decide_eq_false_iff_not]
            intro e2
            subst e2
            exact he rfl)
          clear he hbl hbl'
          go_wp2_with fail
          go_quiet (fail)
          go_wp2_with fail
          go_ret
          exact ⟨by rw [HF.out]; rfl, below_draws HW.out _⟩
      · have HF : Hid (decide (ps = qs) = true) := Lib.hid (by rw [eqTo_end HE.out HN.out hlt]; simp)
        go_wp2_with fail
        go_ret
        exact ⟨by rw [HF.out]; rfl, HW.out⟩
  · have hnn : ((ps.length : Int) != (qs.length : Int)) = true := by simp; omega
    have HF : Hid (decide (ps = qs) = false) := Lib.hid (by
      simp only [decide_eq_false_iff_not]
      intro e2
      subst e2
      exact hn rfl)
    clear hu hu' hn
    go_enter Try.func34, Try.ntmps34
    go_wp2_with fail
    go_ret
    exact ⟨by rw [HF.out]; rfl, Below.refl _ _⟩
set_option maxHeartbeats 2000000 in
theorem same_any (m m' : Med) (u u' : Value) (w : World) (hu : Prs w u m.2) (hu' : Prs w u' m'.2) (hl : m.2.length ≤ maxLen) :
    Calls Try.prog 20 #[.agg #[.string (str m.1), u], .agg #[.string (str m'.1), u']] w fun e w' => e = .returned (.bool (decide (m = m'))) ∧ Below w.heap.size w w' := by
  obtain ⟨p, cap, rfl⟩ := hu.form
  obtain ⟨p', cap', rfl⟩ := hu'.form
  obtain ⟨t, ps⟩ := m
  obtain ⟨t', qs⟩ := m'
  simp only at *
  have HB0 : Hid (Below w.heap.size w ((w.alloc (.cells #[.string (str t), .slice p ps.length cap] 25)).alloc (.cells #[.string (str t'), .slice p' qs.length cap'] 25))) := Lib.hid (((Below.refl _ w).alloc (Nat.le_refl _) _).alloc (by simp) _)
  have HQ := Lib.hid (equal_any ps qs _ _ _ (hu.below HB0.out) (hu'.below HB0.out) hl)
  clear hu hu' hl
  by_cases ht : t = t'
  · have htt : ((str t).toList == (str t').toList) = true := by rw [toList_str, toList_str]; simpa using ht
    have HF : Hid (decide ((t, ps) = (t', qs)) = decide (ps = qs)) := Lib.hid (by subst ht; simp)
    subst ht
    go_enter Try.func20, Try.ntmps20
    go_wp2_with (go_at_call 34; refine HQ.out.mono ?_; rintro _ w1 ⟨rfl, hb1⟩)
    go_ret
    exact ⟨by rw [HF.out]; rfl, below_call HB0.out hb1⟩
  · have htt : ((str t).toList == (str t').toList) = false := by rw [toList_str, toList_str]; simpa using ht
    have HF : Hid (decide ((t, ps) = (t', qs)) = false) := Lib.hid (by
      simp only [decide_eq_false_iff_not]
      intro e
      exact ht (congrArg Prod.fst e))
    clear ht HQ
    go_enter Try.func20, Try.ntmps20
    go_wp2_with fail
    go_ret
    exact ⟨by rw [HF.out]; rfl, HB0.out⟩
end Go.Proofs.Ytgadpoahjlnheaa.Med
