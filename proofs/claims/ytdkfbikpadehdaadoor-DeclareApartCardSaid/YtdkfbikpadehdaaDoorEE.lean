/- The contracts of the document's own Scan and Same. -/
import Derived.Test.YtdkfbikpadehdaaDoorED
namespace Go.Proofs.YtdkfbikpadehdaaDoor.Dec
open Go.RowKit
set_option linter.unusedVariables false
set_option linter.unusedSimpArgs false
open Lab (RetS ret_str str str_size str_list str_eta str_inj u8v info5 info_parts)
/-- What Scan tells. -/
def scanV (r : Option (List UInt8)) : Value := match r with
  | none => .tuple #[.string ⟨#[]⟩, .bool false]
  | some x => .tuple #[.string (str x), .bool true]
def ScanR (r : Option (List UInt8)) (w : World) (e : Ending) (w' : World) : Prop := e = .returned (scanV r) ∧ Below w.heap.size w w'
set_option maxHeartbeats 2000000 in
theorem rscan_any (l : List UInt8) (w : World) (hs : l.length ≤ maxLen) : Calls Tryd.prog 15 #[.string (str l)] w fun e w' => ScanR (scn l) w e w' := by
  have HPA : Hid (∀ w, Calls Tryd.prog 18 #[.string (str l)] w fun e w' => PartsR l w e w') := Lib.hid fun w => parts_any l w hs
  unfold PartsR at HPA
  unfold scn
  have hps := prts_len l
  obtain ⟨ps, hps'⟩ : ∃ ps, prts l = ps := ⟨_, rfl⟩
  rw [hps'] at HPA hps ⊢
  obtain ⟨s, hs'⟩ : ∃ s, str l = s := ⟨_, rfl⟩
  rw [hs'] at HPA ⊢
  clear hs' hs hps'
  unfold ScanR
  go_enter Tryd.func15, Tryd.ntmps15
  go_wp2_with (go_at_call 18; refine (HPA.out _).mono ?_; rintro _ W ⟨u, rfl, hq, hb⟩; clear HPA; obtain ⟨p, cap, rfl⟩ := hq.form)
  have HQ := Lib.hid hq
  have HB0 := Lib.hid hb
  clear hq hb
  go_loopg [5] (ps.length + 1) (fun g q wr => ∃ (k : Nat), k + g = ps.length + 1 ∧ W = wr ∧ q = .int .i64 k ∧ k ≤ ps.length ∧ Hid (fnd (ps.drop k) = fnd ps))
  case atStart => exact ⟨0, by omega, rfl, rfl, by omega, Lib.hid rfl⟩
  case round =>
    obtain ⟨k, hkg, hw, rfl, hk7, HE⟩ := hrel
    subst hw
    by_cases hlt : k < ps.length
    · obtain ⟨b, off, rfl, hbl, x1, x2⟩ := (HQ.out.at).2 k hlt
      have hk0 : (0 : Int) ≤ (k : Int) := by omega
      have hk3 : (k : Int) < (ps.length : Int) := by omega
      by_cases he : ps[k].1 = enc8
      · have ht : (str ps[k].1).toList = [101, 110, 99, 111, 100, 105, 110, 103] := by rw [toList_str, he]; rfl
        have HF := Lib.hid (HE.out.symm.trans (fnd_hit hlt he))
        clear he hbl
        go_wp2_with fail
        go_ret2
        exact ⟨by rw [HF.out]; rfl, HB0.out⟩
      · have ht : ((str ps[k].1).toList == [101, 110, 99, 111, 100, 105, 110, 103]) = false := by rw [toList_str]; simpa [enc8] using he
        have HF := Lib.hid ((fnd_miss hlt he).symm.trans HE.out)
        clear he hbl
        go_wp2_with fail
        go_roundg (gk - 1)
        case measure => omega
        case rel => exact ⟨k + 1, by omega, rfl, by go_num, by omega, HF⟩
    · have HF := Lib.hid (HE.out.symm.trans (fnd_out (by omega)))
      go_wp2_with fail
      go_ret2
      exact ⟨by rw [HF.out]; rfl, HB0.out⟩
set_option maxHeartbeats 2000000 in
theorem rsame_any (ps qs : List Prt) (u u' : Value) (w : World) (hu : Prs w u ps) (hu' : Prs w u' qs) (hl : ps.length ≤ maxLen) (hl' : qs.length ≤ maxLen) :
    Calls Tryd.prog 16 #[u, u'] w fun e w' => e = .returned (.bool (decide (ps = qs))) ∧ Below w.heap.size w w' := by
  obtain ⟨p, cap, rfl⟩ := hu.form
  obtain ⟨p', cap', rfl⟩ := hu'.form
  unfold maxLen at hl hl'
  by_cases hn : ps.length = qs.length
  · have hnn : ((ps.length : Int) != (qs.length : Int)) = false := by simp; omega
    have HN := Lib.hid hn
    have HQ := Lib.hid hu
    have HQ' := Lib.hid hu'
    clear hu hu' hn
    go_enter Tryd.func16, Tryd.ntmps16
    go_wp2_with fail
    go_loopg [5] (ps.length + 1) (fun g q wr => ∃ (k : Nat), k + g = ps.length + 1 ∧ q = .int .i64 k ∧ k ≤ ps.length ∧ Hid (eqTo ps qs k) ∧ Hid (Below w.heap.size w wr))
    case atStart => exact ⟨0, by omega, rfl, by omega, Lib.hid rfl, Lib.hid (Below.refl _ _)⟩
    case round =>
      obtain ⟨k, hkg, rfl, hk7, HE, HW⟩ := hrel
      have hq := Lib.hid (HQ.out.below HW.out)
      have hq' := Lib.hid (HQ'.out.below HW.out)
      by_cases hlt : k < ps.length
      · have hlt2 : k < qs.length := by have := HN.out; omega
        obtain ⟨b, off, rfl, hbl, x1, x2⟩ := (hq.out.at).2 k hlt
        obtain ⟨b', off', rfl, hbl', y1, y2⟩ := (hq'.out.at).2 k hlt2
        have hk0 : (0 : Int) ≤ (k : Int) := by omega
        have hk3 : (k : Int) < (ps.length : Int) := by omega
        have hk4 : (k : Int) < (qs.length : Int) := by omega
        have HSTEP := Lib.hid fun he => eqTo_step HE.out hlt hlt2 he
        have HNO : Hid (ps[k] ≠ qs[k] → decide (ps = qs) = false) := Lib.hid fun hne => by
          simp only [decide_eq_false_iff_not]
          intro e
          subst e
          exact hne rfl
        obtain ⟨⟨a1, a2⟩, ha⟩ : ∃ q, ps[k] = q := ⟨_, rfl⟩
        obtain ⟨⟨b1, b2⟩, hb'⟩ : ∃ q, qs[k] = q := ⟨_, rfl⟩
        rw [ha] at x1 x2 HNO HSTEP
        rw [hb'] at y1 y2 HNO HSTEP
        simp only at x1 x2 y1 y2
        by_cases h1 : a1 = b1
        · have d1 : ((str a1).toList == (str b1).toList) = true := by rw [toList_str, toList_str]; simpa using h1
          have d1' : (str a1).toList = (str b1).toList := by rw [toList_str, toList_str]; exact h1
          by_cases h2 : a2 = b2
          · have d2 : ((str a2).toList == (str b2).toList) = true := by rw [toList_str, toList_str]; simpa using h2
            have d2' : (str a2).toList = (str b2).toList := by rw [toList_str, toList_str]; exact h2
            have HE2 := Lib.hid (HSTEP.out (by rw [h1, h2]))
            clear h1 h2 hbl hbl' ha hb'
            go_wp2_with fail
            go_quiet (fail)
            go_wp2_with fail
            go_roundg (gk - 1)
            case measure => omega
            case rel => exact ⟨k + 1, by omega, by go_num, by omega, HE2, Lib.hid (below_draws HW.out _)⟩
          · have d2 : ((str a2).toList == (str b2).toList) = false := by rw [toList_str, toList_str]; simpa using h2
            have d2' : ¬ (str a2).toList = (str b2).toList := by rw [toList_str, toList_str]; exact h2
            have HF := Lib.hid (HNO.out (fun e => h2 (congrArg Prod.snd e)))
            clear h1 h2 hbl hbl' ha hb'
            go_wp2_with fail
            go_quiet (fail)
            go_wp2_with fail
            go_ret
            exact ⟨by rw [HF.out]; rfl, below_draws HW.out _⟩
        · have d1 : ((str a1).toList == (str b1).toList) = false := by rw [toList_str, toList_str]; simpa using h1
          have d1' : ¬ (str a1).toList = (str b1).toList := by rw [toList_str, toList_str]; exact h1
          have HF := Lib.hid (HNO.out (fun e => h1 (congrArg Prod.fst e)))
          clear h1 hbl hbl' ha hb'
          go_wp2_with fail
          go_quiet (fail)
          go_wp2_with fail
          go_ret
          exact ⟨by rw [HF.out]; rfl, below_draws HW.out _⟩
      · have HF : Hid (decide (ps = qs) = true) := Lib.hid (by rw [eqTo_end HE.out HN.out hlt]; simp)
        go_wp2_with fail
        go_ret
        exact ⟨by rw [HF.out]; rfl, HW.out⟩
  · have hnn : ((ps.length : Int) != (qs.length : Int)) = true := by simp; omega
    have HF : Hid (decide (ps = qs) = false) := Lib.hid (by
      simp only [decide_eq_false_iff_not]
      intro e
      subst e
      exact hn rfl)
    clear hu hu' hn
    go_enter Tryd.func16, Tryd.ntmps16
    go_wp2_with fail
    go_ret
    exact ⟨by rw [HF.out]; rfl, Below.refl _ _⟩
end Go.Proofs.YtdkfbikpadehdaaDoor.Dec
