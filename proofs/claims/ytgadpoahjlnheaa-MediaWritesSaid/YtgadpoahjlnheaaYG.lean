/- The contract of Great. -/
import Derived.Test.YtgadpoahjlnheaaW
import Derived.Test.YtgadpoahjlnheaaAA
import Derived.BigQuiet
namespace Go.Proofs.Ytgadpoahjlnheaa.Med
open Go.RowKit
set_option linter.unusedVariables false
set_option linter.unusedSimpArgs false
open Lab (RetS ret_str str str_size str_list str_eta str_inj u8v st_ixb sl_ixb info5 info_parts)
def gp (p : Par) : Nat := min p.1.length 5000 + min p.2.length 5000
def gs (ps : List Par) : Nat := (ps.map gp).sum
/-- Too great to be asked. -/
def grt (m : Med) : Bool := decide (60 < m.2.length) || decide (3000 < m.1.length + gs (m.2.take 61))
theorem gs_cons (p : Par) (t : List Par) : gs (p :: t) = gp p + gs t := by simp [gs]
theorem gs_snoc (ps : List Par) (p : Par) : gs (ps ++ [p]) = gs ps + gp p := by simp [gs]
theorem gs_le (ps : List Par) : gs ps ≤ 10000 * ps.length := by
  induction ps with
  | nil => simp [gs]
  | cons p t ih => rw [gs_cons, List.length_cons]; unfold gp; omega
theorem gs_sum (ps : List Par) (h : gs ps ≤ 3000) : gs ps = sumP ps := by
  induction ps with
  | nil => rfl
  | cons p t ih =>
    rw [gs_cons] at h ⊢
    rw [sumP_cons]
    have := ih (by omega)
    unfold gp at *
    omega
theorem grt_not {m : Med} (h : grt m = false) : tot m ≤ 3000 ∧ m.2.length ≤ 60 := by
  unfold grt at h
  simp only [Bool.or_eq_false_iff, decide_eq_false_iff_not] at h
  have h1 : m.2.length ≤ 60 := by omega
  rw [List.take_of_length_le (by omega)] at h
  have := gs_sum m.2 (by omega)
  unfold tot
  omega
theorem gtake {ps : List Par} {k : Nat} (h : k < ps.length) : gs (ps.take (k + 1)) = gs (ps.take k) + gp ps[k] := by
  rw [List.take_add_one, List.getElem?_eq_getElem h]; exact gs_snoc _ _
set_option maxRecDepth 100000 in
set_option maxHeartbeats 4000000 in
theorem great_any (m : Med) (u : Value) (w : World) (hu : Prs w u m.2) (ht : m.1.length ≤ 1000000000000000) (hl : m.2.length ≤ 1000000000000000) (hp : ∀ q ∈ m.2, q.1.length ≤ 1000000000000000 ∧ q.2.length ≤ 1000000000000000) :
    Calls Try.prog 17 #[.agg #[.string (str m.1), u]] w fun e w' => RetB (grt m) w e w' := by
  obtain ⟨p, cap, rfl⟩ := hu.form
  obtain ⟨t, ps⟩ := m
  simp only at ht hl hp
  have HB0 : Hid (Below w.heap.size w (w.alloc (.cells #[.string (str t), .slice p ps.length cap] 25))) := Lib.hid ((Below.refl _ w).alloc (Nat.le_refl _) _)
  have hb0 := Lib.hid (Blk.new w #[.string (str t), .slice p ps.length cap] 25)
  have HQ := Lib.hid (hu.below HB0.out)
  have HG : Hid (grt (t, ps) = (decide (60 < ps.length) || decide (3000 < t.length + gs (ps.take 61)))) := Lib.hid rfl
  have HP := Lib.hid hp
  have hst := str_size t
  clear hu hp
  go_enter Try.func17, Try.ntmps17
  go_wp2_with fail
  generalize hW : (w.alloc (.cells #[.string (str t), .slice p ps.length cap] 25)) = W at *
  clear hW
  go_loopg [3, 4] 62 (fun g q3 q4 wr => ∃ (k n : Nat), k + g = 62 ∧ q3 = .int .i64 (n : Int) ∧ q4 = .int .i64 k ∧ k ≤ ps.length ∧ k ≤ 61 ∧ n ≤ 1000000000000000 + 10000 * k ∧ Hid (n = t.length + gs (ps.take k)) ∧ Hid (Below W.heap.size W wr))
  case atStart => exact ⟨0, t.length, by omega, by first | rfl | (rw [hst]), rfl, by omega, by omega, by omega, Lib.hid (by simp [gs]), Lib.hid (Below.refl _ _)⟩
  case round =>
    obtain ⟨k, n, hkg, rfl, rfl, hk7, hk61, hn2, HN, HW⟩ := hrel
    have c0 : wr.cell? ⟨w.heap.size, 1, none⟩ = some (.slice p ps.length cap) := by rw [(hb0.out.below HW.out).cell]; rfl
    have HQ := Lib.hid (HQ.out.below HW.out)
    by_cases hlt : k < ps.length
    · have hk0 : (0 : Int) ≤ (k : Int) := by omega
      have hk3 : (k : Int) < (ps.length : Int) := by omega
      by_cases h60 : k ≤ 60
      · have h6 : decide ((k : Int) ≤ 60) = true := by simp; omega
        obtain ⟨b, off, rfl, hbl, x1, x2⟩ := (HQ.out.at).2 k hlt
        have HS := Lib.hid (gtake hlt)
        have hpk := HP.out ps[k] (List.getElem_mem hlt)
        obtain ⟨⟨nm, vv⟩, hq⟩ : ∃ q, ps[k] = q := ⟨_, rfl⟩
        rw [hq] at HS hpk x1 x2
        simp only at HS hpk x1 x2
        have hs1 := str_size nm
        have hs2 := str_size vv
        clear hq hbl
        go_wp2_with fail
        go_quiet (fail)
        go_wp2_with fail
        all_goals
          go_roundg (gk - 1)
          case measure => omega
          case rel =>
            have e : gp (nm, vv) = min nm.length 5000 + min vv.length 5000 := rfl
            refine ⟨k + 1, n + gp (nm, vv), by omega, congrArg (Value.int .i64) ?_, by go_num, by omega, by omega, by rw [e]; omega, Lib.hid (by rw [HS.out, HN.out]; omega), Lib.hid (below_draws HW.out _)⟩
            rw [e]; omega
      · have h6 : decide ((k : Int) ≤ 60) = false := by simp; omega
        have h7 : decide ((60 : Int) < (ps.length : Int)) = true := by simp; omega
        have HF : Hid (grt (t, ps) = true) := Lib.hid (by
          have : decide (60 < ps.length) = true := by simp; omega
          rw [HG.out, this]; rfl)
        go_wp2_with fail
        go_ret
        exact ⟨ret_bool HF.out.symm, HB0.out.trans (HW.out.mono HB0.out.size)⟩
    · have HT : Hid (ps.take 61 = ps.take k) := Lib.hid (by rw [List.take_of_length_le (by omega), List.take_of_length_le (by omega)])
      by_cases h60 : 60 < ps.length
      · have h7 : decide ((60 : Int) < (ps.length : Int)) = true := by simp; omega
        have HF : Hid (grt (t, ps) = true) := Lib.hid (by
          have : decide (60 < ps.length) = true := by simp; omega
          rw [HG.out, this]; rfl)
        go_wp2_with fail
        go_ret
        exact ⟨ret_bool HF.out.symm, HB0.out.trans (HW.out.mono HB0.out.size)⟩
      · have h7 : decide ((60 : Int) < (ps.length : Int)) = false := by simp; omega
        have HF : Hid (grt (t, ps) = decide (3000 < n)) := Lib.hid (by
          have : decide (60 < ps.length) = false := by simp; omega
          rw [HG.out, this, HT.out, HN.out]; rfl)
        by_cases hn3 : 3000 < n
        · have h8 : decide ((3000 : Int) < (n : Int)) = true := by simp; omega
          have HF2 : Hid (grt (t, ps) = true) := Lib.hid (by rw [HF.out]; simp; omega)
          go_wp2_with fail
          go_ret
          exact ⟨ret_bool HF2.out.symm, HB0.out.trans (HW.out.mono HB0.out.size)⟩
        · have h8 : decide ((3000 : Int) < (n : Int)) = false := by simp; omega
          have HF2 : Hid (grt (t, ps) = false) := Lib.hid (by rw [HF.out]; simp; omega)
          go_wp2_with fail
          go_ret
          exact ⟨ret_bool HF2.out.symm, HB0.out.trans (HW.out.mono HB0.out.size)⟩
end Go.Proofs.Ytgadpoahjlnheaa.Med
