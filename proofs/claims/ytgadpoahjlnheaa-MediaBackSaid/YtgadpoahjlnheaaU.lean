/- What is asked of Content-Types: whether two are the same, their charset, whether they are of XML. -/
import Derived.Test.YtgadpoahjlnheaaP
import Derived.Laws.StructEq
import Derived.Laws.DeepStrings4
import Derived.BigQuiet
namespace Go.Proofs.Ytgadpoahjlnheaa.Med
open Go.RowKit
set_option linter.unusedVariables false
set_option linter.unusedSimpArgs false
open Lab (RetS ret_str str str_size str_list str_eta str_inj u8v st_ixb info5 info_parts)
theorem toList_str (x : List UInt8) : (str x).toList = x := by
  rw [ByteArray.toList_eq]; rfl
def parV (p : Par) : Value := .agg #[.string (str p.1), .string (str p.2)]
theorem guard48 : Try.prog.eqGuardType Try.prog.depth 48 = false := by kernel_rfl
theorem held48 : Try.prog.stoodInHeld 48 = false := by kernel_rfl
theorem neq48 (a b : Par) (w : World) : (binOp .neq 48 (.agg #[.string (str a.1), .string (str a.2)]) (.agg #[.string (str b.1), .string (str b.2)])).run Try.prog w = .ok (.bool (decide (a ≠ b))) w := by
  have hf : (Try.prog.fieldsOf 48).toList = [⟨ "Name", 9, 0, false, "", "", 0⟩, ⟨ "Value", 9, 1, false, "", "", 16⟩] := by
    unfold Program.fieldsOf; rw [Try.underlying48]
  rw [run_neq_struct, run_equalIn_agg w 9999 48 _ _ (by unfold Program.fieldsOf; rw [Try.underlying48]) held48, hf]
  have h9 : Try.prog.underlying 9 = some .string := Try.underlying9
  simp [Op.eqFields, part, run_equalIn_string _ _ _ _ _ h9, toList_str]
  obtain ⟨a1, a2⟩ := a
  obtain ⟨b1, b2⟩ := b
  by_cases h1 : a1 = b1
  · by_cases h2 : a2 = b2 <;> simp [h1, h2]
  · simp [h1]
theorem Prs.at {w : World} {p : Option Addr} {n cap : Nat} {ps : List Par} (h : Prs w (.slice p n cap) ps) : n = ps.length ∧ ∀ k (hk : k < ps.length), ∃ b off, p = some ⟨b, off, none⟩ ∧ b < w.heap.size ∧ w.cell? ⟨b, off + k * 2, none⟩ = some (.string (str ps[k].1)) ∧ w.cell? ⟨b, off + k * 2 + 1, none⟩ = some (.string (str ps[k].2)) := by
  obtain ⟨p', cap', e, h⟩ := h
  cases e
  refine ⟨rfl, fun k hk => ?_⟩
  rcases h with rfl | ⟨b, off, rfl, hl, hc⟩
  · simp at hk
  · exact ⟨b, off, rfl, hl, hc k hk⟩
theorem Prs.form {w : World} {u : Value} {ps : List Par} (h : Prs w u ps) : ∃ p cap, u = .slice p ps.length cap := by
  obtain ⟨p, cap, e, _⟩ := h
  exact ⟨p, cap, e⟩
/-- What two rows share up to k. -/
def eqTo (ps qs : List Par) (k : Nat) : Prop := ps.take k = qs.take k
theorem eqTo_step {ps qs : List Par} {k : Nat} (h : eqTo ps qs k) (h1 : k < ps.length) (h2 : k < qs.length) (he : ps[k] = qs[k]) : eqTo ps qs (k + 1) := by
  unfold eqTo at *
  rw [List.take_add_one, List.take_add_one, h, List.getElem?_eq_getElem h1, List.getElem?_eq_getElem h2, he]
theorem eqTo_end {ps qs : List Par} {k : Nat} (h : eqTo ps qs k) (hl : ps.length = qs.length) (h1 : ¬ k < ps.length) : ps = qs := by
  unfold eqTo at h
  rwa [List.take_of_length_le (by omega), List.take_of_length_le (by omega)] at h
set_option maxHeartbeats 2000000 in
theorem rsame_any (m m' : Med) (u u' : Value) (w : World) (hu : Prs w u m.2) (hu' : Prs w u' m'.2) (hl : m.2.length ≤ maxLen) :
    Calls Try.prog 12 #[.agg #[.string (str m.1), u], .agg #[.string (str m'.1), u']] w fun e w' => e = .returned (.bool (decide (m = m'))) ∧ Below w.heap.size w w' := by
  obtain ⟨p, cap, rfl⟩ := hu.form
  obtain ⟨p', cap', rfl⟩ := hu'.form
  obtain ⟨t, ps⟩ := m
  obtain ⟨t', qs⟩ := m'
  simp only at *
  unfold maxLen at hl
  have HB0 : Hid (Below w.heap.size w ((w.alloc (.cells #[.string (str t), .slice p ps.length cap] 25)).alloc (.cells #[.string (str t'), .slice p' qs.length cap'] 25))) := Lib.hid (((Below.refl _ w).alloc (Nat.le_refl _) _).alloc (by simp) _)
  by_cases ht : t = t'
  · subst ht
    by_cases hn : ps.length = qs.length
    · have hnn : ((ps.length : Int) != (qs.length : Int)) = false := by simp; omega
      have htt : ((str t).toList != (str t).toList) = false := by simp
      have HN := Lib.hid hn
      have hq := Lib.hid (hu.below HB0.out)
      have hq' := Lib.hid (hu'.below HB0.out)
      clear hu hu' hn
      have hb0 := Lib.hid ((Blk.new w #[.string (str t), .slice p ps.length cap] 25).alloc (.cells #[.string (str t), .slice p' qs.length cap'] 25))
      have hb1 := Lib.hid (Blk.new' (n := w.heap.size + 1) (w.alloc (.cells #[.string (str t), .slice p ps.length cap] 25)) #[.string (str t), .slice p' qs.length cap'] 25 (by simp))
      have h48 := neq48
      have hg48 := guard48
      go_enter Try.func12, Try.ntmps12
      go_wp2_with fail
      generalize hW : ((w.alloc (.cells #[.string (str t), .slice p ps.length cap] 25)).alloc (.cells #[.string (str t), .slice p' qs.length cap'] 25)) = W at *
      clear hW
      go_loopg [5] (ps.length + 1) (fun g q wr => ∃ (k : Nat), k + g = ps.length + 1 ∧ q = .int .i64 k ∧ k ≤ ps.length ∧ Hid (eqTo ps qs k) ∧ Hid (Below W.heap.size W wr))
      case atStart => exact ⟨0, by omega, rfl, by omega, Lib.hid rfl, Lib.hid (Below.refl _ _)⟩
      case round =>
        obtain ⟨k, hkg, rfl, hk7, HE, HW⟩ := hrel
        have c0 : wr.cell? ⟨w.heap.size, 1, none⟩ = some (.slice p ps.length cap) := by rw [(hb0.out.below HW.out).cell]; rfl
        have c1 : wr.cell? ⟨w.heap.size + 1, 1, none⟩ = some (.slice p' qs.length cap') := by rw [(hb1.out.below HW.out).cell]; rfl
        have hq := Lib.hid (hq.out.below HW.out)
        have hq' := Lib.hid (hq'.out.below HW.out)
        by_cases hlt : k < ps.length
        · have hlt2 : k < qs.length := by have := HN.out; omega
          obtain ⟨b, off, rfl, hbl, x1, x2⟩ := (hq.out.at).2 k hlt
          obtain ⟨b', off', rfl, hbl', y1, y2⟩ := (hq'.out.at).2 k hlt2
          have hk0 : (0 : Int) ≤ (k : Int) := by omega
          have hk3 : (k : Int) < (ps.length : Int) := by omega
          have hk4 : (k : Int) < (qs.length : Int) := by omega
          by_cases he : ps[k] = qs[k]
          · have hd : decide (ps[k] ≠ qs[k]) = false := by simpa using he
            have HE2 := Lib.hid (eqTo_step HE.out hlt hlt2 he)
            clear he hbl hbl'
            go_wp2_with fail
            go_quiet (fail)
            go_wp2_with fail
            go_roundg (gk - 1)
            case measure => omega
            case rel => exact ⟨k + 1, by omega, by go_num, by omega, HE2, Lib.hid (below_draws HW.out _)⟩
          · have hd : decide (ps[k] ≠ qs[k]) = true := by simpa using he
            have HF : Hid (decide ((t, ps) = (t, qs)) = false) := Lib.hid (by
              simp only [decide_eq_false_iff_not]
              intro e
              have e2 : ps = qs := congrArg Prod.snd e
              subst e2
              exact he rfl)
            clear he hbl hbl'
            go_wp2_with fail
            go_quiet (fail)
            go_wp2_with fail
            go_ret
            exact ⟨by rw [HF.out]; rfl, HB0.out.trans (below_draws (HW.out.mono HB0.out.size) _)⟩
        · have HF : Hid (decide ((t, ps) = (t, qs)) = true) := Lib.hid (by rw [eqTo_end HE.out HN.out hlt]; simp)
          go_wp2_with fail
          go_ret
          exact ⟨by rw [HF.out]; rfl, HB0.out.trans (HW.out.mono HB0.out.size)⟩
    · have hnn : ((ps.length : Int) != (qs.length : Int)) = true := by simp; omega
      have htt : ((str t).toList != (str t).toList) = false := by simp
      have HF : Hid (decide ((t, ps) = (t, qs)) = false) := Lib.hid (by
        simp only [decide_eq_false_iff_not]
        intro e
        have e2 : ps = qs := congrArg Prod.snd e
        subst e2
        exact hn rfl)
      clear hu hu' hn
      go_enter Try.func12, Try.ntmps12
      go_wp2_with fail
      go_ret
      exact ⟨by rw [HF.out]; rfl, HB0.out⟩
  · have htt : ((str t).toList != (str t').toList) = true := by rw [toList_str, toList_str]; simpa using ht
    have htn : ¬ (str t).toList = (str t').toList := by rw [toList_str, toList_str]; exact ht
    have HF : Hid (decide ((t, ps) = (t', qs)) = false) := Lib.hid (by
      simp only [decide_eq_false_iff_not]
      intro e
      exact ht (congrArg Prod.fst e))
    clear hu hu' ht
    go_enter Try.func12, Try.ntmps12
    go_wp2_with fail
    go_ret
    exact ⟨by rw [HF.out]; rfl, HB0.out⟩
end Go.Proofs.Ytgadpoahjlnheaa.Med
