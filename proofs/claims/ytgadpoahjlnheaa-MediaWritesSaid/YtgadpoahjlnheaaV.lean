/- The contracts of Charset, of Xml and of Great. -/
import Derived.Test.YtgadpoahjlnheaaU
namespace Go.Proofs.Ytgadpoahjlnheaa.Med
open Go.RowKit
set_option linter.unusedVariables false
set_option linter.unusedSimpArgs false
open Lab (RetS ret_str str str_size str_list str_eta str_inj u8v st_ixb info5 info_parts)
/-- The value of the first parameter that is called charset. -/
def chName : List UInt8 := [99, 104, 97, 114, 115, 101, 116]
def chs : List Par → List UInt8 × Bool
  | [] => ([], false)
  | p :: t => if p.1 = chName then (p.2, true) else chs t
theorem chs_yes {ps : List Par} {k : Nat} (h : k < ps.length) (he : ps[k].1 = chName) : chs (ps.drop k) = (ps[k].2, true) := by
  rw [List.drop_eq_getElem_cons h]; unfold chs; rw [if_pos he]
theorem chs_no {ps : List Par} {k : Nat} (h : k < ps.length) (he : ¬ ps[k].1 = chName) : chs (ps.drop k) = chs (ps.drop (k + 1)) := by
  rw [List.drop_eq_getElem_cons h]; rw [chs, if_neg he]
theorem chs_end {ps : List Par} {k : Nat} (h : ¬ k < ps.length) : chs (ps.drop k) = ([], false) := by
  rw [List.drop_eq_nil_of_le (by omega)]; rfl
theorem ch_list : (⟨#[99, 104, 97, 114, 115, 101, 116]⟩ : ByteArray).toList = chName := toList_str chName
def ChE (r : List UInt8 × Bool) (w : World) (e : Ending) (w' : World) : Prop := e = .returned (.tuple #[.string (str r.1), .bool r.2]) ∧ Below w.heap.size w w'
theorem ch_ret {a : List UInt8 × Bool} {x : List UInt8} {y : Bool} (h : a = (x, y)) : Ending.returned (.tuple #[.string (str x), .bool y]) = .returned (.tuple #[.string (str a.1), .bool a.2]) := by rw [h]
set_option maxHeartbeats 2000000 in
theorem charset_any (m : Med) (u : Value) (w : World) (hu : Prs w u m.2) (hl : m.2.length ≤ maxLen) : Calls Try.prog 10 #[.agg #[.string (str m.1), u]] w fun e w' => ChE (chs m.2) w e w' := by
  obtain ⟨p, cap, rfl⟩ := hu.form
  obtain ⟨t, ps⟩ := m
  simp only at *
  unfold maxLen at hl
  have HB0 : Hid (Below w.heap.size w (w.alloc (.cells #[.string (str t), .slice p ps.length cap] 25))) := Lib.hid ((Below.refl _ w).alloc (Nat.le_refl _) _)
  have hq := Lib.hid (hu.below HB0.out)
  clear hu
  go_enter Try.func10, Try.ntmps10
  go_wp2_with fail
  generalize hW : (w.alloc (.cells #[.string (str t), .slice p ps.length cap] 25)) = W at *
  clear hW
  go_loopg [9] (ps.length + 1) (fun g q wr => ∃ (k : Nat), k + g = ps.length + 1 ∧ q = .int .i64 k ∧ k ≤ ps.length ∧ Hid (chs (ps.drop k) = chs ps) ∧ Hid (Below W.heap.size W wr))
  case atStart => exact ⟨0, by omega, rfl, by omega, Lib.hid rfl, Lib.hid (Below.refl _ _)⟩
  case round =>
    obtain ⟨k, hkg, rfl, hk7, HE, HW⟩ := hrel
    have hq := Lib.hid (hq.out.below HW.out)
    have hz := HW.out.size
    by_cases hlt : k < ps.length
    · obtain ⟨b, off, rfl, hbl, x1, x2⟩ := (hq.out.at).2 k hlt
      have hk0 : (0 : Int) ≤ (k : Int) := by omega
      have hk3 : (k : Int) < (ps.length : Int) := by omega
      by_cases he : ps[k].1 = chName
      · have ht : (str ps[k].1).toList = [99, 104, 97, 114, 115, 101, 116] := by rw [toList_str, he]; rfl
        have HF := Lib.hid (HE.out.symm.trans (chs_yes hlt he))
        clear he hbl
        go_wp2_with fail
        go_ret2
        exact ⟨ch_ret HF.out, HB0.out.trans ((HW.out.alloc hz _).mono HB0.out.size)⟩
      · have ht : ((str ps[k].1).toList == [99, 104, 97, 114, 115, 101, 116]) = false := by rw [toList_str]; simpa [chName] using he
        have HF := Lib.hid ((chs_no hlt he).symm.trans HE.out)
        clear he hbl
        go_wp2_with fail
        go_roundg (gk - 1)
        case measure => omega
        case rel => exact ⟨k + 1, by omega, by go_num, by omega, HF, Lib.hid (HW.out.alloc hz _)⟩
    · have HF := Lib.hid (HE.out.symm.trans (chs_end hlt))
      go_wp2_with fail
      go_ret2
      exact ⟨ch_ret HF.out, HB0.out.trans (HW.out.mono HB0.out.size)⟩
set_option maxHeartbeats 2000000 in
theorem rcharset_any (m : Med) (u : Value) (w : World) (hu : Prs w u m.2) (hl : m.2.length ≤ maxLen) : Calls Try.prog 11 #[.agg #[.string (str m.1), u]] w fun e w' => ChE (chs m.2) w e w' := by
  obtain ⟨p, cap, rfl⟩ := hu.form
  obtain ⟨t, ps⟩ := m
  simp only at *
  unfold maxLen at hl
  have HB0 : Hid (Below w.heap.size w (w.alloc (.cells #[.string (str t), .slice p ps.length cap] 25))) := Lib.hid ((Below.refl _ w).alloc (Nat.le_refl _) _)
  have hb0 := Lib.hid (Blk.new w #[.string (str t), .slice p ps.length cap] 25)
  have hq := Lib.hid (hu.below HB0.out)
  clear hu
  go_enter Try.func11, Try.ntmps11
  go_wp2_with fail
  generalize hW : (w.alloc (.cells #[.string (str t), .slice p ps.length cap] 25)) = W at *
  clear hW
  have c0 : W.cell? ⟨w.heap.size, 1, none⟩ = some (.slice p ps.length cap) := by rw [hb0.out.cell]; rfl
  go_loopg [4] (ps.length + 1) (fun g q wr => ∃ (k : Nat), k + g = ps.length + 1 ∧ W = wr ∧ q = .int .i64 k ∧ k ≤ ps.length ∧ Hid (chs (ps.drop k) = chs ps))
  case atStart => exact ⟨0, by omega, rfl, rfl, by omega, Lib.hid rfl⟩
  case round =>
    obtain ⟨k, hkg, hw, rfl, hk7, HE⟩ := hrel
    subst hw
    by_cases hlt : k < ps.length
    · obtain ⟨b, off, rfl, hbl, x1, x2⟩ := (hq.out.at).2 k hlt
      have hk0 : (0 : Int) ≤ (k : Int) := by omega
      have hk3 : (k : Int) < (ps.length : Int) := by omega
      by_cases he : ps[k].1 = chName
      · have ht : (str ps[k].1).toList = [99, 104, 97, 114, 115, 101, 116] := by rw [toList_str, he]; rfl
        have HF := Lib.hid (HE.out.symm.trans (chs_yes hlt he))
        clear he hbl
        go_wp2_with fail
        go_ret2
        exact ⟨ch_ret HF.out, HB0.out⟩
      · have ht : ((str ps[k].1).toList == [99, 104, 97, 114, 115, 101, 116]) = false := by rw [toList_str]; simpa [chName] using he
        have HF := Lib.hid ((chs_no hlt he).symm.trans HE.out)
        clear he hbl
        go_wp2_with fail
        go_roundg (gk - 1)
        case measure => omega
        case rel => exact ⟨k + 1, by omega, rfl, by go_num, by omega, HF⟩
    · have HF := Lib.hid (HE.out.symm.trans (chs_end hlt))
      go_wp2_with fail
      go_ret2
      exact ⟨ch_ret HF.out, HB0.out⟩
end Go.Proofs.Ytgadpoahjlnheaa.Med
