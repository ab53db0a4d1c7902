/- The contract of wakes. -/
import Derived.Test.YtgadpoahjlnheaaW
namespace Go.Proofs.Ytgadpoahjlnheaa.Med
open Go.RowKit
set_option linter.unusedVariables false
set_option linter.unusedSimpArgs false
open Lab (RetS ret_str str str_size str_list str_eta str_inj u8v st_ixb info5 info_parts)
def wkIn : List UInt8 := [116, 101, 120, 116, 47, 88, 77, 76, 59, 32, 99, 104, 97, 114, 115, 101, 116, 61, 34, 117, 116, 102, 45, 56, 34]
def utf8L : List UInt8 := [117, 116, 102, 45, 56]
theorem wk_parse : parse wkIn = some (tyT, [(chName, utf8L)]) := by
  rw [← run_parse]; decide +kernel
theorem Prs.slc {w : World} {u : Value} {ps : List Par} (h : Prs w u ps) : ∃ p n cap, u = .slice p n cap := by
  obtain ⟨p, cap, e⟩ := h.form
  exact ⟨p, _, cap, e⟩
set_option maxHeartbeats 2000000 in
theorem wakes_any (w : World) : Calls Try.prog 7 #[] w fun e w' => RetB true w e w' := by
  have HP : Hid (∀ w, Calls Try.prog 8 #[.string ⟨#[116, 101, 120, 116, 47, 88, 77, 76, 59, 32, 99, 104, 97, 114, 115, 101, 116, 61, 34, 117, 116, 102, 45, 56, 34]⟩] w fun e w' => ParseE (some (tyT, [(chName, utf8L)])) w e w') := Lib.hid fun w => by
    have := parse_any (str wkIn) w (by decide)
    rw [str_list, wk_parse] at this
    exact this
  have HC : Hid (∀ (u : Value) (w : World), Prs w u [(chName, utf8L)] → Calls Try.prog 10 #[.agg #[.string (str tyT), u]] w fun e w' => e = .returned (.tuple #[.string (str utf8L), .bool true]) ∧ Below w.heap.size w w') := Lib.hid fun u w h => charset_any (tyT, [(chName, utf8L)]) u w h (by unfold maxLen; simp)
  have HX : Hid (∀ (u : Value) (w : World), Prs w u [(chName, utf8L)] → Calls Try.prog 13 #[.agg #[.string (str tyT), u]] w fun e w' => RetB true w e w') := Lib.hid fun u w h => xml_any (tyT, [(chName, utf8L)]) u w h.slc (by unfold maxLen; decide)
  have t1 : ((str tyT).toList == [116, 101, 120, 116, 47, 120, 109, 108]) = true := by rw [toList_str]; decide
  have t2 : ((str utf8L).toList == [117, 116, 102, 45, 56]) = true := by rw [toList_str]; decide
  obtain ⟨T, hT⟩ : ∃ T, str tyT = T := ⟨_, rfl⟩
  obtain ⟨U, hU⟩ : ∃ U, str utf8L = U := ⟨_, rfl⟩
  have HP2 : Hid (∀ w, Calls Try.prog 8 #[.string ⟨#[116, 101, 120, 116, 47, 88, 77, 76, 59, 32, 99, 104, 97, 114, 115, 101, 116, 61, 34, 117, 116, 102, 45, 56, 34]⟩] w fun e w' => ∃ p cap, e = .returned (.tuple #[.agg #[.string T, .slice p 1 cap], .int .i64 0]) ∧ Prs w' (.slice p 1 cap) [(chName, utf8L)] ∧ Below w.heap.size w w') := Lib.hid fun w => by
    refine (HP.out w).mono ?_
    rintro e w' ⟨u, rfl, h, hb⟩
    obtain ⟨p, cap, rfl⟩ := Prs.form h
    exact ⟨p, cap, by rw [← hT]; rfl, h, hb⟩
  rw [hT] at HC HX t1
  rw [hU] at HC t2
  clear HP hT hU
  go_enter Try.func7, Try.ntmps7
  go_wp2_with (first
    | (go_at_call 8; refine (HP2.out _).mono ?_; rintro _ w1 ⟨p, cap, rfl, hp, hb1⟩; clear HP2)
    | (go_at_call 10; refine (HC.out _ _ (hp.below ((Below.refl _ _).alloc (Nat.le_refl _) _))).mono ?_; rintro _ w2 ⟨rfl, hb2⟩; clear HC; obtain ⟨e0, e1, _, _⟩ := blk2 ((Blk.new w1 #[.string T, .slice p 1 cap] 25).below hb2); have hp2 := (hp.below ((Below.refl _ _).alloc (Nat.le_refl _) _)).below hb2)
    | (go_at_call 13; refine (HX.out _ _ hp2).mono ?_; rintro _ w3 ⟨rfl, hb3⟩; clear HX))
  go_ret
  exact ⟨rfl, below_call (below_call (hb1.alloc hb1.size _) hb2) hb3⟩
end Go.Proofs.Ytgadpoahjlnheaa.Med
