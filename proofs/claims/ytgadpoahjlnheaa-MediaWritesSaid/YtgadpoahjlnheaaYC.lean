/- The contracts of isOf, isWord, of the cut at a slash, of isType and of written. -/
import Derived.Test.YtgadpoahjlnheaaYA
import Derived.Test.YtgadpoahjlnheaaYB
import Derived.OwnWalk
import Derived.BigQuiet
namespace Go.Proofs.Ytgadpoahjlnheaa.Med
open Go.RowKit
set_option linter.unusedVariables false
set_option linter.unusedSimpArgs false
open Lab (RetS ret_str str str_size str_list str_eta str_inj u8v st_ixb sl_ixb info5 info_parts BW bw_new wpList_append_bw)
theorem allIn_go {k : Nat} {l : List UInt8} {i : Nat} (h : i < l.length) : allIn k (l.drop i) = (inS k (some l[i]) && allIn k (l.drop (i + 1))) := by
  rw [List.drop_eq_getElem_cons h]; rfl
theorem allIn_end {k : Nat} {l : List UInt8} {i : Nat} (h : ¬ i < l.length) : allIn k (l.drop i) = true := by
  rw [List.drop_eq_nil_of_le (by omega)]; rfl
set_option maxHeartbeats 1000000 in
theorem isOf_any (k : Nat) (hk : k ∈ sets) (s : ByteArray) (w : World) (hs : s.size ≤ maxLen) : Calls Try.prog 30 #[.string s, .int .i64 (k : Int)] w fun e w' => e = .returned (.bool (allIn k s.data.toList)) ∧ w' = w := by
  unfold maxLen at hs
  have hsz : s.data.toList.length = s.size := by simp
  have HI := Lib.hid fun c w => isIn_any k hk (some c) w
  clear hk
  go_enter Try.func30, Try.ntmps30
  go_wp2_with fail
  go_loopg [8] (s.size + 1) (fun g q wr => ∃ (i : Nat), i + g = s.size + 1 ∧ w = wr ∧ q = .int .i64 i ∧ i ≤ s.size ∧ Hid (allIn k (s.data.toList.drop i) = allIn k s.data.toList))
  case atStart => exact ⟨0, by omega, rfl, rfl, by omega, Lib.hid rfl⟩
  case round =>
    obtain ⟨i, hkg, hw, rfl, hk7, HE⟩ := hrel
    subst hw
    by_cases hlt : i < s.size
    · have hkl : i < s.data.toList.length := by rw [hsz]; exact hlt
      have hk0 : (0 : Int) ≤ (i : Int) := by omega
      have hk3 : (i : Int) < (s.size : Int) := by omega
      have hel : s.data.toList[i] = s[i] := rfl
      have hw64 : wrap64 (s[i].toNat : Int) = (s[i].toNat : Int) := by
        have := s[i].toNat_lt
        unfold wrap64; omega
      have HC : Hid (∀ w, Calls Try.prog 50 #[.int .i64 (s[i].toNat : Int), .int .i64 (k : Int)] w fun e w' => e = .returned (.bool (inS k (some s[i]))) ∧ w' = w) := Lib.hid fun w => HI.out s[i] w
      have HG := allIn_go (k := k) hkl
      rw [hel] at HG
      by_cases hb : inS k (some s[i]) = true
      · rw [hb] at HC HG
        have HE2 := Lib.hid ((show allIn k (s.data.toList.drop (i + 1)) = _ by rw [HG]; rfl).trans HE.out)
        clear hb hel HG
        go_wp2_with (go_at_call 50; refine (HC.out _).mono ?_; rintro _ w9 ⟨rfl, hw9⟩; subst w9)
        go_roundg (gk - 1)
        case measure => omega
        case rel => exact ⟨i + 1, by omega, rfl, by go_num, by omega, HE2⟩
      · have hb : inS k (some s[i]) = false := by simpa using hb
        rw [hb] at HC HG
        have HE2 := Lib.hid (HE.out.symm.trans (HG.trans rfl))
        clear hb hel HG
        go_wp2_with (go_at_call 50; refine (HC.out _).mono ?_; rintro _ w9 ⟨rfl, hw9⟩; subst w9)
        go_ret
        exact ⟨ret_bool HE2.out.symm, rfl⟩
    · have HE2 := Lib.hid (HE.out.symm.trans (allIn_end (by rw [hsz]; exact hlt)))
      go_wp2_with fail
      go_ret
      exact ⟨ret_bool HE2.out.symm, rfl⟩
theorem isWord_any (k : Nat) (hk : k ∈ sets) (l : List UInt8) (w : World) (hs : l.length ≤ maxLen) : Calls Try.prog 29 #[.string (str l), .int .i64 (k : Int)] w fun e w' => e = .returned (.bool (wrd k l)) ∧ w' = w := by
  have HO : Hid (∀ w, Calls Try.prog 30 #[.string (str l), .int .i64 (k : Int)] w fun e w' => e = .returned (.bool (allIn k l)) ∧ w' = w) := Lib.hid fun w => by
    have := isOf_any k hk (str l) w (by rw [str_size]; exact hs)
    rwa [str_list] at this
  have htl := toList_str l
  clear hk hs
  cases l with
  | nil =>
    have HF : Hid (wrd k [] = false) := Lib.hid rfl
    go_enter Try.func29, Try.ntmps29
    go_wp2_with fail
    go_ret
    exact ⟨ret_bool HF.out.symm, rfl⟩
  | cons c t =>
    have HF : Hid (wrd k (c :: t) = allIn k (c :: t)) := Lib.hid rfl
    obtain ⟨s, hs⟩ : ∃ s, str (c :: t) = s := ⟨_, rfl⟩
    rw [hs] at htl HO ⊢
    have hne3 : s.toList.isEmpty = false := by rw [htl]; rfl
    clear htl hs
    go_enter Try.func29, Try.ntmps29
    go_wp2_with (go_at_call 30; refine (HO.out _).mono ?_; rintro _ w9 ⟨rfl, hw9⟩; subst w9)
    go_ret
    exact ⟨ret_bool HF.out.symm, rfl⟩
set_option maxRecDepth 100000 in
theorem index_any (l : List UInt8) (w : World) (hs : l.length ≤ maxLen) : Calls Try.prog 56 #[.string (str l), .string ⟨#[47]⟩] w fun e w' => e = .returned (.int .i64 (Lib.indexByte l 47)) ∧ w' = w := by
  have HI : Hid (∀ w, Calls Try.prog 58 #[.string (str l), .int .u8 47] w fun e w' => e = .returned (.int .i64 (Lib.indexByte l 47)) ∧ w' = w) := Lib.hid fun w => by
    have := sl_ixb (str l) 47 w
    rwa [str_list] at this
  have htl := toList_str l
  by_cases h47 : l = [47]
  · have HF : Hid (Lib.indexByte l 47 = 0) := Lib.hid (by rw [h47]; decide)
    have h2 : (([47] : List UInt8) == (str l).toList) = true := by rw [htl, h47]; decide
    obtain ⟨s, hs⟩ : ∃ s, str l = s := ⟨_, rfl⟩
    rw [hs] at h2 ⊢
    clear htl hs h47 HI
    go_enter Try.func56, Try.ntmps56
    go_wp2_with fail
    go_ret
    exact ⟨by rw [HF.out]; rfl, rfl⟩
  · have h1 : ¬ ([47] : List UInt8) = (str l).toList := by rw [htl]; exact fun e => h47 e.symm
    have h2 : (([47] : List UInt8) == (str l).toList) = false := by simpa using h1
    obtain ⟨s, hs⟩ : ∃ s, str l = s := ⟨_, rfl⟩
    rw [hs] at h2 HI ⊢
    clear htl hs h47 h1
    go_enter Try.func56, Try.ntmps56
    go_wp2_with (go_at_call 58; refine (HI.out _).mono ?_; rintro _ w9 ⟨rfl, hw9⟩; subst w9)
    go_ret
    exact ⟨rfl, rfl⟩
def CutE (l : List UInt8) (w : World) (e : Ending) (w' : World) : Prop :=
  ∃ a b ok, e = .returned (.tuple #[.string (str a), .string (str b), .bool ok]) ∧ (nam a && nam b) = typ l ∧ a.length ≤ l.length ∧ b.length ≤ l.length ∧ Below w.heap.size w w'
set_option maxRecDepth 100000 in
theorem scut_any (l : List UInt8) (w : World) (hs : l.length ≤ 1000000000) : Calls Try.prog 54 #[.string (str l), .string ⟨#[47]⟩] w fun e w' => CutE l w e w' := by
  have HI : Hid (∀ w, Calls Try.prog 56 #[.string (str l), .string ⟨#[47]⟩] w fun e w' => e = .returned (.int .i64 (Lib.indexByte l 47)) ∧ w' = w) := Lib.hid fun w => index_any l w (by unfold maxLen; omega)
  have HT := Lib.hid (typ_cut l)
  obtain ⟨i, hi⟩ : ∃ i, Lib.indexByte l 47 = i := ⟨_, rfl⟩
  have HC := Lib.hid (ix_cut l 47)
  rw [hi] at HI HT HC
  clear hi
  by_cases h0 : 0 ≤ i
  · obtain ⟨n, rfl⟩ := Int.eq_ofNat_of_zero_le h0
    have HT2 : Hid (typ l = (nam (l.take n) && nam (l.drop (n + 1)))) := Lib.hid (by rw [HT.out, if_pos h0]; rfl)
    have hn : n < l.length := (HC.out h0).2.2
    have sl1 : ∀ w0 : World, (Instr.slice 9 (.string (str l)) none (some (.int .i64 (n : Int))) none).run Try.prog w0 = .ok (.string (str (l.take n))) w0 := fun w0 => slice_to (str l) n (by rw [str_size]; omega) (str_list l) rfl w0
    have sl2 : ∀ w0 : World, (Instr.slice 9 (.string (str l)) (some (.int .i64 ((n : Int) + 1))) none none).run Try.prog w0 = .ok (.string (str (l.drop (n + 1)))) w0 := fun w0 => slice_from (str l) (n + 1) (by rw [str_size]; omega) (str_list l) rfl w0
    have hnb : n ≤ 1000000000 := by omega
    obtain ⟨x, hx⟩ : ∃ x, l.take n = x := ⟨_, rfl⟩
    obtain ⟨y, hy⟩ : ∃ y, l.drop (n + 1) = y := ⟨_, rfl⟩
    have HX : Hid (x.length ≤ l.length ∧ y.length ≤ l.length) := Lib.hid (by rw [← hx, ← hy, List.length_take, List.length_drop]; omega)
    rw [hx] at HT2 sl1
    rw [hy] at HT2 sl2
    obtain ⟨s, hs'⟩ : ∃ s, str l = s := ⟨_, rfl⟩
    rw [hs'] at HI sl1 sl2 ⊢
    clear hx hy hs' HC HT hn hs h0
    go_enter Try.func54, Try.ntmps54
    go_wp2_with (go_at_call 56; refine (HI.out _).mono ?_; rintro _ w9 ⟨rfl, hw9⟩; subst w9)
    go_quiet (fail)
    go_wp2_with fail
    go_ret3
    exact ⟨x, y, true, rfl, HT2.out.symm, HX.out.1, HX.out.2, below_draws (Below.refl _ _) _⟩
  · have HT2 : Hid (typ l = false) := Lib.hid (by rw [HT.out, if_neg h0])
    have hi0 : decide ((0 : Int) ≤ i) = false := by simpa using h0
    obtain ⟨s, hs'⟩ : ∃ s, str l = s := ⟨_, rfl⟩
    have HS := Lib.hid hs'
    rw [hs'] at HI ⊢
    clear hs' HC HT hs h0
    go_enter Try.func54, Try.ntmps54
    go_wp2_with (go_at_call 56; refine (HI.out _).mono ?_; rintro _ w9 ⟨rfl, hw9⟩; subst w9)
    go_ret3
    exact ⟨l, [], false, by rw [HS.out]; rfl, by rw [HT2.out, Bool.and_eq_false_iff]; exact .inr rfl, Nat.le_refl _, Nat.zero_le _, Below.refl _ _⟩
theorem cut_any (l : List UInt8) (w : World) (hs : l.length ≤ 1000000000) : Calls Try.prog 49 #[.string (str l), .string ⟨#[47]⟩] w fun e w' => CutE l w e w' := by
  have HC : Hid (∀ w, Calls Try.prog 54 #[.string (str l), .string ⟨#[47]⟩] w fun e w' => CutE l w e w') := Lib.hid fun w => scut_any l w hs
  obtain ⟨s, hs'⟩ : ∃ s, str l = s := ⟨_, rfl⟩
  rw [hs'] at HC ⊢
  clear hs hs'
  go_enter Try.func49, Try.ntmps49
  go_wp2_with (go_at_call 54; refine (HC.out _).mono ?_; rintro _ w1 ⟨a, b, ok, rfl, h1, h2, h3, hb⟩)
  go_ret3
  exact ⟨a, b, ok, rfl, h1, h2, h3, hb⟩
theorem isType_any (l : List UInt8) (w : World) (hs : l.length ≤ 1000000000) : Calls Try.prog 28 #[.string (str l)] w fun e w' => RetB (typ l) w e w' := by
  have HC : Hid (∀ w, Calls Try.prog 49 #[.string (str l), .string ⟨#[47]⟩] w fun e w' => CutE l w e w') := Lib.hid fun w => cut_any l w hs
  have HW : Hid (∀ (x : List UInt8) (w : World), x.length ≤ l.length → Calls Try.prog 29 #[.string (str x), .int .i64 4] w fun e w' => e = .returned (.bool (nam x)) ∧ w' = w) := Lib.hid fun x w hx => by
    have := isWord_any 4 (by decide) x w (by unfold maxLen; omega)
    rwa [wrd4] at this
  obtain ⟨s, hs'⟩ : ∃ s, str l = s := ⟨_, rfl⟩
  rw [hs'] at HC ⊢
  clear hs hs'
  go_enter Try.func28, Try.ntmps28
  go_wp2_with (go_at_call 49; refine (HC.out _).mono ?_; rintro _ w1 ⟨a, b, ok, rfl, h1, h2, h3, hb⟩; clear HC; have H1 := Lib.hid h1; have H2 := Lib.hid h2; have H3 := Lib.hid h3; clear h1 h2 h3)
  have HA := Lib.hid fun w => HW.out a w H2.out
  have HB := Lib.hid fun w => HW.out b w H3.out
  obtain ⟨x, hx⟩ : ∃ x, str a = x := ⟨_, rfl⟩
  obtain ⟨y, hy⟩ : ∃ y, str b = y := ⟨_, rfl⟩
  rw [hx] at HA ⊢
  rw [hy] at HB ⊢
  clear HW hx hy
  obtain ⟨ba, hba⟩ : ∃ z, nam a = z := ⟨_, rfl⟩
  rw [hba] at HA H1
  clear hba
  cases ba with
  | true =>
    go_wp2_with (first
      | (go_at_call 29; refine (HA.out _).mono ?_; rintro _ w9 ⟨rfl, hw9⟩; subst w9; clear HA)
      | (go_at_call 29; refine (HB.out _).mono ?_; rintro _ w9 ⟨rfl, hw9⟩; subst w9; clear HB))
    go_ret
    exact ⟨ret_bool H1.out, hb⟩
  | false =>
    go_wp2_with (go_at_call 29; refine (HA.out _).mono ?_; rintro _ w9 ⟨rfl, hw9⟩; subst w9; clear HA)
    go_ret
    exact ⟨ret_bool H1.out, hb⟩
end Go.Proofs.Ytgadpoahjlnheaa.Med
