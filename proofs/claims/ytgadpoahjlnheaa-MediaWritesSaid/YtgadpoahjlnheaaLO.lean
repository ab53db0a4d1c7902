/- The contracts of the document's own Lower and name. -/
import Derived.Test.YtgadpoahjlnheaaT
import Derived.Test.YtgadpoahjlnheaaW
namespace Go.Proofs.Ytgadpoahjlnheaa.Med
open Go.RowKit
set_option linter.unusedVariables false
set_option linter.unusedSimpArgs false
open Lab (RetS ret_str str str_size str_list str_eta str_inj u8v st_ixb info5 info_parts BysR bys_new lo_add lo_not lowN lowN_len lowN_at lowN_0 lowN_end lowN_step lowN_same)
set_option maxHeartbeats 1600000 in
theorem rlower_any (s : ByteArray) (w : World) (hs : s.size ≤ maxLen) : Calls Try.prog 16 #[.string s] w fun e w' => RetS (lwr s.data.toList) w e w' := by
  unfold maxLen at hs
  have hsz : s.data.toList.length = s.size := by simp
  obtain ⟨cap, W1, hcv, hby, hB1, hcap, -, -⟩ := bys_new w s
  obtain ⟨l, HL⟩ : ∃ l, Hid (s.data.toList = l) := ⟨_, Lib.hid rfl⟩
  rw [HL.out] at hsz hby
  rw [HL.out]
  have HSZ := Lib.hid hsz
  have HB1 := Lib.hid hB1
  have HY1 := Lib.hid hby
  clear hby hB1 hsz
  go_enter Try.func16, Try.ntmps16
  go_wp2_with fail
  go_loopg [4] (s.size + 1) (fun g q wr => ∃ (k : Nat), k + g = s.size + 1 ∧ q = .int .i64 k ∧ k ≤ s.size ∧ Hid (BysR wr w.heap.size (lowN l k)) ∧ Hid (Below w.heap.size w wr))
  case atStart => exact ⟨0, by omega, rfl, by omega, Lib.hid (by rw [lowN_0]; exact HY1.out), HB1⟩
  case round =>
    obtain ⟨k, hkg, rfl, hk7, HY, HB⟩ := hrel
    by_cases hlt : k < s.size
    · have hkl : k < l.length := by rw [HSZ.out]; exact hlt
      have hk0 : (0 : Int) ≤ (k : Int) := by omega
      have hk3 : (k : Int) < (s.size : Int) := by omega
      have hkn : k < (lowN l k).length := by rw [lowN_len]; exact hkl
      have hc := HY.out.cell hkn
      rw [lowN_at hkl] at hc
      have hfz := HY.out.frozen hkn
      obtain ⟨c, hcc⟩ : ∃ c, l[k] = c := ⟨_, rfl⟩
      have hbd := c.toNat_lt
      by_cases h1 : 65 ≤ (c.toNat : Int)
      · have d1 : decide (65 ≤ (c.toNat : Int)) = true := by simpa using h1
        have d1n : decide (65 ≤ c.toNat) = true := by simp; omega
        by_cases h2 : (c.toNat : Int) ≤ 90
        · have d2 : decide ((c.toNat : Int) ≤ 90) = true := by simpa using h2
          have d2n : decide (c.toNat ≤ 90) = true := by simp; omega
          have hor := lo_add c h1 h2
          have HY2 : Hid (BysR (wr.setCell ⟨w.heap.size, k, none⟩ (.int .u8 ((Lab.lo c).toNat : Int))) w.heap.size (lowN l (k + 1))) := Lib.hid (by
            rw [lowN_step hkl, hcc]; exact HY.out.set hkn _)
          rw [hcc] at hc
          clear hcc hkn hkl h1 h2
          go_wp2_with fail
          go_roundg (gk - 1)
          case measure => omega
          case rel => exact ⟨k + 1, by omega, by go_num, by omega, HY2, Lib.hid (HB.out.setCell (Nat.le_refl _) _)⟩
        · have d2 : decide ((c.toNat : Int) ≤ 90) = false := by simpa using h2
          have d2n : decide (c.toNat ≤ 90) = false := by simp; omega
          have HY2 : Hid (BysR wr w.heap.size (lowN l (k + 1))) := Lib.hid (by
            rw [lowN_same hkl (by rw [hcc]; exact lo_not c (fun h => h2 h.2))]; exact HY.out)
          rw [hcc] at hc
          clear hcc hkn hkl h1 h2
          go_wp2_with fail
          go_roundg (gk - 1)
          case measure => omega
          case rel => exact ⟨k + 1, by omega, by go_num, by omega, HY2, HB⟩
      · have d1 : decide (65 ≤ (c.toNat : Int)) = false := by simpa using h1
        have d1n : decide (65 ≤ c.toNat) = false := by simp; omega
        have HY2 : Hid (BysR wr w.heap.size (lowN l (k + 1))) := Lib.hid (by
          rw [lowN_same hkl (by rw [hcc]; exact lo_not c (fun h => h1 h.1))]; exact HY.out)
        rw [hcc] at hc
        clear hcc hkn hkl h1
        go_wp2_with fail
        go_roundg (gk - 1)
        case measure => omega
        case rel => exact ⟨k + 1, by omega, by go_num, by omega, HY2, HB⟩
    · have hconv := HY.out.conv cap
      rw [lowN_len, HSZ.out, lowN_end (by rw [HSZ.out]; exact hlt)] at hconv
      go_wp2_with fail
      go_ret
      exact ⟨rfl, HB.out⟩
theorem rlower_str (l : List UInt8) (w : World) (hs : l.length ≤ maxLen) : Calls Try.prog 16 #[.string (str l)] w fun e w' => RetS (lwr l) w e w' := by
  have := rlower_any (str l) w (by rw [str_size]; exact hs)
  rwa [str_list] at this
theorem token_str (l : List UInt8) (a : Nat) (w : World) (hs : l.length ≤ maxLen) (ha : a ≤ l.length) : Calls Try.prog 24 #[.string (str l), .int .i64 (a : Int)] w fun e w' => e = .returned (.int .i64 (endW sgn l a : Int)) ∧ w' = w := by
  have := token_any (str l) a w (by rw [str_size]; exact hs) (by rw [str_size]; exact ha)
  rwa [str_list] at this
theorem blanks_str (l : List UInt8) (a : Nat) (w : World) (hs : l.length ≤ maxLen) (ha : a ≤ l.length) : Calls Try.prog 23 #[.string (str l), .int .i64 (a : Int)] w fun e w' => e = .returned (.int .i64 (endW blk l a : Int)) ∧ w' = w := by
  have := blanks_any (str l) a w (by rw [str_size]; exact hs) (by rw [str_size]; exact ha)
  rwa [str_list] at this
theorem endW_all (p : UInt8 → Bool) (l : List UInt8) : (endW p l 0 = l.length) ↔ l.all p = true := by
  unfold endW
  rw [List.drop_zero, Nat.zero_add]
  induction l with
  | nil => simp
  | cons a t ih =>
    rw [List.takeWhile_cons, List.all_cons]
    by_cases h : p a = true
    · rw [if_pos h, h]; simpa using ih
    · rw [if_neg h]; simp [h]
set_option maxHeartbeats 1000000 in
theorem name_any (l : List UInt8) (w : World) (hs : l.length ≤ 1000000000000000) : Calls Try.prog 32 #[.string (str l)] w fun e w' => RetB (nam l) w e w' := by
  have HN : Hid (nam l = (!l.isEmpty && l.all sgn && (lwr l == l))) := Lib.hid rfl
  have HT : Hid (∀ w, Calls Try.prog 24 #[.string (str l), .int .i64 0] w fun e w' => e = .returned (.int .i64 (endW sgn l 0 : Int)) ∧ w' = w) := Lib.hid fun w => token_str l 0 w (by unfold maxLen; omega) (Nat.zero_le _)
  have HL : Hid (∀ w, Calls Try.prog 16 #[.string (str l)] w fun e w' => RetS (lwr l) w e w') := Lib.hid fun w => rlower_str l w (by unfold maxLen; omega)
  have hEA := endW_all sgn l
  have htl := toList_str l
  have hsz := str_size l
  have htl2 := toList_str (lwr l)
  obtain ⟨e, he⟩ : ∃ e, endW sgn l 0 = e := ⟨_, rfl⟩
  rw [he] at HT hEA
  obtain ⟨s, hs'⟩ : ∃ s, str l = s := ⟨_, rfl⟩
  rw [hs'] at HT HL htl hsz ⊢
  obtain ⟨y, hy⟩ : ∃ y, str (lwr l) = y := ⟨_, rfl⟩
  have HL2 : Hid (∀ w, Calls Try.prog 16 #[.string s] w fun e w' => e = .returned (.string y) ∧ Below w.heap.size w w') := Lib.hid fun w => by
    have := HL.out w
    unfold RetS at this
    rwa [hy] at this
  rw [hy] at htl2
  clear hs' hy he HL
  cases l with
  | nil =>
    have hemp : s.toList.isEmpty = true := by rw [htl]; rfl
    have HF : Hid (nam [] = false) := Lib.hid rfl
    clear htl hsz htl2 hEA
    go_enter Try.func32, Try.ntmps32
    go_wp2_with fail
    go_ret
    exact ⟨by rw [HF.out]; rfl, Below.refl _ _⟩
  | cons c t =>
    have hemp : s.toList.isEmpty = false := by rw [htl]; rfl
    by_cases h1 : (c :: t).all sgn = true
    · have he2 : e = s.size := by rw [hsz]; exact hEA.2 h1
      have hbe : ((e : Int) == (s.size : Int)) = true := by rw [he2]; simp
      by_cases h2 : lwr (c :: t) = c :: t
      · have hyb : (y.toList == s.toList) = true := by rw [htl, htl2]; simpa using h2
        have HF : Hid (nam (c :: t) = true) := Lib.hid (by rw [HN.out, h1, h2]; simp)
        clear htl hsz htl2 hEA h1 h2 he2 HN
        go_enter Try.func32, Try.ntmps32
        go_wp2_with (first
          | (go_at_call 24; refine (HT.out _).mono ?_; rintro _ w9 ⟨rfl, hw9⟩; subst w9)
          | (go_at_call 16; refine (HL2.out _).mono ?_; rintro _ w2 ⟨rfl, hb2⟩))
        go_ret
        exact ⟨by rw [HF.out]; rfl, hb2⟩
      · have hyb : (y.toList == s.toList) = false := by rw [htl, htl2]; simpa using h2
        have HF : Hid (nam (c :: t) = false) := Lib.hid (by
          have : (lwr (c :: t) == c :: t) = false := by simpa using h2
          rw [HN.out, this, Bool.and_false])
        clear htl hsz htl2 hEA h1 h2 he2 HN
        go_enter Try.func32, Try.ntmps32
        go_wp2_with (first
          | (go_at_call 24; refine (HT.out _).mono ?_; rintro _ w9 ⟨rfl, hw9⟩; subst w9)
          | (go_at_call 16; refine (HL2.out _).mono ?_; rintro _ w2 ⟨rfl, hb2⟩))
        go_ret
        exact ⟨by rw [HF.out]; rfl, hb2⟩
    · have hbe : ((e : Int) == (s.size : Int)) = false := by
        have : e ≠ s.size := by rw [hsz]; exact fun x => h1 (hEA.1 x)
        simp; omega
      have HF : Hid (nam (c :: t) = false) := Lib.hid (by
        have h2 : (c :: t).all sgn = false := by simpa using h1
        rw [HN.out, h2]; simp)
      clear htl hsz htl2 hEA h1 HN
      go_enter Try.func32, Try.ntmps32
      go_wp2_with (first
        | (go_at_call 24; refine (HT.out _).mono ?_; rintro _ w9 ⟨rfl, hw9⟩; subst w9))
      go_ret
      exact ⟨by rw [HF.out]; rfl, Below.refl _ _⟩
end Go.Proofs.Ytgadpoahjlnheaa.Med
