/- The contracts of the document's own within, token, blanks. -/
import Derived.Test.YtgadpoahjlnheaaO
namespace Go.Proofs.Ytgadpoahjlnheaa.Med
open Go.RowKit
set_option linter.unusedVariables false
set_option linter.unusedSimpArgs false
def wI (x : Int) : Bool := decide (x = 9) || (decide (32 ≤ x) && decide (x ≤ 126) && decide (x ≠ 34) && decide (x ≠ 92)) || decide (128 ≤ x)
theorem wth_wI (c : UInt8) : wth c = wI (c.toNat : Int) := by
  have : ∀ c : Fin 256, wth (UInt8.ofNat c) = wI (c.val : Int) := by decide +kernel
  have k := this ⟨c.toNat, c.toNat_lt⟩
  simpa using k
set_option maxHeartbeats 2000000 in
theorem within_int (x : Int) (h0 : 0 ≤ x) (h1 : x < 256) (w : World) : Calls Try.prog 33 #[.int .u8 x] w fun e w' => e = .returned (.bool (wI x)) ∧ w' = w := by
  by_cases h_e9 : x = 9
  · have d_e9 : (x == 9) = true := by simpa using h_e9
    have HK : Hid (wI x = true) := Lib.hid (by simp [wI]; omega)
    clear h_e9
    go_enter Try.func33, Try.ntmps33
    go_wp2_with fail
    go_ret
    exact ⟨ret_bool HK.out.symm, rfl⟩
  · have d_e9 : (x == 9) = false := by simpa using h_e9
    by_cases h_g32 : 32 ≤ x
    · have d_g32 : decide (32 ≤ x) = true := by simpa using h_g32
      by_cases h_l126 : x ≤ 126
      · have d_l126 : decide (x ≤ 126) = true := by simpa using h_l126
        by_cases h_n34 : x ≠ 34
        · have d_n34 : (x != 34) = true := by simpa using h_n34
          by_cases h_n92 : x ≠ 92
          · have d_n92 : (x != 92) = true := by simpa using h_n92
            have HK : Hid (wI x = true) := Lib.hid (by simp [wI]; omega)
            clear h_e9 h_g32 h_l126 h_n34 h_n92
            go_enter Try.func33, Try.ntmps33
            go_wp2_with fail
            go_ret
            exact ⟨ret_bool HK.out.symm, rfl⟩
          · have d_n92 : (x != 92) = false := by simpa using h_n92
            by_cases h_g128 : 128 ≤ x
            · have d_g128 : decide (128 ≤ x) = true := by simpa using h_g128
              exfalso; omega
            · have d_g128 : decide (128 ≤ x) = false := by simpa using h_g128
              have HK : Hid (wI x = false) := Lib.hid (by simp [wI]; omega)
              clear h_e9 h_g32 h_l126 h_n34 h_n92 h_g128
              go_enter Try.func33, Try.ntmps33
              go_wp2_with fail
              go_ret
              exact ⟨ret_bool HK.out.symm, rfl⟩
        · have d_n34 : (x != 34) = false := by simpa using h_n34
          by_cases h_g128 : 128 ≤ x
          · have d_g128 : decide (128 ≤ x) = true := by simpa using h_g128
            exfalso; omega
          · have d_g128 : decide (128 ≤ x) = false := by simpa using h_g128
            have HK : Hid (wI x = false) := Lib.hid (by simp [wI]; omega)
            clear h_e9 h_g32 h_l126 h_n34 h_g128
            go_enter Try.func33, Try.ntmps33
            go_wp2_with fail
            go_ret
            exact ⟨ret_bool HK.out.symm, rfl⟩
      · have d_l126 : decide (x ≤ 126) = false := by simpa using h_l126
        by_cases h_g128 : 128 ≤ x
        · have d_g128 : decide (128 ≤ x) = true := by simpa using h_g128
          have HK : Hid (wI x = true) := Lib.hid (by simp [wI]; omega)
          clear h_e9 h_g32 h_l126 h_g128
          go_enter Try.func33, Try.ntmps33
          go_wp2_with fail
          go_ret
          exact ⟨ret_bool HK.out.symm, rfl⟩
        · have d_g128 : decide (128 ≤ x) = false := by simpa using h_g128
          have HK : Hid (wI x = false) := Lib.hid (by simp [wI]; omega)
          clear h_e9 h_g32 h_l126 h_g128
          go_enter Try.func33, Try.ntmps33
          go_wp2_with fail
          go_ret
          exact ⟨ret_bool HK.out.symm, rfl⟩
    · have d_g32 : decide (32 ≤ x) = false := by simpa using h_g32
      by_cases h_g128 : 128 ≤ x
      · have d_g128 : decide (128 ≤ x) = true := by simpa using h_g128
        exfalso; omega
      · have d_g128 : decide (128 ≤ x) = false := by simpa using h_g128
        have HK : Hid (wI x = false) := Lib.hid (by simp [wI]; omega)
        clear h_e9 h_g32 h_g128
        go_enter Try.func33, Try.ntmps33
        go_wp2_with fail
        go_ret
        exact ⟨ret_bool HK.out.symm, rfl⟩
theorem within_any (c : UInt8) (w : World) : Calls Try.prog 33 #[.int .u8 (c.toNat : Int)] w fun e w' => e = .returned (.bool (wth c)) ∧ w' = w := by
  rw [wth_wI]; exact within_int _ (by omega) (by have := c.toNat_lt; omega) w
theorem sign_any (c : UInt8) (w : World) : Calls Try.prog 46 #[.int .u8 (c.toNat : Int)] w fun e w' => e = .returned (.bool (sgn c)) ∧ w' = w := by
  rw [sgn_sI]; exact sign_int _ (by omega) (by have := c.toNat_lt; omega) w
/-- Where bytes of a kind that begin at k end. -/
def endW (p : UInt8 → Bool) (l : List UInt8) (k : Nat) : Nat := k + ((l.drop k).takeWhile p).length
theorem endW_out {p : UInt8 → Bool} {l : List UInt8} {k : Nat} (h : l.length ≤ k) : endW p l k = k := by unfold endW; rw [List.drop_eq_nil_of_le h]; rfl
theorem endW_go {p : UInt8 → Bool} {l : List UInt8} {k : Nat} (h : k < l.length) (hp : p l[k] = true) : endW p l k = endW p l (k + 1) := by
  unfold endW; rw [List.drop_eq_getElem_cons h, List.takeWhile_cons, if_pos hp]; simp; omega
theorem endW_stop {p : UInt8 → Bool} {l : List UInt8} {k : Nat} (h : k < l.length) (hp : p l[k] = false) : endW p l k = k := by
  unfold endW; rw [List.drop_eq_getElem_cons h, List.takeWhile_cons, if_neg (by simp [hp])]; rfl
theorem endW_ge (p : UInt8 → Bool) (l : List UInt8) (k : Nat) : k ≤ endW p l k := Nat.le_add_right _ _
theorem endW_le {p : UInt8 → Bool} {l : List UInt8} {k : Nat} (h : k ≤ l.length) : endW p l k ≤ l.length := by
  unfold endW
  have := (List.takeWhile_sublist p (l := l.drop k)).length_le
  rw [List.length_drop] at this; omega
theorem drop_take (p : UInt8 → Bool) (l : List UInt8) : l.drop (l.takeWhile p).length = l.dropWhile p := by
  induction l with
  | nil => rfl
  | cons a t ih =>
    rw [List.takeWhile_cons, List.dropWhile_cons]
    by_cases h : p a = true
    · rw [if_pos h, if_pos h]; simpa using ih
    · rw [if_neg h, if_neg h]; rfl
theorem take_take (p : UInt8 → Bool) (l : List UInt8) : l.take (l.takeWhile p).length = l.takeWhile p := by
  induction l with
  | nil => rfl
  | cons a t ih =>
    rw [List.takeWhile_cons]
    by_cases h : p a = true
    · rw [if_pos h]; simpa using ih
    · rw [if_neg h]; rfl
theorem drop_end (p : UInt8 → Bool) (l : List UInt8) (k : Nat) : l.drop (endW p l k) = (l.drop k).dropWhile p := by
  unfold endW; rw [← List.drop_drop, drop_take]
theorem slice_end (p : UInt8 → Bool) (l : List UInt8) (k : Nat) : (l.drop k).take (endW p l k - k) = (l.drop k).takeWhile p := by
  unfold endW; rw [Nat.add_sub_cancel_left, take_take]
set_option maxHeartbeats 1000000 in
theorem token_any (s : ByteArray) (a : Nat) (w : World) (hs : s.size ≤ maxLen) (ha : a ≤ s.size) : Calls Try.prog 24 #[.string s, .int .i64 (a : Int)] w fun e w' => e = .returned (.int .i64 (endW sgn s.data.toList a : Int)) ∧ w' = w := by
  unfold maxLen at hs
  have hsz : s.data.toList.length = s.size := by simp
  go_enter Try.func24, Try.ntmps24
  go_wp2_with fail
  go_loopg [1] (s.size + 1 - a) (fun g q wr => ∃ (k : Nat), k + g = s.size + 1 ∧ w = wr ∧ q = .int .i64 k ∧ k ≤ s.size ∧ Hid (endW sgn s.data.toList k = endW sgn s.data.toList a))
  case atStart => exact ⟨a, by omega, rfl, rfl, ha, Lib.hid rfl⟩
  case round =>
    obtain ⟨k, hkg, hw, rfl, hk7, HE⟩ := hrel
    subst hw
    by_cases hlt : k < s.size
    · have hkl : k < s.data.toList.length := by rw [hsz]; exact hlt
      have hk0 : (0 : Int) ≤ (k : Int) := by omega
      have hk3 : (k : Int) < (s.size : Int) := by omega
      have hel : s.data.toList[k] = s[k] := rfl
      have HC : Hid (Calls Try.prog 46 #[.int .u8 (s[k].toNat : Int)] w fun e w' => e = .returned (.bool (sgn s[k])) ∧ w' = w) := Lib.hid (sign_any _ _)
      by_cases hb : sgn s[k] = true
      · rw [hb] at HC
        have HE2 := Lib.hid ((endW_go hkl (by rw [hel]; exact hb)).symm.trans HE.out)
        clear hb hel
        go_wp2_with (go_at_call 46; refine HC.out.mono ?_; rintro _ w9 ⟨rfl, hw9⟩; subst w9)
        go_roundg (gk - 1)
        case measure => omega
        case rel => exact ⟨k + 1, by omega, rfl, by go_num, by omega, HE2⟩
      · have hb : sgn s[k] = false := by simpa using hb
        rw [hb] at HC
        have HE2 := Lib.hid ((endW_stop hkl (by rw [hel]; exact hb)).symm.trans HE.out)
        clear hb hel
        go_wp2_with (go_at_call 46; refine HC.out.mono ?_; rintro _ w9 ⟨rfl, hw9⟩; subst w9)
        go_ret
        exact ⟨by rw [← HE2.out]; rfl, rfl⟩
    · have HE2 := Lib.hid ((endW_out (p := sgn) (by rw [hsz]; omega)).symm.trans HE.out)
      go_wp2_with fail
      go_ret
      exact ⟨by rw [← HE2.out]; rfl, rfl⟩
set_option maxHeartbeats 1000000 in
theorem blanks_any (s : ByteArray) (a : Nat) (w : World) (hs : s.size ≤ maxLen) (ha : a ≤ s.size) : Calls Try.prog 23 #[.string s, .int .i64 (a : Int)] w fun e w' => e = .returned (.int .i64 (endW blk s.data.toList a : Int)) ∧ w' = w := by
  unfold maxLen at hs
  have hsz : s.data.toList.length = s.size := by simp
  go_enter Try.func23, Try.ntmps23
  go_wp2_with fail
  go_loopg [1] (s.size + 1 - a) (fun g q wr => ∃ (k : Nat), k + g = s.size + 1 ∧ w = wr ∧ q = .int .i64 k ∧ k ≤ s.size ∧ Hid (endW blk s.data.toList k = endW blk s.data.toList a))
  case atStart => exact ⟨a, by omega, rfl, rfl, ha, Lib.hid rfl⟩
  case round =>
    obtain ⟨k, hkg, hw, rfl, hk7, HE⟩ := hrel
    subst hw
    by_cases hlt : k < s.size
    · have hkl : k < s.data.toList.length := by rw [hsz]; exact hlt
      have hk0 : (0 : Int) ≤ (k : Int) := by omega
      have hk3 : (k : Int) < (s.size : Int) := by omega
      have hel : s.data.toList[k] = s[k] := rfl
      have hbk : blk s[k] = (((s[k].toNat : Int) == 32) || ((s[k].toNat : Int) == 9)) := by
        generalize s[k] = c
        revert c; exact byte_all (by decide +kernel)
      by_cases h1 : (s[k].toNat : Int) = 32
      · have d1 : ((s[k].toNat : Int) == 32) = true := by simpa using h1
        have HE2 := Lib.hid ((endW_go (p := blk) hkl (by rw [hel, hbk, d1]; rfl)).symm.trans HE.out)
        clear hel hbk h1
        go_wp2_with fail
        go_roundg (gk - 1)
        case measure => omega
        case rel => exact ⟨k + 1, by omega, rfl, by go_num, by omega, HE2⟩
      have d1 : ((s[k].toNat : Int) == 32) = false := by simpa using h1
      by_cases h2 : (s[k].toNat : Int) = 9
      · have d2 : ((s[k].toNat : Int) == 9) = true := by simpa using h2
        have HE2 := Lib.hid ((endW_go (p := blk) hkl (by rw [hel, hbk, d1, d2]; rfl)).symm.trans HE.out)
        clear hel hbk h1 h2
        go_wp2_with fail
        go_roundg (gk - 1)
        case measure => omega
        case rel => exact ⟨k + 1, by omega, rfl, by go_num, by omega, HE2⟩
      · have d2 : ((s[k].toNat : Int) == 9) = false := by simpa using h2
        have HE2 := Lib.hid ((endW_stop (p := blk) hkl (by rw [hel, hbk, d1, d2]; rfl)).symm.trans HE.out)
        clear hel hbk h1 h2
        go_wp2_with fail
        go_ret
        exact ⟨by rw [← HE2.out]; rfl, rfl⟩
    · have HE2 := Lib.hid ((endW_out (p := blk) (by rw [hsz]; omega)).symm.trans HE.out)
      go_wp2_with fail
      go_ret
      exact ⟨by rw [← HE2.out]; rfl, rfl⟩
end Go.Proofs.Ytgadpoahjlnheaa.Med
