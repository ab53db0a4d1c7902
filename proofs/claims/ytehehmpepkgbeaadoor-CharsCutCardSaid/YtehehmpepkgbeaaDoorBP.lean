/- The contracts of the document's own part and Next. -/
import Derived.Test.YtehehmpepkgbeaaDoorBD
namespace Go.Proofs.YtehehmpepkgbeaaDoor
open Go.RowKit
set_option linter.unusedVariables false
set_option linter.unusedSimpArgs false
theorem and_7 (x : Int) (h0 : 0 ≤ x) (h1 : x < 128) : bits .and .i64 x 127 = x := (bits_mask .i64 40 (by decide) wraps_i64 7 (by decide) x h0 (by omega)).trans (by omega)
theorem and_5 (x : Int) (h0 : 192 ≤ x) (h1 : x < 224) : bits .and .i64 x 31 = x - 192 := (bits_mask .i64 40 (by decide) wraps_i64 5 (by decide) x (by omega) (by omega)).trans (by omega)
theorem and_4 (x : Int) (h0 : 224 ≤ x) (h1 : x < 240) : bits .and .i64 x 15 = x - 224 := (bits_mask .i64 40 (by decide) wraps_i64 4 (by decide) x (by omega) (by omega)).trans (by omega)
theorem and_3 (x : Int) (h0 : 240 ≤ x) (h1 : x < 248) : bits .and .i64 x 7 = x - 240 := (bits_mask .i64 40 (by decide) wraps_i64 3 (by decide) x (by omega) (by omega)).trans (by omega)
/-- What the document's part tells: the scalar (or 0), how many bytes, whether it is one. -/
def PartS (w : World) (R : Int × Nat) (e : Ending) (w' : World) : Prop :=
  e = .returned (.tuple #[.int .i64 (if R.1 = -1 then 0 else R.1), .int .i64 R.2, .bool (R.1 != -1)]) ∧ w = w'
theorem part_bad (w : World) (R : Int × Nat) (i : Nat) (h : R = (-1, i)) : PartS w R (.returned (.tuple #[.int .i64 0, .int .i64 i, .bool false])) w := by
  subst h; exact ⟨rfl, rfl⟩
theorem part_good (w : World) (R : Int × Nat) (i : Nat) (r : Int) (h : R = (r, i)) (hr : 0 ≤ r) : PartS w R (.returned (.tuple #[.int .i64 r, .int .i64 i, .bool true])) w := by
  subst h
  have : r ≠ -1 := by omega
  refine ⟨?_, rfl⟩
  simp [this]
def bdR (i : Nat) (r : Int) : Prop := 0 ≤ r ∧ (i = 1 ∧ r < 128 ∨ i = 2 ∧ r < 8192 ∨ i = 3 ∧ r < 524288 ∨ i = 4 ∧ r < 33554432)
theorem drop_one (s : ByteArray) (a : Nat) (h : a < s.size) : s.data.toList.drop a = s[a] :: (s.data.toList.drop a).drop 1 := by
  have := drop_in s a 0 h
  simpa using this
set_option maxRecDepth 100000 in
set_option maxHeartbeats 1600000 in
theorem part_a (s : ByteArray) (a : Nat) (w : World) (c : Nat) (HC : Hid (∀ h : a < s.size, s[a].toNat = c)) (hs : s.size ≤ 100000) (hlt : a < s.size) (h : c < 128) :
    Calls Tryd.prog 44 #[.string s, .int .i64 a] w fun e w' => PartS w (dec (s.data.toList.drop a)) e w' := by
  obtain ⟨l, HL⟩ : ∃ l, Hid (s.data.toList.drop a = l) := ⟨_, Lib.hid rfl⟩
  have DI : Hid (∀ k, (h : a + k < s.size) → l.drop k = s[a + k] :: l.drop (k + 1)) := Lib.hid (by intro k h; rw [← HL.out]; exact drop_in s a k h)
  have DO : Hid (∀ k, ¬ a + k < s.size → l.drop k = []) := Lib.hid (by intro k h; rw [← HL.out]; exact drop_out s a k h)
  have D1 : Hid (l = s[a] :: l.drop 1) := Lib.hid (by rw [← HL.out]; exact drop_one s a hlt)
  rw [HL.out]
  obtain ⟨R, HR⟩ : ∃ R, Hid (dec l = R) := ⟨_, Lib.hid rfl⟩
  have H0 : Hid (goD 0 (l.drop 1) 1 (ldR c) (ldLo c) (ldHi c) = R) := Lib.hid (by
    rw [← HR.out]
    conv => rhs; rw [D1.out]
    simp only [dec]
    rw [HC.out hlt]
    have e : ldN c = 0 := by unfold ldN; rw [if_pos (by omega)] 
    rw [e]
    rfl)
  have hl := lead_a c w h
  have Hl := Lib.hid hl
  rw [HR.out]
  clear HL HR D1 hl
  have hcc : s[a].toNat = c := HC.out hlt
  have hmask : bits .and .i64 (c : Int) 127 = ldR c := (and_7 _ (by omega) (by omega)).trans (by unfold ldR; rw [if_pos (by omega)])
  have hr0 : Hid (bdR 1 (ldR c)) := Lib.hid (by unfold ldR bdR; rw [if_pos (by omega)]; omega)
  have hlh : Hid (1 ≤ 0 → ldLo c = 0 ∧ ldHi c = 0) := Lib.hid (by omega)
  skip
  go_enter Tryd.func44, Tryd.ntmps44
  go_wp2_with (go_at_call 51; refine Hl.out.mono ?_; rintro e w' ⟨rfl, rfl⟩)
  go_loopg [4, 5, 6, 8, 9, 11, 12] (0 + 1) (fun g q4 q5 q6 q8 q9 q11 q12 wr => ∃ (i : Nat) (r lo hi : Int), i + g = 0 + 2 ∧ w = wr ∧ 1 ≤ i ∧ i ≤ 0 + 1 ∧ q4 = .int .i64 0 ∧ q5 = .int .i64 0 ∧ q6 = .bool false ∧ q8 = .int .u8 lo ∧ q9 = .int .u8 hi ∧ q11 = .int .i64 r ∧ q12 = .int .i64 i ∧ bdR i r ∧ (i ≤ 0 → 128 ≤ lo ∧ hi ≤ 191) ∧ goD (0 + 1 - i) (l.drop i) i r lo hi = R)
  case atStart => exact ⟨1, ldR c, 0, 0, by omega, rfl, by omega, by omega, rfl, rfl, rfl, rfl, rfl, rfl, rfl, hr0.out, by omega, by
    have := H0.out
    first
      | (rw [(hlh.out (by omega)).1, (hlh.out (by omega)).2] at this; exact this)
      | (simp only [goD] at this ⊢; exact this)⟩
  case round =>
    obtain ⟨i, r, lo, hi, hig, rfl, hi1, hi2, rfl, rfl, rfl, rfl, rfl, rfl, rfl, hbd, hlohi, hgo⟩ := hrel
    have HB := Lib.hid hbd
    have HD := Lib.hid hgo
    have HLH := Lib.hid hlohi
    clear hgo hlohi
    have hr0 := hbd.1
    have hr1 : r < 33554432 := by unfold bdR at hbd; omega
    clear hbd
    by_cases hie : i = 0 + 1
    · have hres := part_good w R i r (by rw [← HD.out, hie, Nat.sub_self]; rfl) hr0
      subst hie
      have HE := Lib.hid hres
      clear hres
      go_wp2_with fail
      go_ret3
      exact HE.out
    exact absurd hi2 (by omega)
set_option maxRecDepth 100000 in
set_option maxHeartbeats 1600000 in
theorem part_d (s : ByteArray) (a : Nat) (w : World) (c : Nat) (HC : Hid (∀ h : a < s.size, s[a].toNat = c)) (hs : s.size ≤ 100000) (hlt : a < s.size) (h0 : 194 ≤ c) (h1 : c < 224) :
    Calls Tryd.prog 44 #[.string s, .int .i64 a] w fun e w' => PartS w (dec (s.data.toList.drop a)) e w' := by
  obtain ⟨l, HL⟩ : ∃ l, Hid (s.data.toList.drop a = l) := ⟨_, Lib.hid rfl⟩
  have DI : Hid (∀ k, (h : a + k < s.size) → l.drop k = s[a + k] :: l.drop (k + 1)) := Lib.hid (by intro k h; rw [← HL.out]; exact drop_in s a k h)
  have DO : Hid (∀ k, ¬ a + k < s.size → l.drop k = []) := Lib.hid (by intro k h; rw [← HL.out]; exact drop_out s a k h)
  have D1 : Hid (l = s[a] :: l.drop 1) := Lib.hid (by rw [← HL.out]; exact drop_one s a hlt)
  rw [HL.out]
  obtain ⟨R, HR⟩ : ∃ R, Hid (dec l = R) := ⟨_, Lib.hid rfl⟩
  have H0 : Hid (goD 1 (l.drop 1) 1 (ldR c) (ldLo c) (ldHi c) = R) := Lib.hid (by
    rw [← HR.out]
    conv => rhs; rw [D1.out]
    simp only [dec]
    rw [HC.out hlt]
    have e : ldN c = 1 := by unfold ldN; rw [if_neg (by omega), if_neg (by omega), if_pos (by omega)] 
    rw [e]
    rfl)
  have hl := lead_d c w h0 h1
  have Hl := Lib.hid hl
  rw [HR.out]
  clear HL HR D1 hl
  have hcc : s[a].toNat = c := HC.out hlt
  have hmask : bits .and .i64 (c : Int) 31 = ldR c := (and_5 _ (by omega) (by omega)).trans (by unfold ldR; rw [if_neg (by omega), if_pos (by omega)])
  have hr0 : Hid (bdR 1 (ldR c)) := Lib.hid (by unfold ldR bdR; rw [if_neg (by omega), if_pos (by omega)]; omega)
  have hlh : Hid (1 ≤ 1 → ldLo c = 128 ∧ ldHi c = 191) := Lib.hid (by intro _; unfold ldLo ldHi; exact ⟨by (repeat' split) <;> omega, by (repeat' split) <;> omega⟩)
  skip
  go_enter Tryd.func44, Tryd.ntmps44
  go_wp2_with (go_at_call 51; refine Hl.out.mono ?_; rintro e w' ⟨rfl, rfl⟩)
  go_loopg [4, 5, 6, 8, 9, 11, 12] (1 + 1) (fun g q4 q5 q6 q8 q9 q11 q12 wr => ∃ (i : Nat) (r lo hi : Int), i + g = 1 + 2 ∧ w = wr ∧ 1 ≤ i ∧ i ≤ 1 + 1 ∧ q4 = .int .i64 0 ∧ q5 = .int .i64 0 ∧ q6 = .bool false ∧ q8 = .int .u8 lo ∧ q9 = .int .u8 hi ∧ q11 = .int .i64 r ∧ q12 = .int .i64 i ∧ bdR i r ∧ (i ≤ 1 → 128 ≤ lo ∧ hi ≤ 191) ∧ goD (1 + 1 - i) (l.drop i) i r lo hi = R)
  case atStart => exact ⟨1, ldR c, 128, 191, by omega, rfl, by omega, by omega, rfl, rfl, rfl, rfl, rfl, rfl, rfl, hr0.out, by omega, by
    have := H0.out
    first
      | (rw [(hlh.out (by omega)).1, (hlh.out (by omega)).2] at this; exact this)
      | (simp only [goD] at this ⊢; exact this)⟩
  case round =>
    obtain ⟨i, r, lo, hi, hig, rfl, hi1, hi2, rfl, rfl, rfl, rfl, rfl, rfl, rfl, hbd, hlohi, hgo⟩ := hrel
    have HB := Lib.hid hbd
    have HD := Lib.hid hgo
    have HLH := Lib.hid hlohi
    clear hgo hlohi
    have hr0 := hbd.1
    have hr1 : r < 33554432 := by unfold bdR at hbd; omega
    clear hbd
    by_cases hie : i = 1 + 1
    · have hres := part_good w R i r (by rw [← HD.out, hie, Nat.sub_self]; rfl) hr0
      subst hie
      have HE := Lib.hid hres
      clear hres
      go_wp2_with fail
      go_ret3
      exact HE.out
    have him : i ≤ 1 := by omega
    obtain ⟨hlo, hhi⟩ := HLH.out him
    clear hie
    by_cases hin : a + i < s.size
    rotate_left 1
    · have HE := Lib.hid (part_bad w R i (by
        rw [← HD.out, DO.out i hin, show 1 + 1 - i = (1 - i) + 1 by omega]; rfl))
      have hin2 : decide (s.size ≤ a + i) = true := by simp; omega
      have hin3 : decide ((s.size : Int) ≤ (a : Int) + (i : Int)) = true := by simp; omega
      have hin4 : (s.size : Int) ≤ (a : Int) + (i : Int) := by omega
      clear hin hlo hhi
      go_wp2_with fail
      go_ret3
      exact HE.out
    have hb := s[a + i].toNat_lt
    have hstep : Hid (goD (1 + 1 - i) (l.drop i) i r lo hi = if lo ≤ (s[a + i].toNat : Int) ∧ (s[a + i].toNat : Int) ≤ hi then goD (1 - i) (l.drop (i + 1)) (i + 1) (r * 64 + ((s[a + i].toNat : Int) - 128)) 128 191 else (-1, i)) := Lib.hid (by
      conv => lhs; rw [DI.out i hin, show 1 + 1 - i = (1 - i) + 1 by omega]
      rfl)
    have hn1 : decide ((s.size : Int) ≤ (a : Int) + (i : Int)) = false := by simp; omega
    by_cases hbl : (s[a + i].toNat : Int) < lo
    · have HE := Lib.hid (part_bad w R i (by rw [← HD.out, hstep.out, if_neg (by omega)]))
      have hd1 : decide ((s[a + i].toNat : Int) < lo) = true := by simpa using hbl
      clear hlo hhi
      go_wp2_with fail
      go_ret3
      exact HE.out
    have hd1 : decide ((s[a + i].toNat : Int) < lo) = false := by simpa using hbl
    by_cases hbh : hi < (s[a + i].toNat : Int)
    · have HE := Lib.hid (part_bad w R i (by rw [← HD.out, hstep.out, if_neg (by omega)]))
      have hd2 : decide (hi < (s[a + i].toNat : Int)) = true := by simpa using hbh
      clear hlo hhi
      go_wp2_with fail
      go_ret3
      exact HE.out
    have hd2 : decide (hi < (s[a + i].toNat : Int)) = false := by simpa using hbh
    have hm1 : bits .and .u8 (s[a + i].toNat : Int) 63 = (s[a + i].toNat : Int) - 128 := (u8_and63 _ (by omega) (by omega)).trans (by omega)
    have hor : bits .or .i64 (r * 64) ((s[a + i].toNat : Int) - 128) = r * 64 + ((s[a + i].toNat : Int) - 128) := or6 _ _ (by omega) (by omega) (by omega) (by omega) (by omega)
    have hb1 : 128 ≤ (s[a + i].toNat : Int) := by omega
    have hb2 : (s[a + i].toNat : Int) ≤ 191 := by omega
    have HN : Hid (goD (1 - i) (l.drop (i + 1)) (i + 1) (r * 64 + ((s[a + i].toNat : Int) - 128)) 128 191 = R) := Lib.hid (by rw [← HD.out, hstep.out, if_pos (by omega)])
    have HB2 : Hid (bdR (i + 1) (r * 64 + ((s[a + i].toNat : Int) - 128))) := Lib.hid (by have := HB.out; unfold bdR at this ⊢; omega)
    clear hbl hbh hlo hhi
    go_wp2_with fail
    go_roundg (gk - 1)
    case measure => omega
    case rel => exact ⟨i + 1, _, 128, 191, by omega, rfl, by omega, by omega, rfl, rfl, rfl, rfl, rfl, rfl, by go_num, HB2.out, by omega, by
      rw [show 1 + 1 - (i + 1) = 1 - i by omega]; exact HN.out⟩
set_option maxRecDepth 100000 in
set_option maxHeartbeats 1600000 in
theorem part_e (s : ByteArray) (a : Nat) (w : World) (c : Nat) (HC : Hid (∀ h : a < s.size, s[a].toNat = c)) (hs : s.size ≤ 100000) (hlt : a < s.size) (h : c = 224) :
    Calls Tryd.prog 44 #[.string s, .int .i64 a] w fun e w' => PartS w (dec (s.data.toList.drop a)) e w' := by
  obtain ⟨l, HL⟩ : ∃ l, Hid (s.data.toList.drop a = l) := ⟨_, Lib.hid rfl⟩
  have DI : Hid (∀ k, (h : a + k < s.size) → l.drop k = s[a + k] :: l.drop (k + 1)) := Lib.hid (by intro k h; rw [← HL.out]; exact drop_in s a k h)
  have DO : Hid (∀ k, ¬ a + k < s.size → l.drop k = []) := Lib.hid (by intro k h; rw [← HL.out]; exact drop_out s a k h)
  have D1 : Hid (l = s[a] :: l.drop 1) := Lib.hid (by rw [← HL.out]; exact drop_one s a hlt)
  rw [HL.out]
  obtain ⟨R, HR⟩ : ∃ R, Hid (dec l = R) := ⟨_, Lib.hid rfl⟩
  have H0 : Hid (goD 2 (l.drop 1) 1 (ldR c) (ldLo c) (ldHi c) = R) := Lib.hid (by
    rw [← HR.out]
    conv => rhs; rw [D1.out]
    simp only [dec]
    rw [HC.out hlt]
    have e : ldN c = 2 := by unfold ldN; rw [if_neg (by omega), if_neg (by omega), if_neg (by omega), if_pos (by omega)] 
    rw [e]
    rfl)
  have hl := lead_e c w h
  have Hl := Lib.hid hl
  rw [HR.out]
  clear HL HR D1 hl
  have hcc : s[a].toNat = c := HC.out hlt
  have hmask : bits .and .i64 (c : Int) 15 = ldR c := (and_4 _ (by omega) (by omega)).trans (by unfold ldR; rw [if_neg (by omega), if_neg (by omega), if_pos (by omega)])
  have hr0 : Hid (bdR 1 (ldR c)) := Lib.hid (by unfold ldR bdR; rw [if_neg (by omega), if_neg (by omega), if_pos (by omega)]; omega)
  have hlh : Hid (1 ≤ 2 → ldLo c = 160 ∧ ldHi c = 191) := Lib.hid (by intro _; unfold ldLo ldHi; exact ⟨by (repeat' split) <;> omega, by (repeat' split) <;> omega⟩)
  have hc256 : c < 256 := by omega
  clear h
  go_enter Tryd.func44, Tryd.ntmps44
  go_wp2_with (go_at_call 51; refine Hl.out.mono ?_; rintro e w' ⟨rfl, rfl⟩)
  go_loopg [4, 5, 6, 8, 9, 11, 12] (2 + 1) (fun g q4 q5 q6 q8 q9 q11 q12 wr => ∃ (i : Nat) (r lo hi : Int), i + g = 2 + 2 ∧ w = wr ∧ 1 ≤ i ∧ i ≤ 2 + 1 ∧ q4 = .int .i64 0 ∧ q5 = .int .i64 0 ∧ q6 = .bool false ∧ q8 = .int .u8 lo ∧ q9 = .int .u8 hi ∧ q11 = .int .i64 r ∧ q12 = .int .i64 i ∧ bdR i r ∧ (i ≤ 2 → 128 ≤ lo ∧ hi ≤ 191) ∧ goD (2 + 1 - i) (l.drop i) i r lo hi = R)
  case atStart => exact ⟨1, ldR c, 160, 191, by omega, rfl, by omega, by omega, rfl, rfl, rfl, rfl, rfl, rfl, rfl, hr0.out, by omega, by
    have := H0.out
    first
      | (rw [(hlh.out (by omega)).1, (hlh.out (by omega)).2] at this; exact this)
      | (simp only [goD] at this ⊢; exact this)⟩
  case round =>
    obtain ⟨i, r, lo, hi, hig, rfl, hi1, hi2, rfl, rfl, rfl, rfl, rfl, rfl, rfl, hbd, hlohi, hgo⟩ := hrel
    have HB := Lib.hid hbd
    have HD := Lib.hid hgo
    have HLH := Lib.hid hlohi
    clear hgo hlohi
    have hr0 := hbd.1
    have hr1 : r < 33554432 := by unfold bdR at hbd; omega
    clear hbd
    by_cases hie : i = 2 + 1
    · have hres := part_good w R i r (by rw [← HD.out, hie, Nat.sub_self]; rfl) hr0
      subst hie
      have HE := Lib.hid hres
      clear hres
      go_wp2_with fail
      go_ret3
      exact HE.out
    have him : i ≤ 2 := by omega
    obtain ⟨hlo, hhi⟩ := HLH.out him
    clear hie
    by_cases hin : a + i < s.size
    rotate_left 1
    · have HE := Lib.hid (part_bad w R i (by
        rw [← HD.out, DO.out i hin, show 2 + 1 - i = (2 - i) + 1 by omega]; rfl))
      have hin2 : decide (s.size ≤ a + i) = true := by simp; omega
      have hin3 : decide ((s.size : Int) ≤ (a : Int) + (i : Int)) = true := by simp; omega
      have hin4 : (s.size : Int) ≤ (a : Int) + (i : Int) := by omega
      clear hin hlo hhi
      go_wp2_with fail
      go_ret3
      exact HE.out
    have hb := s[a + i].toNat_lt
    have hstep : Hid (goD (2 + 1 - i) (l.drop i) i r lo hi = if lo ≤ (s[a + i].toNat : Int) ∧ (s[a + i].toNat : Int) ≤ hi then goD (2 - i) (l.drop (i + 1)) (i + 1) (r * 64 + ((s[a + i].toNat : Int) - 128)) 128 191 else (-1, i)) := Lib.hid (by
      conv => lhs; rw [DI.out i hin, show 2 + 1 - i = (2 - i) + 1 by omega]
      rfl)
    have hn1 : decide ((s.size : Int) ≤ (a : Int) + (i : Int)) = false := by simp; omega
    by_cases hbl : (s[a + i].toNat : Int) < lo
    · have HE := Lib.hid (part_bad w R i (by rw [← HD.out, hstep.out, if_neg (by omega)]))
      have hd1 : decide ((s[a + i].toNat : Int) < lo) = true := by simpa using hbl
      clear hlo hhi
      go_wp2_with fail
      go_ret3
      exact HE.out
    have hd1 : decide ((s[a + i].toNat : Int) < lo) = false := by simpa using hbl
    by_cases hbh : hi < (s[a + i].toNat : Int)
    · have HE := Lib.hid (part_bad w R i (by rw [← HD.out, hstep.out, if_neg (by omega)]))
      have hd2 : decide (hi < (s[a + i].toNat : Int)) = true := by simpa using hbh
      clear hlo hhi
      go_wp2_with fail
      go_ret3
      exact HE.out
    have hd2 : decide (hi < (s[a + i].toNat : Int)) = false := by simpa using hbh
    have hm1 : bits .and .u8 (s[a + i].toNat : Int) 63 = (s[a + i].toNat : Int) - 128 := (u8_and63 _ (by omega) (by omega)).trans (by omega)
    have hor : bits .or .i64 (r * 64) ((s[a + i].toNat : Int) - 128) = r * 64 + ((s[a + i].toNat : Int) - 128) := or6 _ _ (by omega) (by omega) (by omega) (by omega) (by omega)
    have hb1 : 128 ≤ (s[a + i].toNat : Int) := by omega
    have hb2 : (s[a + i].toNat : Int) ≤ 191 := by omega
    have HN : Hid (goD (2 - i) (l.drop (i + 1)) (i + 1) (r * 64 + ((s[a + i].toNat : Int) - 128)) 128 191 = R) := Lib.hid (by rw [← HD.out, hstep.out, if_pos (by omega)])
    have HB2 : Hid (bdR (i + 1) (r * 64 + ((s[a + i].toNat : Int) - 128))) := Lib.hid (by have := HB.out; unfold bdR at this ⊢; omega)
    clear hbl hbh hlo hhi
    go_wp2_with fail
    go_roundg (gk - 1)
    case measure => omega
    case rel => exact ⟨i + 1, _, 128, 191, by omega, rfl, by omega, by omega, rfl, rfl, rfl, rfl, rfl, rfl, by go_num, HB2.out, by omega, by
      rw [show 2 + 1 - (i + 1) = 2 - i by omega]; exact HN.out⟩
set_option maxRecDepth 100000 in
set_option maxHeartbeats 1600000 in
theorem part_f (s : ByteArray) (a : Nat) (w : World) (c : Nat) (HC : Hid (∀ h : a < s.size, s[a].toNat = c)) (hs : s.size ≤ 100000) (hlt : a < s.size) (h : c = 237) :
    Calls Tryd.prog 44 #[.string s, .int .i64 a] w fun e w' => PartS w (dec (s.data.toList.drop a)) e w' := by
  obtain ⟨l, HL⟩ : ∃ l, Hid (s.data.toList.drop a = l) := ⟨_, Lib.hid rfl⟩
  have DI : Hid (∀ k, (h : a + k < s.size) → l.drop k = s[a + k] :: l.drop (k + 1)) := Lib.hid (by intro k h; rw [← HL.out]; exact drop_in s a k h)
  have DO : Hid (∀ k, ¬ a + k < s.size → l.drop k = []) := Lib.hid (by intro k h; rw [← HL.out]; exact drop_out s a k h)
  have D1 : Hid (l = s[a] :: l.drop 1) := Lib.hid (by rw [← HL.out]; exact drop_one s a hlt)
  rw [HL.out]
  obtain ⟨R, HR⟩ : ∃ R, Hid (dec l = R) := ⟨_, Lib.hid rfl⟩
  have H0 : Hid (goD 2 (l.drop 1) 1 (ldR c) (ldLo c) (ldHi c) = R) := Lib.hid (by
    rw [← HR.out]
    conv => rhs; rw [D1.out]
    simp only [dec]
    rw [HC.out hlt]
    have e : ldN c = 2 := by unfold ldN; rw [if_neg (by omega), if_neg (by omega), if_neg (by omega), if_pos (by omega)] 
    rw [e]
    rfl)
  have hl := lead_f c w h
  have Hl := Lib.hid hl
  rw [HR.out]
  clear HL HR D1 hl
  have hcc : s[a].toNat = c := HC.out hlt
  have hmask : bits .and .i64 (c : Int) 15 = ldR c := (and_4 _ (by omega) (by omega)).trans (by unfold ldR; rw [if_neg (by omega), if_neg (by omega), if_pos (by omega)])
  have hr0 : Hid (bdR 1 (ldR c)) := Lib.hid (by unfold ldR bdR; rw [if_neg (by omega), if_neg (by omega), if_pos (by omega)]; omega)
  have hlh : Hid (1 ≤ 2 → ldLo c = 128 ∧ ldHi c = 159) := Lib.hid (by intro _; unfold ldLo ldHi; exact ⟨by (repeat' split) <;> omega, by (repeat' split) <;> omega⟩)
  have hc256 : c < 256 := by omega
  clear h
  go_enter Tryd.func44, Tryd.ntmps44
  go_wp2_with (go_at_call 51; refine Hl.out.mono ?_; rintro e w' ⟨rfl, rfl⟩)
  go_loopg [4, 5, 6, 8, 9, 11, 12] (2 + 1) (fun g q4 q5 q6 q8 q9 q11 q12 wr => ∃ (i : Nat) (r lo hi : Int), i + g = 2 + 2 ∧ w = wr ∧ 1 ≤ i ∧ i ≤ 2 + 1 ∧ q4 = .int .i64 0 ∧ q5 = .int .i64 0 ∧ q6 = .bool false ∧ q8 = .int .u8 lo ∧ q9 = .int .u8 hi ∧ q11 = .int .i64 r ∧ q12 = .int .i64 i ∧ bdR i r ∧ (i ≤ 2 → 128 ≤ lo ∧ hi ≤ 191) ∧ goD (2 + 1 - i) (l.drop i) i r lo hi = R)
  case atStart => exact ⟨1, ldR c, 128, 159, by omega, rfl, by omega, by omega, rfl, rfl, rfl, rfl, rfl, rfl, rfl, hr0.out, by omega, by
    have := H0.out
    first
      | (rw [(hlh.out (by omega)).1, (hlh.out (by omega)).2] at this; exact this)
      | (simp only [goD] at this ⊢; exact this)⟩
  case round =>
    obtain ⟨i, r, lo, hi, hig, rfl, hi1, hi2, rfl, rfl, rfl, rfl, rfl, rfl, rfl, hbd, hlohi, hgo⟩ := hrel
    have HB := Lib.hid hbd
    have HD := Lib.hid hgo
    have HLH := Lib.hid hlohi
    clear hgo hlohi
    have hr0 := hbd.1
    have hr1 : r < 33554432 := by unfold bdR at hbd; omega
    clear hbd
    by_cases hie : i = 2 + 1
    · have hres := part_good w R i r (by rw [← HD.out, hie, Nat.sub_self]; rfl) hr0
      subst hie
      have HE := Lib.hid hres
      clear hres
      go_wp2_with fail
      go_ret3
      exact HE.out
    have him : i ≤ 2 := by omega
    obtain ⟨hlo, hhi⟩ := HLH.out him
    clear hie
    by_cases hin : a + i < s.size
    rotate_left 1
    · have HE := Lib.hid (part_bad w R i (by
        rw [← HD.out, DO.out i hin, show 2 + 1 - i = (2 - i) + 1 by omega]; rfl))
      have hin2 : decide (s.size ≤ a + i) = true := by simp; omega
      have hin3 : decide ((s.size : Int) ≤ (a : Int) + (i : Int)) = true := by simp; omega
      have hin4 : (s.size : Int) ≤ (a : Int) + (i : Int) := by omega
      clear hin hlo hhi
      go_wp2_with fail
      go_ret3
      exact HE.out
    have hb := s[a + i].toNat_lt
    have hstep : Hid (goD (2 + 1 - i) (l.drop i) i r lo hi = if lo ≤ (s[a + i].toNat : Int) ∧ (s[a + i].toNat : Int) ≤ hi then goD (2 - i) (l.drop (i + 1)) (i + 1) (r * 64 + ((s[a + i].toNat : Int) - 128)) 128 191 else (-1, i)) := Lib.hid (by
      conv => lhs; rw [DI.out i hin, show 2 + 1 - i = (2 - i) + 1 by omega]
      rfl)
    have hn1 : decide ((s.size : Int) ≤ (a : Int) + (i : Int)) = false := by simp; omega
    by_cases hbl : (s[a + i].toNat : Int) < lo
    · have HE := Lib.hid (part_bad w R i (by rw [← HD.out, hstep.out, if_neg (by omega)]))
      have hd1 : decide ((s[a + i].toNat : Int) < lo) = true := by simpa using hbl
      clear hlo hhi
      go_wp2_with fail
      go_ret3
      exact HE.out
    have hd1 : decide ((s[a + i].toNat : Int) < lo) = false := by simpa using hbl
    by_cases hbh : hi < (s[a + i].toNat : Int)
    · have HE := Lib.hid (part_bad w R i (by rw [← HD.out, hstep.out, if_neg (by omega)]))
      have hd2 : decide (hi < (s[a + i].toNat : Int)) = true := by simpa using hbh
      clear hlo hhi
      go_wp2_with fail
      go_ret3
      exact HE.out
    have hd2 : decide (hi < (s[a + i].toNat : Int)) = false := by simpa using hbh
    have hm1 : bits .and .u8 (s[a + i].toNat : Int) 63 = (s[a + i].toNat : Int) - 128 := (u8_and63 _ (by omega) (by omega)).trans (by omega)
    have hor : bits .or .i64 (r * 64) ((s[a + i].toNat : Int) - 128) = r * 64 + ((s[a + i].toNat : Int) - 128) := or6 _ _ (by omega) (by omega) (by omega) (by omega) (by omega)
    have hb1 : 128 ≤ (s[a + i].toNat : Int) := by omega
    have hb2 : (s[a + i].toNat : Int) ≤ 191 := by omega
    have HN : Hid (goD (2 - i) (l.drop (i + 1)) (i + 1) (r * 64 + ((s[a + i].toNat : Int) - 128)) 128 191 = R) := Lib.hid (by rw [← HD.out, hstep.out, if_pos (by omega)])
    have HB2 : Hid (bdR (i + 1) (r * 64 + ((s[a + i].toNat : Int) - 128))) := Lib.hid (by have := HB.out; unfold bdR at this ⊢; omega)
    clear hbl hbh hlo hhi
    go_wp2_with fail
    go_roundg (gk - 1)
    case measure => omega
    case rel => exact ⟨i + 1, _, 128, 191, by omega, rfl, by omega, by omega, rfl, rfl, rfl, rfl, rfl, rfl, by go_num, HB2.out, by omega, by
      rw [show 2 + 1 - (i + 1) = 2 - i by omega]; exact HN.out⟩
set_option maxRecDepth 100000 in
set_option maxHeartbeats 1600000 in
theorem part_g (s : ByteArray) (a : Nat) (w : World) (c : Nat) (HC : Hid (∀ h : a < s.size, s[a].toNat = c)) (hs : s.size ≤ 100000) (hlt : a < s.size) (h0 : 225 ≤ c) (h1 : c < 240) (h2 : c ≠ 237) :
    Calls Tryd.prog 44 #[.string s, .int .i64 a] w fun e w' => PartS w (dec (s.data.toList.drop a)) e w' := by
  obtain ⟨l, HL⟩ : ∃ l, Hid (s.data.toList.drop a = l) := ⟨_, Lib.hid rfl⟩
  have DI : Hid (∀ k, (h : a + k < s.size) → l.drop k = s[a + k] :: l.drop (k + 1)) := Lib.hid (by intro k h; rw [← HL.out]; exact drop_in s a k h)
  have DO : Hid (∀ k, ¬ a + k < s.size → l.drop k = []) := Lib.hid (by intro k h; rw [← HL.out]; exact drop_out s a k h)
  have D1 : Hid (l = s[a] :: l.drop 1) := Lib.hid (by rw [← HL.out]; exact drop_one s a hlt)
  rw [HL.out]
  obtain ⟨R, HR⟩ : ∃ R, Hid (dec l = R) := ⟨_, Lib.hid rfl⟩
  have H0 : Hid (goD 2 (l.drop 1) 1 (ldR c) (ldLo c) (ldHi c) = R) := Lib.hid (by
    rw [← HR.out]
    conv => rhs; rw [D1.out]
    simp only [dec]
    rw [HC.out hlt]
    have e : ldN c = 2 := by unfold ldN; rw [if_neg (by omega), if_neg (by omega), if_neg (by omega), if_pos (by omega)] 
    rw [e]
    rfl)
  have hl := lead_g c w h0 h1 h2
  have Hl := Lib.hid hl
  rw [HR.out]
  clear HL HR D1 hl
  have hcc : s[a].toNat = c := HC.out hlt
  have hmask : bits .and .i64 (c : Int) 15 = ldR c := (and_4 _ (by omega) (by omega)).trans (by unfold ldR; rw [if_neg (by omega), if_neg (by omega), if_pos (by omega)])
  have hr0 : Hid (bdR 1 (ldR c)) := Lib.hid (by unfold ldR bdR; rw [if_neg (by omega), if_neg (by omega), if_pos (by omega)]; omega)
  have hlh : Hid (1 ≤ 2 → ldLo c = 128 ∧ ldHi c = 191) := Lib.hid (by intro _; unfold ldLo ldHi; exact ⟨by (repeat' split) <;> omega, by (repeat' split) <;> omega⟩)
  skip
  go_enter Tryd.func44, Tryd.ntmps44
  go_wp2_with (go_at_call 51; refine Hl.out.mono ?_; rintro e w' ⟨rfl, rfl⟩)
  go_loopg [4, 5, 6, 8, 9, 11, 12] (2 + 1) (fun g q4 q5 q6 q8 q9 q11 q12 wr => ∃ (i : Nat) (r lo hi : Int), i + g = 2 + 2 ∧ w = wr ∧ 1 ≤ i ∧ i ≤ 2 + 1 ∧ q4 = .int .i64 0 ∧ q5 = .int .i64 0 ∧ q6 = .bool false ∧ q8 = .int .u8 lo ∧ q9 = .int .u8 hi ∧ q11 = .int .i64 r ∧ q12 = .int .i64 i ∧ bdR i r ∧ (i ≤ 2 → 128 ≤ lo ∧ hi ≤ 191) ∧ goD (2 + 1 - i) (l.drop i) i r lo hi = R)
  case atStart => exact ⟨1, ldR c, 128, 191, by omega, rfl, by omega, by omega, rfl, rfl, rfl, rfl, rfl, rfl, rfl, hr0.out, by omega, by
    have := H0.out
    first
      | (rw [(hlh.out (by omega)).1, (hlh.out (by omega)).2] at this; exact this)
      | (simp only [goD] at this ⊢; exact this)⟩
  case round =>
    obtain ⟨i, r, lo, hi, hig, rfl, hi1, hi2, rfl, rfl, rfl, rfl, rfl, rfl, rfl, hbd, hlohi, hgo⟩ := hrel
    have HB := Lib.hid hbd
    have HD := Lib.hid hgo
    have HLH := Lib.hid hlohi
    clear hgo hlohi
    have hr0 := hbd.1
    have hr1 : r < 33554432 := by unfold bdR at hbd; omega
    clear hbd
    by_cases hie : i = 2 + 1
    · have hres := part_good w R i r (by rw [← HD.out, hie, Nat.sub_self]; rfl) hr0
      subst hie
      have HE := Lib.hid hres
      clear hres
      go_wp2_with fail
      go_ret3
      exact HE.out
    have him : i ≤ 2 := by omega
    obtain ⟨hlo, hhi⟩ := HLH.out him
    clear hie
    by_cases hin : a + i < s.size
    rotate_left 1
    · have HE := Lib.hid (part_bad w R i (by
        rw [← HD.out, DO.out i hin, show 2 + 1 - i = (2 - i) + 1 by omega]; rfl))
      have hin2 : decide (s.size ≤ a + i) = true := by simp; omega
      have hin3 : decide ((s.size : Int) ≤ (a : Int) + (i : Int)) = true := by simp; omega
      have hin4 : (s.size : Int) ≤ (a : Int) + (i : Int) := by omega
      clear hin hlo hhi
      go_wp2_with fail
      go_ret3
      exact HE.out
    have hb := s[a + i].toNat_lt
    have hstep : Hid (goD (2 + 1 - i) (l.drop i) i r lo hi = if lo ≤ (s[a + i].toNat : Int) ∧ (s[a + i].toNat : Int) ≤ hi then goD (2 - i) (l.drop (i + 1)) (i + 1) (r * 64 + ((s[a + i].toNat : Int) - 128)) 128 191 else (-1, i)) := Lib.hid (by
      conv => lhs; rw [DI.out i hin, show 2 + 1 - i = (2 - i) + 1 by omega]
      rfl)
    have hn1 : decide ((s.size : Int) ≤ (a : Int) + (i : Int)) = false := by simp; omega
    by_cases hbl : (s[a + i].toNat : Int) < lo
    · have HE := Lib.hid (part_bad w R i (by rw [← HD.out, hstep.out, if_neg (by omega)]))
      have hd1 : decide ((s[a + i].toNat : Int) < lo) = true := by simpa using hbl
      clear hlo hhi
      go_wp2_with fail
      go_ret3
      exact HE.out
    have hd1 : decide ((s[a + i].toNat : Int) < lo) = false := by simpa using hbl
    by_cases hbh : hi < (s[a + i].toNat : Int)
    · have HE := Lib.hid (part_bad w R i (by rw [← HD.out, hstep.out, if_neg (by omega)]))
      have hd2 : decide (hi < (s[a + i].toNat : Int)) = true := by simpa using hbh
      clear hlo hhi
      go_wp2_with fail
      go_ret3
      exact HE.out
    have hd2 : decide (hi < (s[a + i].toNat : Int)) = false := by simpa using hbh
    have hm1 : bits .and .u8 (s[a + i].toNat : Int) 63 = (s[a + i].toNat : Int) - 128 := (u8_and63 _ (by omega) (by omega)).trans (by omega)
    have hor : bits .or .i64 (r * 64) ((s[a + i].toNat : Int) - 128) = r * 64 + ((s[a + i].toNat : Int) - 128) := or6 _ _ (by omega) (by omega) (by omega) (by omega) (by omega)
    have hb1 : 128 ≤ (s[a + i].toNat : Int) := by omega
    have hb2 : (s[a + i].toNat : Int) ≤ 191 := by omega
    have HN : Hid (goD (2 - i) (l.drop (i + 1)) (i + 1) (r * 64 + ((s[a + i].toNat : Int) - 128)) 128 191 = R) := Lib.hid (by rw [← HD.out, hstep.out, if_pos (by omega)])
    have HB2 : Hid (bdR (i + 1) (r * 64 + ((s[a + i].toNat : Int) - 128))) := Lib.hid (by have := HB.out; unfold bdR at this ⊢; omega)
    clear hbl hbh hlo hhi
    go_wp2_with fail
    go_roundg (gk - 1)
    case measure => omega
    case rel => exact ⟨i + 1, _, 128, 191, by omega, rfl, by omega, by omega, rfl, rfl, rfl, rfl, rfl, rfl, by go_num, HB2.out, by omega, by
      rw [show 2 + 1 - (i + 1) = 2 - i by omega]; exact HN.out⟩
set_option maxRecDepth 100000 in
set_option maxHeartbeats 1600000 in
theorem part_h (s : ByteArray) (a : Nat) (w : World) (c : Nat) (HC : Hid (∀ h : a < s.size, s[a].toNat = c)) (hs : s.size ≤ 100000) (hlt : a < s.size) (h : c = 240) :
    Calls Tryd.prog 44 #[.string s, .int .i64 a] w fun e w' => PartS w (dec (s.data.toList.drop a)) e w' := by
  obtain ⟨l, HL⟩ : ∃ l, Hid (s.data.toList.drop a = l) := ⟨_, Lib.hid rfl⟩
  have DI : Hid (∀ k, (h : a + k < s.size) → l.drop k = s[a + k] :: l.drop (k + 1)) := Lib.hid (by intro k h; rw [← HL.out]; exact drop_in s a k h)
  have DO : Hid (∀ k, ¬ a + k < s.size → l.drop k = []) := Lib.hid (by intro k h; rw [← HL.out]; exact drop_out s a k h)
  have D1 : Hid (l = s[a] :: l.drop 1) := Lib.hid (by rw [← HL.out]; exact drop_one s a hlt)
  rw [HL.out]
  obtain ⟨R, HR⟩ : ∃ R, Hid (dec l = R) := ⟨_, Lib.hid rfl⟩
  have H0 : Hid (goD 3 (l.drop 1) 1 (ldR c) (ldLo c) (ldHi c) = R) := Lib.hid (by
    rw [← HR.out]
    conv => rhs; rw [D1.out]
    simp only [dec]
    rw [HC.out hlt]
    have e : ldN c = 3 := by unfold ldN; rw [if_neg (by omega), if_neg (by omega), if_neg (by omega), if_neg (by omega), if_pos (by omega)] 
    rw [e]
    rfl)
  have hl := lead_h c w h
  have Hl := Lib.hid hl
  rw [HR.out]
  clear HL HR D1 hl
  have hcc : s[a].toNat = c := HC.out hlt
  have hmask : bits .and .i64 (c : Int) 7 = ldR c := (and_3 _ (by omega) (by omega)).trans (by unfold ldR; rw [if_neg (by omega), if_neg (by omega), if_neg (by omega)])
  have hr0 : Hid (bdR 1 (ldR c)) := Lib.hid (by unfold ldR bdR; rw [if_neg (by omega), if_neg (by omega), if_neg (by omega)]; omega)
  have hlh : Hid (1 ≤ 3 → ldLo c = 144 ∧ ldHi c = 191) := Lib.hid (by intro _; unfold ldLo ldHi; exact ⟨by (repeat' split) <;> omega, by (repeat' split) <;> omega⟩)
  have hc256 : c < 256 := by omega
  clear h
  go_enter Tryd.func44, Tryd.ntmps44
  go_wp2_with (go_at_call 51; refine Hl.out.mono ?_; rintro e w' ⟨rfl, rfl⟩)
  go_loopg [4, 5, 6, 8, 9, 11, 12] (3 + 1) (fun g q4 q5 q6 q8 q9 q11 q12 wr => ∃ (i : Nat) (r lo hi : Int), i + g = 3 + 2 ∧ w = wr ∧ 1 ≤ i ∧ i ≤ 3 + 1 ∧ q4 = .int .i64 0 ∧ q5 = .int .i64 0 ∧ q6 = .bool false ∧ q8 = .int .u8 lo ∧ q9 = .int .u8 hi ∧ q11 = .int .i64 r ∧ q12 = .int .i64 i ∧ bdR i r ∧ (i ≤ 3 → 128 ≤ lo ∧ hi ≤ 191) ∧ goD (3 + 1 - i) (l.drop i) i r lo hi = R)
  case atStart => exact ⟨1, ldR c, 144, 191, by omega, rfl, by omega, by omega, rfl, rfl, rfl, rfl, rfl, rfl, rfl, hr0.out, by omega, by
    have := H0.out
    first
      | (rw [(hlh.out (by omega)).1, (hlh.out (by omega)).2] at this; exact this)
      | (simp only [goD] at this ⊢; exact this)⟩
  case round =>
    obtain ⟨i, r, lo, hi, hig, rfl, hi1, hi2, rfl, rfl, rfl, rfl, rfl, rfl, rfl, hbd, hlohi, hgo⟩ := hrel
    have HB := Lib.hid hbd
    have HD := Lib.hid hgo
    have HLH := Lib.hid hlohi
    clear hgo hlohi
    have hr0 := hbd.1
    have hr1 : r < 33554432 := by unfold bdR at hbd; omega
    clear hbd
    by_cases hie : i = 3 + 1
    · have hres := part_good w R i r (by rw [← HD.out, hie, Nat.sub_self]; rfl) hr0
      subst hie
      have HE := Lib.hid hres
      clear hres
      go_wp2_with fail
      go_ret3
      exact HE.out
    have him : i ≤ 3 := by omega
    obtain ⟨hlo, hhi⟩ := HLH.out him
    clear hie
    by_cases hin : a + i < s.size
    rotate_left 1
    · have HE := Lib.hid (part_bad w R i (by
        rw [← HD.out, DO.out i hin, show 3 + 1 - i = (3 - i) + 1 by omega]; rfl))
      have hin2 : decide (s.size ≤ a + i) = true := by simp; omega
      have hin3 : decide ((s.size : Int) ≤ (a : Int) + (i : Int)) = true := by simp; omega
      have hin4 : (s.size : Int) ≤ (a : Int) + (i : Int) := by omega
      clear hin hlo hhi
      go_wp2_with fail
      go_ret3
      exact HE.out
    have hb := s[a + i].toNat_lt
    have hstep : Hid (goD (3 + 1 - i) (l.drop i) i r lo hi = if lo ≤ (s[a + i].toNat : Int) ∧ (s[a + i].toNat : Int) ≤ hi then goD (3 - i) (l.drop (i + 1)) (i + 1) (r * 64 + ((s[a + i].toNat : Int) - 128)) 128 191 else (-1, i)) := Lib.hid (by
      conv => lhs; rw [DI.out i hin, show 3 + 1 - i = (3 - i) + 1 by omega]
      rfl)
    have hn1 : decide ((s.size : Int) ≤ (a : Int) + (i : Int)) = false := by simp; omega
    by_cases hbl : (s[a + i].toNat : Int) < lo
    · have HE := Lib.hid (part_bad w R i (by rw [← HD.out, hstep.out, if_neg (by omega)]))
      have hd1 : decide ((s[a + i].toNat : Int) < lo) = true := by simpa using hbl
      clear hlo hhi
      go_wp2_with fail
      go_ret3
      exact HE.out
    have hd1 : decide ((s[a + i].toNat : Int) < lo) = false := by simpa using hbl
    by_cases hbh : hi < (s[a + i].toNat : Int)
    · have HE := Lib.hid (part_bad w R i (by rw [← HD.out, hstep.out, if_neg (by omega)]))
      have hd2 : decide (hi < (s[a + i].toNat : Int)) = true := by simpa using hbh
      clear hlo hhi
      go_wp2_with fail
      go_ret3
      exact HE.out
    have hd2 : decide (hi < (s[a + i].toNat : Int)) = false := by simpa using hbh
    have hm1 : bits .and .u8 (s[a + i].toNat : Int) 63 = (s[a + i].toNat : Int) - 128 := (u8_and63 _ (by omega) (by omega)).trans (by omega)
    have hor : bits .or .i64 (r * 64) ((s[a + i].toNat : Int) - 128) = r * 64 + ((s[a + i].toNat : Int) - 128) := or6 _ _ (by omega) (by omega) (by omega) (by omega) (by omega)
    have hb1 : 128 ≤ (s[a + i].toNat : Int) := by omega
    have hb2 : (s[a + i].toNat : Int) ≤ 191 := by omega
    have HN : Hid (goD (3 - i) (l.drop (i + 1)) (i + 1) (r * 64 + ((s[a + i].toNat : Int) - 128)) 128 191 = R) := Lib.hid (by rw [← HD.out, hstep.out, if_pos (by omega)])
    have HB2 : Hid (bdR (i + 1) (r * 64 + ((s[a + i].toNat : Int) - 128))) := Lib.hid (by have := HB.out; unfold bdR at this ⊢; omega)
    clear hbl hbh hlo hhi
    go_wp2_with fail
    go_roundg (gk - 1)
    case measure => omega
    case rel => exact ⟨i + 1, _, 128, 191, by omega, rfl, by omega, by omega, rfl, rfl, rfl, rfl, rfl, rfl, by go_num, HB2.out, by omega, by
      rw [show 3 + 1 - (i + 1) = 3 - i by omega]; exact HN.out⟩
set_option maxRecDepth 100000 in
set_option maxHeartbeats 1600000 in
theorem part_i (s : ByteArray) (a : Nat) (w : World) (c : Nat) (HC : Hid (∀ h : a < s.size, s[a].toNat = c)) (hs : s.size ≤ 100000) (hlt : a < s.size) (h0 : 241 ≤ c) (h1 : c < 244) :
    Calls Tryd.prog 44 #[.string s, .int .i64 a] w fun e w' => PartS w (dec (s.data.toList.drop a)) e w' := by
  obtain ⟨l, HL⟩ : ∃ l, Hid (s.data.toList.drop a = l) := ⟨_, Lib.hid rfl⟩
  have DI : Hid (∀ k, (h : a + k < s.size) → l.drop k = s[a + k] :: l.drop (k + 1)) := Lib.hid (by intro k h; rw [← HL.out]; exact drop_in s a k h)
  have DO : Hid (∀ k, ¬ a + k < s.size → l.drop k = []) := Lib.hid (by intro k h; rw [← HL.out]; exact drop_out s a k h)
  have D1 : Hid (l = s[a] :: l.drop 1) := Lib.hid (by rw [← HL.out]; exact drop_one s a hlt)
  rw [HL.out]
  obtain ⟨R, HR⟩ : ∃ R, Hid (dec l = R) := ⟨_, Lib.hid rfl⟩
  have H0 : Hid (goD 3 (l.drop 1) 1 (ldR c) (ldLo c) (ldHi c) = R) := Lib.hid (by
    rw [← HR.out]
    conv => rhs; rw [D1.out]
    simp only [dec]
    rw [HC.out hlt]
    have e : ldN c = 3 := by unfold ldN; rw [if_neg (by omega), if_neg (by omega), if_neg (by omega), if_neg (by omega), if_pos (by omega)] 
    rw [e]
    rfl)
  have hl := lead_i c w h0 h1
  have Hl := Lib.hid hl
  rw [HR.out]
  clear HL HR D1 hl
  have hcc : s[a].toNat = c := HC.out hlt
  have hmask : bits .and .i64 (c : Int) 7 = ldR c := (and_3 _ (by omega) (by omega)).trans (by unfold ldR; rw [if_neg (by omega), if_neg (by omega), if_neg (by omega)])
  have hr0 : Hid (bdR 1 (ldR c)) := Lib.hid (by unfold ldR bdR; rw [if_neg (by omega), if_neg (by omega), if_neg (by omega)]; omega)
  have hlh : Hid (1 ≤ 3 → ldLo c = 128 ∧ ldHi c = 191) := Lib.hid (by intro _; unfold ldLo ldHi; exact ⟨by (repeat' split) <;> omega, by (repeat' split) <;> omega⟩)
  skip
  go_enter Tryd.func44, Tryd.ntmps44
  go_wp2_with (go_at_call 51; refine Hl.out.mono ?_; rintro e w' ⟨rfl, rfl⟩)
  go_loopg [4, 5, 6, 8, 9, 11, 12] (3 + 1) (fun g q4 q5 q6 q8 q9 q11 q12 wr => ∃ (i : Nat) (r lo hi : Int), i + g = 3 + 2 ∧ w = wr ∧ 1 ≤ i ∧ i ≤ 3 + 1 ∧ q4 = .int .i64 0 ∧ q5 = .int .i64 0 ∧ q6 = .bool false ∧ q8 = .int .u8 lo ∧ q9 = .int .u8 hi ∧ q11 = .int .i64 r ∧ q12 = .int .i64 i ∧ bdR i r ∧ (i ≤ 3 → 128 ≤ lo ∧ hi ≤ 191) ∧ goD (3 + 1 - i) (l.drop i) i r lo hi = R)
  case atStart => exact ⟨1, ldR c, 128, 191, by omega, rfl, by omega, by omega, rfl, rfl, rfl, rfl, rfl, rfl, rfl, hr0.out, by omega, by
    have := H0.out
    first
      | (rw [(hlh.out (by omega)).1, (hlh.out (by omega)).2] at this; exact this)
      | (simp only [goD] at this ⊢; exact this)⟩
  case round =>
    obtain ⟨i, r, lo, hi, hig, rfl, hi1, hi2, rfl, rfl, rfl, rfl, rfl, rfl, rfl, hbd, hlohi, hgo⟩ := hrel
    have HB := Lib.hid hbd
    have HD := Lib.hid hgo
    have HLH := Lib.hid hlohi
    clear hgo hlohi
    have hr0 := hbd.1
    have hr1 : r < 33554432 := by unfold bdR at hbd; omega
    clear hbd
    by_cases hie : i = 3 + 1
    · have hres := part_good w R i r (by rw [← HD.out, hie, Nat.sub_self]; rfl) hr0
      subst hie
      have HE := Lib.hid hres
      clear hres
      go_wp2_with fail
      go_ret3
      exact HE.out
    have him : i ≤ 3 := by omega
    obtain ⟨hlo, hhi⟩ := HLH.out him
    clear hie
    by_cases hin : a + i < s.size
    rotate_left 1
    · have HE := Lib.hid (part_bad w R i (by
        rw [← HD.out, DO.out i hin, show 3 + 1 - i = (3 - i) + 1 by omega]; rfl))
      have hin2 : decide (s.size ≤ a + i) = true := by simp; omega
      have hin3 : decide ((s.size : Int) ≤ (a : Int) + (i : Int)) = true := by simp; omega
      have hin4 : (s.size : Int) ≤ (a : Int) + (i : Int) := by omega
      clear hin hlo hhi
      go_wp2_with fail
      go_ret3
      exact HE.out
    have hb := s[a + i].toNat_lt
    have hstep : Hid (goD (3 + 1 - i) (l.drop i) i r lo hi = if lo ≤ (s[a + i].toNat : Int) ∧ (s[a + i].toNat : Int) ≤ hi then goD (3 - i) (l.drop (i + 1)) (i + 1) (r * 64 + ((s[a + i].toNat : Int) - 128)) 128 191 else (-1, i)) := Lib.hid (by
      conv => lhs; rw [DI.out i hin, show 3 + 1 - i = (3 - i) + 1 by omega]
      rfl)
    have hn1 : decide ((s.size : Int) ≤ (a : Int) + (i : Int)) = false := by simp; omega
    by_cases hbl : (s[a + i].toNat : Int) < lo
    · have HE := Lib.hid (part_bad w R i (by rw [← HD.out, hstep.out, if_neg (by omega)]))
      have hd1 : decide ((s[a + i].toNat : Int) < lo) = true := by simpa using hbl
      clear hlo hhi
      go_wp2_with fail
      go_ret3
      exact HE.out
    have hd1 : decide ((s[a + i].toNat : Int) < lo) = false := by simpa using hbl
    by_cases hbh : hi < (s[a + i].toNat : Int)
    · have HE := Lib.hid (part_bad w R i (by rw [← HD.out, hstep.out, if_neg (by omega)]))
      have hd2 : decide (hi < (s[a + i].toNat : Int)) = true := by simpa using hbh
      clear hlo hhi
      go_wp2_with fail
      go_ret3
      exact HE.out
    have hd2 : decide (hi < (s[a + i].toNat : Int)) = false := by simpa using hbh
    have hm1 : bits .and .u8 (s[a + i].toNat : Int) 63 = (s[a + i].toNat : Int) - 128 := (u8_and63 _ (by omega) (by omega)).trans (by omega)
    have hor : bits .or .i64 (r * 64) ((s[a + i].toNat : Int) - 128) = r * 64 + ((s[a + i].toNat : Int) - 128) := or6 _ _ (by omega) (by omega) (by omega) (by omega) (by omega)
    have hb1 : 128 ≤ (s[a + i].toNat : Int) := by omega
    have hb2 : (s[a + i].toNat : Int) ≤ 191 := by omega
    have HN : Hid (goD (3 - i) (l.drop (i + 1)) (i + 1) (r * 64 + ((s[a + i].toNat : Int) - 128)) 128 191 = R) := Lib.hid (by rw [← HD.out, hstep.out, if_pos (by omega)])
    have HB2 : Hid (bdR (i + 1) (r * 64 + ((s[a + i].toNat : Int) - 128))) := Lib.hid (by have := HB.out; unfold bdR at this ⊢; omega)
    clear hbl hbh hlo hhi
    go_wp2_with fail
    go_roundg (gk - 1)
    case measure => omega
    case rel => exact ⟨i + 1, _, 128, 191, by omega, rfl, by omega, by omega, rfl, rfl, rfl, rfl, rfl, rfl, by go_num, HB2.out, by omega, by
      rw [show 3 + 1 - (i + 1) = 3 - i by omega]; exact HN.out⟩
set_option maxRecDepth 100000 in
set_option maxHeartbeats 1600000 in
theorem part_j (s : ByteArray) (a : Nat) (w : World) (c : Nat) (HC : Hid (∀ h : a < s.size, s[a].toNat = c)) (hs : s.size ≤ 100000) (hlt : a < s.size) (h : c = 244) :
    Calls Tryd.prog 44 #[.string s, .int .i64 a] w fun e w' => PartS w (dec (s.data.toList.drop a)) e w' := by
  obtain ⟨l, HL⟩ : ∃ l, Hid (s.data.toList.drop a = l) := ⟨_, Lib.hid rfl⟩
  have DI : Hid (∀ k, (h : a + k < s.size) → l.drop k = s[a + k] :: l.drop (k + 1)) := Lib.hid (by intro k h; rw [← HL.out]; exact drop_in s a k h)
  have DO : Hid (∀ k, ¬ a + k < s.size → l.drop k = []) := Lib.hid (by intro k h; rw [← HL.out]; exact drop_out s a k h)
  have D1 : Hid (l = s[a] :: l.drop 1) := Lib.hid (by rw [← HL.out]; exact drop_one s a hlt)
  rw [HL.out]
  obtain ⟨R, HR⟩ : ∃ R, Hid (dec l = R) := ⟨_, Lib.hid rfl⟩
  have H0 : Hid (goD 3 (l.drop 1) 1 (ldR c) (ldLo c) (ldHi c) = R) := Lib.hid (by
    rw [← HR.out]
    conv => rhs; rw [D1.out]
    simp only [dec]
    rw [HC.out hlt]
    have e : ldN c = 3 := by unfold ldN; rw [if_neg (by omega), if_neg (by omega), if_neg (by omega), if_neg (by omega), if_pos (by omega)] 
    rw [e]
    rfl)
  have hl := lead_j c w h
  have Hl := Lib.hid hl
  rw [HR.out]
  clear HL HR D1 hl
  have hcc : s[a].toNat = c := HC.out hlt
  have hmask : bits .and .i64 (c : Int) 7 = ldR c := (and_3 _ (by omega) (by omega)).trans (by unfold ldR; rw [if_neg (by omega), if_neg (by omega), if_neg (by omega)])
  have hr0 : Hid (bdR 1 (ldR c)) := Lib.hid (by unfold ldR bdR; rw [if_neg (by omega), if_neg (by omega), if_neg (by omega)]; omega)
  have hlh : Hid (1 ≤ 3 → ldLo c = 128 ∧ ldHi c = 143) := Lib.hid (by intro _; unfold ldLo ldHi; exact ⟨by (repeat' split) <;> omega, by (repeat' split) <;> omega⟩)
  have hc256 : c < 256 := by omega
  clear h
  go_enter Tryd.func44, Tryd.ntmps44
  go_wp2_with (go_at_call 51; refine Hl.out.mono ?_; rintro e w' ⟨rfl, rfl⟩)
  go_loopg [4, 5, 6, 8, 9, 11, 12] (3 + 1) (fun g q4 q5 q6 q8 q9 q11 q12 wr => ∃ (i : Nat) (r lo hi : Int), i + g = 3 + 2 ∧ w = wr ∧ 1 ≤ i ∧ i ≤ 3 + 1 ∧ q4 = .int .i64 0 ∧ q5 = .int .i64 0 ∧ q6 = .bool false ∧ q8 = .int .u8 lo ∧ q9 = .int .u8 hi ∧ q11 = .int .i64 r ∧ q12 = .int .i64 i ∧ bdR i r ∧ (i ≤ 3 → 128 ≤ lo ∧ hi ≤ 191) ∧ goD (3 + 1 - i) (l.drop i) i r lo hi = R)
  case atStart => exact ⟨1, ldR c, 128, 143, by omega, rfl, by omega, by omega, rfl, rfl, rfl, rfl, rfl, rfl, rfl, hr0.out, by omega, by
    have := H0.out
    first
      | (rw [(hlh.out (by omega)).1, (hlh.out (by omega)).2] at this; exact this)
      | (simp only [goD] at this ⊢; exact this)⟩
  case round =>
    obtain ⟨i, r, lo, hi, hig, rfl, hi1, hi2, rfl, rfl, rfl, rfl, rfl, rfl, rfl, hbd, hlohi, hgo⟩ := hrel
    have HB := Lib.hid hbd
    have HD := Lib.hid hgo
    have HLH := Lib.hid hlohi
    clear hgo hlohi
    have hr0 := hbd.1
    have hr1 : r < 33554432 := by unfold bdR at hbd; omega
    clear hbd
    by_cases hie : i = 3 + 1
    · have hres := part_good w R i r (by rw [← HD.out, hie, Nat.sub_self]; rfl) hr0
      subst hie
      have HE := Lib.hid hres
      clear hres
      go_wp2_with fail
      go_ret3
      exact HE.out
    have him : i ≤ 3 := by omega
    obtain ⟨hlo, hhi⟩ := HLH.out him
    clear hie
    by_cases hin : a + i < s.size
    rotate_left 1
    · have HE := Lib.hid (part_bad w R i (by
        rw [← HD.out, DO.out i hin, show 3 + 1 - i = (3 - i) + 1 by omega]; rfl))
      have hin2 : decide (s.size ≤ a + i) = true := by simp; omega
      have hin3 : decide ((s.size : Int) ≤ (a : Int) + (i : Int)) = true := by simp; omega
      have hin4 : (s.size : Int) ≤ (a : Int) + (i : Int) := by omega
      clear hin hlo hhi
      go_wp2_with fail
      go_ret3
      exact HE.out
    have hb := s[a + i].toNat_lt
    have hstep : Hid (goD (3 + 1 - i) (l.drop i) i r lo hi = if lo ≤ (s[a + i].toNat : Int) ∧ (s[a + i].toNat : Int) ≤ hi then goD (3 - i) (l.drop (i + 1)) (i + 1) (r * 64 + ((s[a + i].toNat : Int) - 128)) 128 191 else (-1, i)) := Lib.hid (by
      conv => lhs; rw [DI.out i hin, show 3 + 1 - i = (3 - i) + 1 by omega]
      rfl)
    have hn1 : decide ((s.size : Int) ≤ (a : Int) + (i : Int)) = false := by simp; omega
    by_cases hbl : (s[a + i].toNat : Int) < lo
    · have HE := Lib.hid (part_bad w R i (by rw [← HD.out, hstep.out, if_neg (by omega)]))
      have hd1 : decide ((s[a + i].toNat : Int) < lo) = true := by simpa using hbl
      clear hlo hhi
      go_wp2_with fail
      go_ret3
      exact HE.out
    have hd1 : decide ((s[a + i].toNat : Int) < lo) = false := by simpa using hbl
    by_cases hbh : hi < (s[a + i].toNat : Int)
    · have HE := Lib.hid (part_bad w R i (by rw [← HD.out, hstep.out, if_neg (by omega)]))
      have hd2 : decide (hi < (s[a + i].toNat : Int)) = true := by simpa using hbh
      clear hlo hhi
      go_wp2_with fail
      go_ret3
      exact HE.out
    have hd2 : decide (hi < (s[a + i].toNat : Int)) = false := by simpa using hbh
    have hm1 : bits .and .u8 (s[a + i].toNat : Int) 63 = (s[a + i].toNat : Int) - 128 := (u8_and63 _ (by omega) (by omega)).trans (by omega)
    have hor : bits .or .i64 (r * 64) ((s[a + i].toNat : Int) - 128) = r * 64 + ((s[a + i].toNat : Int) - 128) := or6 _ _ (by omega) (by omega) (by omega) (by omega) (by omega)
    have hb1 : 128 ≤ (s[a + i].toNat : Int) := by omega
    have hb2 : (s[a + i].toNat : Int) ≤ 191 := by omega
    have HN : Hid (goD (3 - i) (l.drop (i + 1)) (i + 1) (r * 64 + ((s[a + i].toNat : Int) - 128)) 128 191 = R) := Lib.hid (by rw [← HD.out, hstep.out, if_pos (by omega)])
    have HB2 : Hid (bdR (i + 1) (r * 64 + ((s[a + i].toNat : Int) - 128))) := Lib.hid (by have := HB.out; unfold bdR at this ⊢; omega)
    clear hbl hbh hlo hhi
    go_wp2_with fail
    go_roundg (gk - 1)
    case measure => omega
    case rel => exact ⟨i + 1, _, 128, 191, by omega, rfl, by omega, by omega, rfl, rfl, rfl, rfl, rfl, rfl, by go_num, HB2.out, by omega, by
      rw [show 3 + 1 - (i + 1) = 3 - i by omega]; exact HN.out⟩
theorem part_b (s : ByteArray) (a : Nat) (w : World) (c : Nat) (HC : Hid (∀ h : a < s.size, s[a].toNat = c)) (hs : s.size ≤ 100000) (hlt : a < s.size) (h0 : 128 ≤ c) (h1 : c < 194) :
    Calls Tryd.prog 44 #[.string s, .int .i64 a] w fun e w' => PartS w (dec (s.data.toList.drop a)) e w' := by
  have HR := Lib.hid (part_bad w (dec (s.data.toList.drop a)) 1 (by
    rw [drop_one s a hlt]
    simp only [dec]
    rw [HC.out hlt, if_pos (by unfold ldN; rw [if_neg (by omega), if_pos (by omega)]; omega)]))
  have hl := lead_b c w h0 h1
  have Hl := Lib.hid hl
  clear hl
  have hcc : s[a].toNat = c := HC.out hlt
  go_enter Tryd.func44, Tryd.ntmps44
  go_wp2_with (go_at_call 51; refine Hl.out.mono ?_; rintro e w' ⟨rfl, rfl⟩)
  go_ret3
  exact HR.out
theorem part_c (s : ByteArray) (a : Nat) (w : World) (c : Nat) (HC : Hid (∀ h : a < s.size, s[a].toNat = c)) (hs : s.size ≤ 100000) (hlt : a < s.size) (h0 : 245 ≤ c) (h1 : c < 256) :
    Calls Tryd.prog 44 #[.string s, .int .i64 a] w fun e w' => PartS w (dec (s.data.toList.drop a)) e w' := by
  have HR := Lib.hid (part_bad w (dec (s.data.toList.drop a)) 1 (by
    rw [drop_one s a hlt]
    simp only [dec]
    rw [HC.out hlt, if_pos (by unfold ldN; rw [if_neg (by omega), if_neg (by omega), if_neg (by omega), if_neg (by omega), if_neg (by omega)]; omega)]))
  have hl := lead_c c w h0 h1
  have Hl := Lib.hid hl
  clear hl
  have hcc : s[a].toNat = c := HC.out hlt
  go_enter Tryd.func44, Tryd.ntmps44
  go_wp2_with (go_at_call 51; refine Hl.out.mono ?_; rintro e w' ⟨rfl, rfl⟩)
  go_ret3
  exact HR.out
theorem part_any (s : ByteArray) (a : Nat) (w : World) (hs : s.size ≤ 100000) (hlt : a < s.size) :
    Calls Tryd.prog 44 #[.string s, .int .i64 a] w fun e w' => PartS w (dec (s.data.toList.drop a)) e w' := by
  obtain ⟨c, hc⟩ : ∃ c, s[a].toNat = c := ⟨_, rfl⟩
  have hlt' := s[a].toNat_lt
  have HC : Hid (∀ h : a < s.size, s[a].toNat = c) := Lib.hid (fun _ => hc)
  rw [hc] at hlt'
  by_cases c1 : c < 128
  · exact part_a s a w c HC hs hlt c1
  by_cases c2 : c < 194
  · exact part_b s a w c HC hs hlt (by omega) c2
  by_cases c3 : c < 224
  · exact part_d s a w c HC hs hlt (by omega) c3
  by_cases c4 : c = 224
  · exact part_e s a w c HC hs hlt c4
  by_cases c5 : c = 237
  · exact part_f s a w c HC hs hlt c5
  by_cases c6 : c < 240
  · exact part_g s a w c HC hs hlt (by omega) c6 c5
  by_cases c7 : c = 240
  · exact part_h s a w c HC hs hlt c7
  by_cases c8 : c < 244
  · exact part_i s a w c HC hs hlt (by omega) c8
  by_cases c9 : c = 244
  · exact part_j s a w c HC hs hlt c9
  · exact part_c s a w c HC hs hlt (by omega) (by omega)
theorem rnext_any (s : ByteArray) (a : Int) (w : World) (hs : s.size ≤ 100000) : Calls Tryd.prog 38 #[.string s, .int .i64 a] w fun e w' => NextS w s a e w' := by
  by_cases h0 : a < 0
  · have HE : Hid (NextS w s a (.returned (.tuple #[.int .i64 0, .int .i64 0, .bool false])) w) := Lib.hid (by
      unfold NextS; rw [nxt_out (by omega)]; exact ⟨rfl, rfl⟩)
    have hd : decide (a < 0) = true := by simpa using h0
    go_enter Tryd.func38, Tryd.ntmps38
    go_wp2_with fail
    go_ret3
    exact HE.out
  obtain ⟨a, rfl⟩ := Int.eq_ofNat_of_zero_le (show 0 ≤ a by omega)
  have hd : decide ((a : Int) < 0) = false := by simp
  by_cases h1 : a < s.size
  rotate_left 1
  · have HE : Hid (NextS w s a (.returned (.tuple #[.int .i64 0, .int .i64 0, .bool false])) w) := Lib.hid (by
      unfold NextS; rw [nxt_out (by omega)]; exact ⟨rfl, rfl⟩)
    have h1' : s.size ≤ a := by omega
    have hd2 : decide (s.size ≤ a) = true := by simpa using h1'
    go_enter Tryd.func38, Tryd.ntmps38
    go_wp2_with fail
    go_ret3
    exact HE.out
  obtain ⟨r, n, hR⟩ : ∃ r n, dec (s.data.toList.drop a) = (r, n) := ⟨_, _, rfl⟩
  have hrd := part_any s a w hs h1
  rw [hR] at hrd
  have h2 : ¬ (s.size : Int) ≤ a := by omega
  by_cases hr : r = -1
  · have HE : Hid (NextS w s a (.returned (.tuple #[.int .i64 0, .int .i64 0, .bool false])) w) := Lib.hid (by
      unfold NextS nxt; rw [if_pos (by omega)]; simp only [Int.toNat_natCast, hR]; rw [if_pos hr]; exact ⟨rfl, trivial⟩)
    subst hr
    have Hrd : Hid (Calls Tryd.prog 44 #[.string s, .int .i64 a] w fun e w' => e = .returned (.tuple #[.int .i64 0, .int .i64 n, .bool false]) ∧ w = w') := Lib.hid hrd
    clear hR hrd
    go_enter Tryd.func38, Tryd.ntmps38
    go_wp2_with (go_at_call 44; refine Hrd.out.mono ?_; rintro e w' ⟨rfl, rfl⟩)
    go_ret3
    exact HE.out
  · have HE : Hid (NextS w s a (.returned (.tuple #[.int .i64 r, .int .i64 n, .bool true])) w) := Lib.hid (by
      unfold NextS nxt; rw [if_pos (by omega)]; simp only [Int.toNat_natCast, hR]; rw [if_neg hr]; exact ⟨rfl, trivial⟩)
    have Hrd : Hid (Calls Tryd.prog 44 #[.string s, .int .i64 a] w fun e w' => e = .returned (.tuple #[.int .i64 r, .int .i64 n, .bool true]) ∧ w = w') := Lib.hid (by
      refine hrd.mono ?_
      rintro e w' ⟨he, hw⟩
      refine ⟨?_, hw⟩
      rw [he]
      simp [hr])
    clear hR hrd hr
    go_enter Tryd.func38, Tryd.ntmps38
    go_wp2_with (go_at_call 44; refine Hrd.out.mono ?_; rintro e w' ⟨rfl, rfl⟩)
    go_ret3
    exact HE.out
end Go.Proofs.YtehehmpepkgbeaaDoor
