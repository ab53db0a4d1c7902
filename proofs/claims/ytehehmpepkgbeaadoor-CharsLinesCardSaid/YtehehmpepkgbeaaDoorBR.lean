/- The contracts of utf8.read and Next. -/
import Derived.Test.YtehehmpepkgbeaaDoorBC
namespace Go.Proofs.YtehehmpepkgbeaaDoor
open Go.RowKit
set_option linter.unusedVariables false
set_option linter.unusedSimpArgs false
theorem nx128 : ∀ a < 256, 128 ≤ a → a < 192 → a ^^^ 128 = a - 128 := by decide +kernel
theorem nx192 : ∀ a < 256, 192 ≤ a → a ^^^ 192 = a - 192 := by decide +kernel
theorem nx224 : ∀ a < 256, 224 ≤ a → a ^^^ 224 = a - 224 := by decide +kernel
theorem nx240 : ∀ a < 256, 240 ≤ a → a ^^^ 240 = a - 240 := by decide +kernel
theorem xor_128 (a : Nat) (h0 : 128 ≤ a) (h1 : a < 192) : bits .xor .u8 (a : Int) 128 = (a : Int) - 128 := by
  have := u8_xor_nat a 128 (by omega) (by omega)
  rw [nx128 a (by omega) h0 h1] at this
  exact this.trans (by omega)
theorem xor_0 (a : Nat) (h1 : a < 256) : bits .xor .u8 (a : Int) 0 = (a : Int) := by
  have := u8_xor_nat a 0 (by omega) (by omega)
  rw [Nat.xor_zero] at this
  exact this
theorem xor_192 (a : Nat) (h0 : 192 ≤ a) (h1 : a < 256) : bits .xor .u8 (a : Int) 192 = (a : Int) - 192 := by
  have := u8_xor_nat a 192 (by omega) (by omega)
  rw [nx192 a (by omega) h0] at this
  exact this.trans (by omega)
theorem xor_224 (a : Nat) (h0 : 224 ≤ a) (h1 : a < 256) : bits .xor .u8 (a : Int) 224 = (a : Int) - 224 := by
  have := u8_xor_nat a 224 (by omega) (by omega)
  rw [nx224 a (by omega) h0] at this
  exact this.trans (by omega)
theorem xor_240 (a : Nat) (h0 : 240 ≤ a) (h1 : a < 256) : bits .xor .u8 (a : Int) 240 = (a : Int) - 240 := by
  have := u8_xor_nat a 240 (by omega) (by omega)
  rw [nx240 a (by omega) h0] at this
  exact this.trans (by omega)
/-- The state of utf8.read behind k rounds: what has been read may begin a scalar of z bytes. -/
def V (z k : Nat) (r lo hi : Int) : Prop :=
  (z = 1 ∧ k = 1) ∨
  (z = 2 ∧ k = 1 ∧ lo = 128 ∧ hi = 191 ∧ 2 ≤ r ∧ r < 32) ∨ (z = 2 ∧ k = 2) ∨
  (z = 3 ∧ k = 1 ∧ 0 ≤ r ∧ r < 16 ∧ (r = 0 ∧ lo = 160 ∨ r ≠ 0 ∧ lo = 128) ∧ (r = 13 ∧ hi = 159 ∨ r ≠ 13 ∧ hi = 191)) ∨
  (z = 3 ∧ k = 2 ∧ lo = 128 ∧ hi = 191 ∧ 32 ≤ r ∧ r < 1024 ∧ (r < 864 ∨ 895 < r)) ∨ (z = 3 ∧ k = 3) ∨
  (z = 4 ∧ k = 1 ∧ 0 ≤ r ∧ r ≤ 4 ∧ (r = 0 ∧ lo = 144 ∨ r ≠ 0 ∧ lo = 128) ∧ (r = 4 ∧ hi = 143 ∨ r ≠ 4 ∧ hi = 191)) ∨
  (z = 4 ∧ k = 2 ∧ lo = 128 ∧ hi = 191 ∧ 16 ≤ r ∧ r < 272) ∨
  (z = 4 ∧ k = 3 ∧ lo = 128 ∧ hi = 191 ∧ 1024 ≤ r ∧ r < 17408) ∨ (z = 4 ∧ k = 4)
theorem V_bd {z k : Nat} {r lo hi : Int} (h : V z k r lo hi) (hk : k < z) : 0 ≤ r ∧ r < 32768 ∧ 128 ≤ lo ∧ hi ≤ 191 := by
  unfold V at h; omega
theorem V_next {z k : Nat} {r lo hi b : Int} (h : V z k r lo hi) (hk : k < z) (h0 : lo ≤ b) (h1 : b ≤ hi) : V z (k + 1) (r * 64 + (b - 128)) 128 191 := by
  unfold V at h
  rcases h with ⟨rfl, rfl⟩ | ⟨rfl, rfl, rfl, rfl, h⟩ | ⟨rfl, rfl⟩ | ⟨rfl, rfl, h⟩ | ⟨rfl, rfl, rfl, rfl, h⟩ | ⟨rfl, rfl⟩ | ⟨rfl, rfl, h⟩ | ⟨rfl, rfl, rfl, rfl, h⟩ | ⟨rfl, rfl, rfl, rfl, h⟩ | ⟨rfl, rfl⟩
  · omega
  · exact .inr (.inr (.inl ⟨rfl, rfl⟩))
  · omega
  · exact .inr (.inr (.inr (.inr (.inl ⟨rfl, rfl, rfl, rfl, by omega⟩))))
  · exact .inr (.inr (.inr (.inr (.inr (.inl ⟨rfl, rfl⟩)))))
  · omega
  · exact .inr (.inr (.inr (.inr (.inr (.inr (.inr (.inl ⟨rfl, rfl, rfl, rfl, by omega⟩)))))))
  · exact .inr (.inr (.inr (.inr (.inr (.inr (.inr (.inr (.inl ⟨rfl, rfl, rfl, rfl, by omega⟩))))))))
  · exact .inr (.inr (.inr (.inr (.inr (.inr (.inr (.inr (.inr ⟨rfl, rfl⟩))))))))
  · omega
theorem begB_iff (x : Int) (n z : Int) (d : Nat) (hd : (z - n).toNat = d) : begB x n z = true ↔ lenF (x * 64 ^ d) = z ∨ lenF (x * 64 ^ d + (64 ^ d - 1)) = z := by
  subst hd
  simp [begB]
theorem V_beg {z k : Nat} {r lo hi b : Int} (h : V z k r lo hi) (hk : k < z) (h0 : 128 ≤ b) (h1 : b ≤ 191) :
    begB (r * 64 + (b - 128)) ((k : Int) + 1) (z : Int) = true ↔ lo ≤ b ∧ b ≤ hi := by
  unfold V at h
  rcases h with ⟨rfl, rfl⟩ | ⟨rfl, rfl, rfl, rfl, h⟩ | ⟨rfl, rfl⟩ | ⟨rfl, rfl, h⟩ | ⟨rfl, rfl, rfl, rfl, h⟩ | ⟨rfl, rfl⟩ | ⟨rfl, rfl, h⟩ | ⟨rfl, rfl, rfl, rfl, h⟩ | ⟨rfl, rfl, rfl, rfl, h⟩ | ⟨rfl, rfl⟩
  · omega
  · rw [begB_iff _ _ _ 0 rfl]; show (lenF _ = 2 ∨ lenF _ = 2) ↔ _; rw [lenF_2, lenF_2]; omega
  · omega
  · rw [begB_iff _ _ _ 1 rfl]; show (lenF _ = 3 ∨ lenF _ = 3) ↔ _; rw [lenF_3, lenF_3]; omega
  · rw [begB_iff _ _ _ 0 rfl]; show (lenF _ = 3 ∨ lenF _ = 3) ↔ _; rw [lenF_3, lenF_3]; omega
  · omega
  · rw [begB_iff _ _ _ 2 rfl]; show (lenF _ = 4 ∨ lenF _ = 4) ↔ _; rw [lenF_4, lenF_4]; omega
  · rw [begB_iff _ _ _ 1 rfl]; show (lenF _ = 4 ∨ lenF _ = 4) ↔ _; rw [lenF_4, lenF_4]; omega
  · rw [begB_iff _ _ _ 0 rfl]; show (lenF _ = 4 ∨ lenF _ = 4) ↔ _; rw [lenF_4, lenF_4]; omega
  · omega
def szN (c : Nat) : Nat := if c < 192 then 1 else if c < 224 then 2 else if c < 240 then 3 else 4
theorem szF_of {c : Nat} (h : c < 256) : szF (c / 16) = (szN c : Nat) := by
  unfold szF szN
  by_cases h1 : c < 192
  · rw [if_pos (by omega), if_pos h1]; rfl
  by_cases h2 : c < 224
  · rw [if_neg (by omega), if_pos (by omega), if_neg h1, if_pos h2]; rfl
  by_cases h3 : c < 240
  · rw [if_neg (by omega), if_neg (by omega), if_pos (by omega), if_neg h1, if_neg h2, if_pos h3]; rfl
  · rw [if_neg (by omega), if_neg (by omega), if_neg (by omega), if_neg h1, if_neg h2, if_neg h3]; rfl
theorem szN_bd (c : Nat) : 1 ≤ szN c ∧ szN c ≤ 4 := by
  unfold szN; repeat' split
  all_goals omega
/-- What the first byte leaves: its bits without the mark of its length. -/
theorem first_of {c : Nat} (h : c < 256) : ∃ x : Int, bits .xor .u8 (c : Int) (mrkF (szN c)) = x ∧ 0 ≤ x ∧ x < 192 ∧
    (0 ≤ ldN c → begB x 1 (szN c : Nat) = true ∧ x = ldR c ∧ (ldN c).toNat = szN c - 1 ∧ V (szN c) 1 (ldR c) (ldLo c) (ldHi c)) ∧
    (ldN c < 0 → begB x 1 (szN c : Nat) = false) := by
  have hz : ∀ {b : Bool} {p : Prop}, (b = true ↔ p) → ¬ p → b = false := fun {b} {p} h1 h2 => by
    cases b
    · rfl
    · exact absurd (h1.1 rfl) h2
  by_cases h1 : c < 192
  · have e : szN c = 1 := by unfold szN; rw [if_pos h1]
    rw [e]
    refine ⟨c, xor_0 c h, by omega, by omega, fun hl => ?_, fun hl => ?_⟩
    · have hc : c < 128 := by
        by_cases g : c < 128
        · exact g
        · unfold ldN at hl; rw [if_neg (by omega), if_pos (by omega)] at hl; omega
      have e2 : ldR c = c := by unfold ldR; rw [if_pos (by omega)]
      have e3 : ldN c = 0 := by unfold ldN; rw [if_pos (by omega)]
      refine ⟨?_, e2.symm, by rw [e3]; rfl, .inl ⟨rfl, rfl⟩⟩
      rw [begB_iff _ _ _ 0 rfl]; show (lenF _ = 1 ∨ lenF _ = 1); rw [lenF_1, lenF_1]; omega
    · have hc : ¬ c < 128 := by
        intro g
        unfold ldN at hl; rw [if_pos (by omega)] at hl; omega
      refine hz (begB_iff _ _ _ 0 rfl) ?_; show ¬ (lenF _ = 1 ∨ lenF _ = 1); rw [lenF_1, lenF_1]; omega
  by_cases h2 : c < 224
  · have e : szN c = 2 := by unfold szN; rw [if_neg h1, if_pos h2]
    rw [e]
    refine ⟨(c : Int) - 192, xor_192 c (by omega) h, by omega, by omega, fun hl => ?_, fun hl => ?_⟩
    · have hc : ¬ c < 194 := by
        intro g
        unfold ldN at hl; rw [if_neg (by omega), if_pos (by omega)] at hl; omega
      have e2 : ldR c = c - 192 := by unfold ldR; rw [if_neg (by omega), if_pos (by omega)]
      have e3 : ldN c = 1 := by unfold ldN; rw [if_neg (by omega), if_neg (by omega), if_pos (by omega)]
      have e4 : ldLo c = 128 := by unfold ldLo; rw [if_neg (by omega), if_neg (by omega)]
      have e5 : ldHi c = 191 := by unfold ldHi; rw [if_neg (by omega), if_neg (by omega)]
      refine ⟨?_, e2.symm, by rw [e3]; rfl, .inr (.inl ⟨rfl, rfl, e4, e5, by omega, by omega⟩)⟩
      rw [begB_iff _ _ _ 1 rfl]; show (lenF _ = 2 ∨ lenF _ = 2); rw [lenF_2, lenF_2]; omega
    · have hc : c < 194 := by
        by_cases g : c < 194
        · exact g
        · unfold ldN at hl; rw [if_neg (by omega), if_neg (by omega), if_pos (by omega)] at hl; omega
      refine hz (begB_iff _ _ _ 1 rfl) ?_; show ¬ (lenF _ = 2 ∨ lenF _ = 2); rw [lenF_2, lenF_2]; omega
  by_cases h3 : c < 240
  · have e : szN c = 3 := by unfold szN; rw [if_neg h1, if_neg h2, if_pos h3]
    rw [e]
    refine ⟨(c : Int) - 224, xor_224 c (by omega) h, by omega, by omega, fun hl => ?_, fun hl => ?_⟩
    · have e2 : ldR c = c - 224 := by unfold ldR; rw [if_neg (by omega), if_neg (by omega), if_pos (by omega)]
      have e3 : ldN c = 2 := by unfold ldN; rw [if_neg (by omega), if_neg (by omega), if_neg (by omega), if_pos (by omega)]
      have e4 : ldR c = 0 ∧ ldLo c = 160 ∨ ldR c ≠ 0 ∧ ldLo c = 128 := by
        rw [e2]; unfold ldLo
        by_cases g : (c : Int) = 224
        · rw [if_pos g]; omega
        · rw [if_neg g, if_neg (by omega)]; omega
      have e5 : ldR c = 13 ∧ ldHi c = 159 ∨ ldR c ≠ 13 ∧ ldHi c = 191 := by
        rw [e2]; unfold ldHi
        by_cases g : (c : Int) = 237
        · rw [if_pos g]; omega
        · rw [if_neg g, if_neg (by omega)]; omega
      refine ⟨?_, e2.symm, by rw [e3]; rfl, .inr (.inr (.inr (.inl ⟨rfl, rfl, by omega, by omega, e4, e5⟩)))⟩
      rw [begB_iff _ _ _ 2 rfl]; show (lenF _ = 3 ∨ lenF _ = 3); rw [lenF_3, lenF_3]; omega
    · unfold ldN at hl; rw [if_neg (by omega), if_neg (by omega), if_neg (by omega), if_pos (by omega)] at hl; omega
  · have e : szN c = 4 := by unfold szN; rw [if_neg h1, if_neg h2, if_neg h3]
    rw [e]
    refine ⟨(c : Int) - 240, xor_240 c (by omega) h, by omega, by omega, fun hl => ?_, fun hl => ?_⟩
    · have hc : c < 245 := by
        by_cases g : c < 245
        · exact g
        · unfold ldN at hl; rw [if_neg (by omega), if_neg (by omega), if_neg (by omega), if_neg (by omega), if_neg (by omega)] at hl; omega
      have e2 : ldR c = c - 240 := by unfold ldR; rw [if_neg (by omega), if_neg (by omega), if_neg (by omega)]
      have e3 : ldN c = 3 := by unfold ldN; rw [if_neg (by omega), if_neg (by omega), if_neg (by omega), if_neg (by omega), if_pos (by omega)]
      have e4 : ldR c = 0 ∧ ldLo c = 144 ∨ ldR c ≠ 0 ∧ ldLo c = 128 := by
        rw [e2]; unfold ldLo
        by_cases g : (c : Int) = 240
        · rw [if_neg (by omega), if_pos g]; omega
        · rw [if_neg (by omega), if_neg g]; omega
      have e5 : ldR c = 4 ∧ ldHi c = 143 ∨ ldR c ≠ 4 ∧ ldHi c = 191 := by
        rw [e2]; unfold ldHi
        by_cases g : (c : Int) = 244
        · rw [if_neg (by omega), if_pos g]; omega
        · rw [if_neg (by omega), if_neg g]; omega
      refine ⟨?_, e2.symm, by rw [e3]; rfl, .inr (.inr (.inr (.inr (.inr (.inr (.inl ⟨rfl, rfl, by omega, by omega, e4, e5⟩))))))⟩
      rw [begB_iff _ _ _ 3 rfl]; show (lenF _ = 4 ∨ lenF _ = 4); rw [lenF_4, lenF_4]; omega
    · have hc : ¬ c < 245 := by
        intro g
        unfold ldN at hl; rw [if_neg (by omega), if_neg (by omega), if_neg (by omega), if_neg (by omega), if_pos (by omega)] at hl; omega
      refine hz (begB_iff _ _ _ 3 rfl) ?_; show ¬ (lenF _ = 4 ∨ lenF _ = 4); rw [lenF_4, lenF_4]; omega
def RdR (z : Nat) (l : List UInt8) (R : Int × Nat) (k : Nat) (r : Int) : Prop :=
  (k = 0 ∧ r = 0 ∧ dec l = R) ∨ (1 ≤ k ∧ k ≤ z ∧ ∃ lo hi, V z k r lo hi ∧ goD (z - k) (l.drop k) k r lo hi = R)
theorem drop_in (s : ByteArray) (a k : Nat) (h : a + k < s.size) : (s.data.toList.drop a).drop k = s[a + k] :: (s.data.toList.drop a).drop (k + 1) := by
  have e := List.drop_eq_getElem_cons (l := s.data.toList) (i := a + k) (by simpa using h)
  rw [List.drop_drop, List.drop_drop, e]
  rfl
theorem drop_out (s : ByteArray) (a k : Nat) (h : ¬ a + k < s.size) : (s.data.toList.drop a).drop k = [] := by
  rw [List.drop_drop]
  apply List.drop_eq_nil_of_le
  simp
  have : s.data.size = s.size := rfl
  omega
theorem ret_pair {a a' b b' : Int} (h : a = a') (h' : b = b') : Ending.returned (.tuple #[.int .i64 a, .int .i64 b]) = .returned (.tuple #[.int .i64 a', .int .i64 b']) := by rw [h, h']
set_option maxHeartbeats 1000000 in
theorem read_any (s : ByteArray) (at' : Nat) (w : World) (hg : Gl w) (hs : s.size ≤ 100000) (hlt : at' < s.size) :
    Calls Tryd.prog 62 #[.string s, .int .i64 at'] w fun e w' => e = .returned (.tuple #[.int .i64 (dec (s.data.toList.drop at')).1, .int .i64 (dec (s.data.toList.drop at')).2]) ∧ w = w' := by
  have hc := hg.len (s[at'].toNat / 16) (by have := s[at'].toNat_lt; omega)
  rw [szF_of s[at'].toNat_lt] at hc
  have hm := hg.mrk (szN s[at'].toNat) (by have := szN_bd s[at'].toNat; omega)
  obtain ⟨x, hx, hx0, hx1, hxy, hxn⟩ := first_of s[at'].toNat_lt
  have hz := szN_bd s[at'].toNat
  have D0 : Hid ((s.data.toList.drop at').drop 0 = s[at'] :: (s.data.toList.drop at').drop 1) := Lib.hid (drop_in s at' 0 hlt)
  obtain ⟨R, HR⟩ : ∃ R, Hid (dec (s.data.toList.drop at') = R) := ⟨_, Lib.hid rfl⟩
  rw [HR.out]
  obtain ⟨l, HL⟩ : ∃ l, Hid (s.data.toList.drop at' = l) := ⟨_, Lib.hid rfl⟩
  have HRl : Hid (dec l = R) := Lib.hid (by rw [← HL.out]; exact HR.out)
  have D1 : Hid (l = s[at'] :: l.drop 1) := Lib.hid (by have := D0.out; rw [HL.out] at this; simpa using this)
  have DI : Hid (∀ k, (h : at' + k < s.size) → l.drop k = s[at' + k] :: l.drop (k + 1)) := Lib.hid (by intro k h; rw [← HL.out]; exact drop_in s at' k h)
  have DO : Hid (∀ k, ¬ at' + k < s.size → l.drop k = []) := Lib.hid (by intro k h; rw [← HL.out]; exact drop_out s at' k h)
  clear D0 HR HL
  obtain ⟨z, HZ⟩ : ∃ z, Hid (szN s[at'].toNat = z) := ⟨_, Lib.hid rfl⟩
  rw [HZ.out] at hc hm hx hxy hxn hz
  obtain ⟨c, HC⟩ : ∃ c : Nat, Hid (s[at'].toNat = c) := ⟨_, Lib.hid rfl⟩
  have HY : Hid (0 ≤ ldN c → begB x 1 z = true ∧ x = ldR c ∧ (ldN c).toNat = z - 1 ∧ V z 1 (ldR c) (ldLo c) (ldHi c)) := Lib.hid (by rw [HC.out] at hxy; exact hxy)
  have HN : Hid (ldN c < 0 → begB x 1 z = false) := Lib.hid (by rw [HC.out] at hxn; exact hxn)
  have Hx := Lib.hid hx
  clear hxy hxn hx
  obtain ⟨hz1, hz4⟩ := hz
  obtain ⟨m, Hm⟩ : ∃ m : Int, Hid (mrkF z = m) := ⟨_, Lib.hid rfl⟩
  rw [Hm.out] at hm
  have hx : bits .xor .u8 (s[at'].toNat : Int) m = x := by have := Hx.out; rw [Hm.out] at this; exact this
  have HX := Lib.hid hx; clear hx Hx Hm
  have HM := Lib.hid hm; clear hm
  have HG := Lib.hid hg; clear hg
  have hi : 0 ≤ (s[at'].toNat : Int) / 16 ∧ (s[at'].toNat : Int) / 16 < 16 := by have := s[at'].toNat_lt; omega
  go_enter Tryd.func62, Tryd.ntmps62
  go_wp2_with fail
  go_step3
  go_wp2_with fail
  go_step3
  go_wp2_with fail
  clear hc hi
  go_loopg [4, 5] z (fun g r k wr => ∃ (k' : Nat) (r' : Int), k' + g = z ∧ w = wr ∧ r = .int .i64 r' ∧ k = .int .i64 k' ∧ RdR z l R k' r')
  case atStart => exact ⟨0, 0, by omega, rfl, rfl, rfl, .inl ⟨rfl, rfl, HRl.out⟩⟩
  case round =>
    obtain ⟨k, r, hkg, rfl, rfl, rfl, hR⟩ := hrel
    rcases hR with ⟨rfl, rfl, hd⟩ | ⟨hk, hkz, lo, hi, hV, hG⟩
    · have HD := Lib.hid hd; clear hd
      have hm := HM.out
      have hg := HG.out
      have hx := HX.out
      have hb := s[at'].toNat_lt
      by_cases hl : ldN c < 0
      · have hor : bits .or .i64 0 x = x := by
          by_cases hy : x < 64
          · exact (or6 0 x (by omega) (by omega) (by omega) hx0 hy).trans (by omega)
          · exact (or12 0 x (by omega) (by omega) (by omega) hx0 (by omega)).trans (by omega)
        have hB : Hid (begB x 1 z = false) := Lib.hid (HN.out hl)
        have hres : Hid (R = (-1, 1)) := Lib.hid (by rw [← HD.out, D1.out]; simp only [dec]; rw [if_pos (by rw [HC.out]; exact hl)])
        clear hl
        go_wp2_with (go_at_call 70; refine (begins_no x 1 z _ (by assumption) (by omega) (by omega) (by omega) (by omega) (by omega) hB.out).mono ?_; rintro e w' ⟨rfl, rfl⟩)
        try rw [Exit.noGoto_ret]
        go_ret2
        exact ⟨by rw [hres.out]; rfl, rfl⟩
      · obtain ⟨y1, y2, y3, y4⟩ := HY.out (by omega)
        have hor : bits .or .i64 0 x = x := by
          by_cases hy : x < 64
          · exact (or6 0 x (by omega) (by omega) (by omega) hx0 hy).trans (by omega)
          · exact (or12 0 x (by omega) (by omega) (by omega) hx0 (by omega)).trans (by omega)
        have hB : Hid (begB x 1 z = true) := Lib.hid y1
        have hres : Hid (RdR z l R 1 x) := Lib.hid (.inr ⟨by omega, by omega, ldLo c, ldHi c, by rw [y2]; exact y4, by
          rw [← HD.out, y2]
          conv => rhs; rw [D1.out]
          simp only [dec]
          rw [HC.out, if_neg hl, y3]⟩)
        clear hl y1 y2 y3 y4
        go_wp2_with (go_at_call 70; refine (begins_yes x 1 z _ (by assumption) (by omega) (by omega) (by omega) (by omega) (by omega) hB.out).mono ?_; rintro e w' ⟨rfl, rfl⟩)
        go_roundg (z - 1)
        case measure => omega
        case rel => exact ⟨1, x, by omega, rfl, rfl, rfl, hres.out⟩
    · have HV := Lib.hid hV
      have HD := Lib.hid hG; clear hG
      by_cases hkz' : k = z
      · have hres : Hid (R = (r, k)) := Lib.hid (by rw [← HD.out, hkz', Nat.sub_self]; rfl)
        have hd : decide (k < z) = false := by simp; omega
        clear hV hkz hkz'
        go_wp2_with fail
        try rw [Exit.noGoto_ret]
        go_ret2
        exact ⟨by rw [hres.out]; rfl, rfl⟩
      have hlt2 : k < z := by omega
      obtain ⟨hr0, hr1, hlo, hhi⟩ := V_bd hV hlt2
      clear hV hkz'
      by_cases hin : at' + k < s.size
      rotate_left 1
      · have hres : Hid (R = (-1, k)) := Lib.hid (by
          rw [← HD.out, DO.out k hin, show z - k = (z - k - 1) + 1 by omega]; rfl)
        have hin2 : ¬ ((at' : Int) + k < s.size) := by omega
        clear hin hlo hhi
        go_wp2_with fail
        try rw [Exit.noGoto_ret]
        go_ret2
        exact ⟨by rw [hres.out]; first | rfl | exact ret_pair rfl (by omega), rfl⟩
      have hb := s[at' + k].toNat_lt
      have hg := HG.out
      have hstep : Hid (goD (z - k) (l.drop k) k r lo hi = if lo ≤ (s[at' + k].toNat : Int) ∧ (s[at' + k].toNat : Int) ≤ hi then goD (z - k - 1) (l.drop (k + 1)) (k + 1) (r * 64 + ((s[at' + k].toNat : Int) - 128)) 128 191 else (-1, k)) := Lib.hid (by
        conv => lhs; rw [DI.out k hin, show z - k = (z - k - 1) + 1 by omega]
        rfl)
      have hk0 : ((k : Int) == 0) = false := by simp; omega
      by_cases h64 : (s[at' + k].toNat : Int) / 64 = 2
      rotate_left 1
      · have hres : Hid (R = (-1, k)) := Lib.hid (by
          rw [← HD.out, hstep.out, if_neg (by omega)])
        have h64' : ((s[at' + k].toNat : Int) / 64 == 2) = false := by simpa using h64
        clear h64 hlo hhi
        go_wp2_with fail
        try rw [Exit.noGoto_ret]
        go_ret2
        exact ⟨by rw [hres.out]; first | rfl | exact ret_pair rfl (by omega), rfl⟩
      have hbx : bits .xor .u8 (s[at' + k].toNat : Int) 128 = (s[at' + k].toNat : Int) - 128 := xor_128 _ (by omega) (by omega)
      have h64' : ((s[at' + k].toNat : Int) / 64 == 2) = true := by simpa using h64
      have hb1 : 128 ≤ (s[at' + k].toNat : Int) := by omega
      have hb2 : (s[at' + k].toNat : Int) ≤ 191 := by omega
      have hor : bits .or .i64 (r * 64) ((s[at' + k].toNat : Int) - 128) = r * 64 + ((s[at' + k].toNat : Int) - 128) := or6 _ _ (by omega) (by omega) (by omega) (by omega) (by omega)
      by_cases hlh : lo ≤ (s[at' + k].toNat : Int) ∧ (s[at' + k].toNat : Int) ≤ hi
      · have hB : Hid (begB (r * 64 + ((s[at' + k].toNat : Int) - 128)) (k + 1) z = true) := Lib.hid ((V_beg HV.out hlt2 hb1 hb2).2 hlh)
        have hres : Hid (RdR z l R (k + 1) (r * 64 + ((s[at' + k].toNat : Int) - 128))) := Lib.hid (.inr ⟨by omega, by omega, 128, 191, V_next HV.out hlt2 hlh.1 hlh.2, by
          rw [← HD.out, hstep.out, if_pos hlh, show z - (k + 1) = z - k - 1 by omega]⟩)
        clear hlh hlo hhi h64
        go_wp2_with (go_at_call 70; refine (begins_yes _ _ z _ (by assumption) (by omega) (by omega) (by omega) (by omega) (by omega) hB.out).mono ?_; rintro e w' ⟨rfl, rfl⟩)
        go_roundg (z - (k + 1))
        case measure => omega
        case rel => exact ⟨k + 1, _, by omega, rfl, rfl, by go_num, hres.out⟩
      · have hB : Hid (begB (r * 64 + ((s[at' + k].toNat : Int) - 128)) (k + 1) z = false) := Lib.hid (by
          cases hx : begB (r * 64 + ((s[at' + k].toNat : Int) - 128)) (k + 1) z
          · rfl
          · exact absurd ((V_beg HV.out hlt2 hb1 hb2).1 hx) hlh)
        have hres : Hid (R = (-1, k)) := Lib.hid (by
          rw [← HD.out, hstep.out, if_neg hlh])
        clear hlh hlo hhi h64
        go_wp2_with (go_at_call 70; refine (begins_no _ _ z _ (by assumption) (by omega) (by omega) (by omega) (by omega) (by omega) hB.out).mono ?_; rintro e w' ⟨rfl, rfl⟩)
        try rw [Exit.noGoto_ret]
        go_ret2
        exact ⟨by rw [hres.out]; first | rfl | exact ret_pair rfl (by omega), rfl⟩
end Go.Proofs.YtehehmpepkgbeaaDoor
