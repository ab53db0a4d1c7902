import Derived.Test.YtjgbnagacbiolaaB0
import Derived.Test.YtjgbnagacbiolaaB1
import Derived.Test.YtjgbnagacbiolaaRB
import Derived.Test.YtjgbnagacbiolaaRC
namespace Go.Proofs.Ytjgbnagacbiolaa
open Go.RowKit
set_option linter.unusedVariables false
set_option linter.unusedSimpArgs false
instance (n0 n1 : Nat) (op zn : Int) (bs : Nat) (n : Int) : Decidable (wrP n0 n1 op zn bs n) := by unfold wrP; infer_instance
/-- The document's Do, as a plain function. -/
def doF (x : Dk) (op zn : Int) (b : ByteArray) (n : Int) : Dk × Int :=
  if x.ok = false then (zeroD, 2)
  else if ¬ wrP x.z0.b.size x.z1.b.size op zn b.size n then (zeroD, 2)
  else if x.d = true then (zeroD, 30)
  else if x.l = 0 then ({ x with d := true }, 30)
  else if (zn = 0 ∧ x.c - x.z0.b.size < b.size) ∨ (zn = 1 ∧ x.c - x.z1.b.size < b.size) then (zeroD, 31)
  else if zn = 0 then (⟨behF x.z0.b x.z0.s op b n, x.z1, x.c, if 0 < x.l then x.l - 1 else x.l, x.d⟩, 0)
  else (⟨x.z0, behF x.z1.b x.z1.s op b n, x.c, if 0 < x.l then x.l - 1 else x.l, x.d⟩, 0)
theorem do_any (b0 b1 b : ByteArray) (s0 s1 c l op zn n : Int) (d : Bool) (w : World) (h0 : b0.size ≤ maxLen) (h1 : b1.size ≤ maxLen) (hbs : b.size ≤ 4096) (hlm : l ≤ 9223372036854775807) :
    Calls Try.prog 11 #[.agg #[.string b0, .int .i64 s0, .string b1, .int .i64 s1, .int .i64 c, .int .i64 l, .bool d], .agg #[.int .i8 op, .int .i64 zn, .string b, .int .i64 n]] w (RetD (doF ⟨⟨b0, s0⟩, ⟨b1, s1⟩, c, l, d⟩ op zn b n) w) := by
  cases hok : Dk.ok ⟨⟨b0, s0⟩, ⟨b1, s1⟩, c, l, d⟩
  · have := do_no1 b0 b1 b s0 s1 c l op zn n d w h0 h1 hok
    simpa [doF, hok] using this
  by_cases hw : wrP b0.size b1.size op zn b.size n
  rotate_left 1
  · have := do_no2 b0 b1 b s0 s1 c l op zn n d w h0 h1 hok hw
    simpa [doF, hok, hw] using this
  cases hd : d
  rotate_left 1
  · subst hd
    have := do_down b0 b1 b s0 s1 c l op zn n true w h0 h1 hok hw rfl
    simpa [doF, hok, hw] using this
  subst hd
  by_cases hl : l = 0
  · subst hl
    have := do_left b0 b1 b s0 s1 c 0 op zn n false w h0 h1 hok hw rfl rfl
    simpa [doF, hok, hw] using this
  by_cases hf : (zn = 0 ∧ c - b0.size < b.size) ∨ (zn = 1 ∧ c - b1.size < b.size)
  · have := do_full b0 b1 b s0 s1 c l op zn n false w h0 h1 hok hw rfl hl hf
    simpa only [doF, hok, hw, hl, hf, Bool.true_eq_false, Bool.false_eq_true, if_false, if_true, not_true_eq_false] using this
  have hll : (0 < l ∧ (if 0 < l then l - 1 else l) = l - 1) ∨ (l < 0 ∧ (if 0 < l then l - 1 else l) = l) := by
    by_cases h : 0 < l
    · left; exact ⟨h, if_pos h⟩
    · right; exact ⟨by omega, if_neg h⟩
  have hzz : zn = 0 ∨ zn = 1 := hw.1
  by_cases hz : zn = 0
  · have := do_yes0 (behF b0 s0 op b n).b (behF b0 s0 op b n).s b0 b1 b s0 s1 c l op zn n false w h0 h1 hok hw rfl _ hll hlm hz (by omega) rfl hbs
    have e : doF ⟨⟨b0, s0⟩, ⟨b1, s1⟩, c, l, false⟩ op zn b n = (⟨behF b0 s0 op b n, ⟨b1, s1⟩, c, if 0 < l then l - 1 else l, false⟩, 0) := by
      unfold doF
      rw [if_neg (by simp [hok]), if_neg (by simpa using hw), if_neg (by simp), if_neg hl, if_neg hf, if_pos hz]
    rw [e]; exact this
  · have := do_yes1 (behF b1 s1 op b n).b (behF b1 s1 op b n).s b0 b1 b s0 s1 c l op zn n false w h0 h1 hok hw rfl _ hll hlm (by omega) (by omega) rfl hbs
    have e : doF ⟨⟨b0, s0⟩, ⟨b1, s1⟩, c, l, false⟩ op zn b n = (⟨⟨b0, s0⟩, behF b1 s1 op b n, c, if 0 < l then l - 1 else l, false⟩, 0) := by
      unfold doF
      rw [if_neg (by simp [hok]), if_neg (by simpa using hw), if_neg (by simp), if_neg hl, if_neg hf, if_neg hz]
    rw [e]; exact this
theorem rbad_any (b0 b1 b : ByteArray) (s0 s1 c l op zn n : Int) (d : Bool) (w : World) (h0 : b0.size ≤ maxLen) (h1 : b1.size ≤ maxLen) (hbs : b.size ≤ 4096) (h : Dk.ok ⟨⟨b0, s0⟩, ⟨b1, s1⟩, c, l, d⟩ = true) (hw : ¬ wrP b0.size b1.size op zn b.size n) :
    Calls Try.prog 12 #[.agg #[.string b0, .int .i64 s0, .string b1, .int .i64 s1, .int .i64 c, .int .i64 l, .bool d], .agg #[.int .i8 op, .int .i64 zn, .string b, .int .i64 n]] w (RetD (zeroD, 2) w) := by
  unfold wrP at hw
  by_cases hz0 : zn = 0
  · subst hz0
    by_cases hp0 : op = 0
    · subst hp0
      by_cases hb : b.size = 0
      · exact rbad0_op0a b0 b1 b s0 s1 c l n d w h0 h1 hbs h hb
      · exact rbad0_op0b b0 b1 b s0 s1 c l n d w h0 h1 hbs h hb (by omega)
    by_cases hp1 : op = 1
    · subst hp1
      by_cases hb : b.size = 0
      · exact rbad0_op1b b0 b1 b s0 s1 c l n d w h0 h1 hbs h hb (by omega)
      · exact rbad0_op1a b0 b1 b s0 s1 c l n d w h0 h1 hbs h hb
    by_cases hp2 : op = 2
    · subst hp2
      by_cases hb : b.size = 0
      · by_cases hn : n < 0
        · exact rbad0_op2b b0 b1 b s0 s1 c l n d w h0 h1 hbs h hb hn
        · exact rbad0_op2c b0 b1 b s0 s1 c l n d w h0 h1 hbs h hb (by omega) (by omega)
      · exact rbad0_op2a b0 b1 b s0 s1 c l n d w h0 h1 hbs h hb
    exact rbad0_opx b0 b1 b s0 s1 c l op n d w h0 h1 hbs h hp0 hp1 hp2
  by_cases hz1 : zn = 1
  · subst hz1
    by_cases hp0 : op = 0
    · subst hp0
      by_cases hb : b.size = 0
      · exact rbad1_op0a b0 b1 b s0 s1 c l n d w h0 h1 hbs h hb
      · exact rbad1_op0b b0 b1 b s0 s1 c l n d w h0 h1 hbs h hb (by omega)
    by_cases hp1 : op = 1
    · subst hp1
      by_cases hb : b.size = 0
      · exact rbad1_op1b b0 b1 b s0 s1 c l n d w h0 h1 hbs h hb (by omega)
      · exact rbad1_op1a b0 b1 b s0 s1 c l n d w h0 h1 hbs h hb
    by_cases hp2 : op = 2
    · subst hp2
      by_cases hb : b.size = 0
      · by_cases hn : n < 0
        · exact rbad1_op2b b0 b1 b s0 s1 c l n d w h0 h1 hbs h hb hn
        · exact rbad1_op2c b0 b1 b s0 s1 c l n d w h0 h1 hbs h hb (by omega) (by omega)
      · exact rbad1_op2a b0 b1 b s0 s1 c l n d w h0 h1 hbs h hb
    exact rbad1_opx b0 b1 b s0 s1 c l op n d w h0 h1 hbs h hp0 hp1 hp2
  exact rbad_z b0 b1 b s0 s1 c l op zn n d w h0 h1 hbs h (by omega)
theorem rdo_any (b0 b1 b : ByteArray) (s0 s1 c l op zn n : Int) (d : Bool) (w : World) (h0 : b0.size ≤ maxLen) (h1 : b1.size ≤ maxLen) (hbs : b.size ≤ 4096) (hlm : l ≤ 9223372036854775807) :
    Calls Try.prog 12 #[.agg #[.string b0, .int .i64 s0, .string b1, .int .i64 s1, .int .i64 c, .int .i64 l, .bool d], .agg #[.int .i8 op, .int .i64 zn, .string b, .int .i64 n]] w (RetD (doF ⟨⟨b0, s0⟩, ⟨b1, s1⟩, c, l, d⟩ op zn b n) w) := by
  cases hok : Dk.ok ⟨⟨b0, s0⟩, ⟨b1, s1⟩, c, l, d⟩
  · have := rdo_no1 b0 b1 b s0 s1 c l op zn n d w h0 h1 hbs hok
    simpa [doF, hok] using this
  by_cases hw : wrP b0.size b1.size op zn b.size n
  rotate_left 1
  · have := rbad_any b0 b1 b s0 s1 c l op zn n d w h0 h1 hbs hok hw
    simpa [doF, hok, hw] using this
  have hw' := hw
  unfold wrP at hw'
  by_cases hz : zn = 0
  · subst hz
    by_cases hp0 : op = 0
    · subst hp0
      obtain rfl : n = 0 := by omega
      cases d
      rotate_left 1
      · have := rdown0_0 b0 b1 b s0 s1 c l w h0 h1 hbs hok (by omega)
        simpa [doF, hok, hw] using this
      by_cases hl : l = 0
      · subst hl
        have := rleft0_0 b0 b1 b s0 s1 c w h0 h1 hbs hok (by omega)
        simpa [doF, hok, hw] using this
      by_cases hf : c - b0.size < b.size
      · have := rfull0 b0 b1 b s0 s1 c l w h0 h1 hbs hok (by omega) hl hf
        have e : doF ⟨⟨b0, s0⟩, ⟨b1, s1⟩, c, l, false⟩ 0 0 b 0 = (zeroD, 31) := by
          unfold doF
          rw [if_neg (by simp [hok]), if_neg (by simpa using hw), if_neg (by simp), if_neg hl, if_pos (show (((0 : Int) = 0 ∧ c - (b0.size : Int) < (b.size : Int)) ∨ ((0 : Int) = 1 ∧ c - (b1.size : Int) < (b.size : Int))) by omega)]
        rw [e]; exact this
      obtain ⟨o1, o2, o3, o4, o5, o6, o7, o8⟩ := (ok_iff _ _ _ _ _ _ _).1 hok
      by_cases hl0 : 0 < l
      · have := ryes0_0p b0 b1 b s0 s1 c l w h0 h1 hbs hok (by omega) (by omega) hlm (by omega)
        have e : doF ⟨⟨b0, s0⟩, ⟨b1, s1⟩, c, l, false⟩ 0 0 b 0 = (⟨⟨b0 ++ b, s0⟩, ⟨b1, s1⟩, c, l - 1, false⟩, 0) := by
          unfold doF
          rw [if_neg (by simp [hok]), if_neg (by simpa using hw), if_neg (by simp), if_neg hl, if_neg (show ¬ (((0 : Int) = 0 ∧ c - (b0.size : Int) < (b.size : Int)) ∨ ((0 : Int) = 1 ∧ c - (b1.size : Int) < (b.size : Int))) by omega), if_pos rfl]
          simp only [if_pos hl0]
          rfl
        rw [e]; exact this
      · have := ryes0_0m b0 b1 b s0 s1 c l w h0 h1 hbs hok (by omega) (by omega) hlm (by omega)
        have e : doF ⟨⟨b0, s0⟩, ⟨b1, s1⟩, c, l, false⟩ 0 0 b 0 = (⟨⟨b0 ++ b, s0⟩, ⟨b1, s1⟩, c, l, false⟩, 0) := by
          unfold doF
          rw [if_neg (by simp [hok]), if_neg (by simpa using hw), if_neg (by simp), if_neg hl, if_neg (show ¬ (((0 : Int) = 0 ∧ c - (b0.size : Int) < (b.size : Int)) ∨ ((0 : Int) = 1 ∧ c - (b1.size : Int) < (b.size : Int))) by omega), if_pos rfl]
          simp only [if_neg hl0]
          rfl
        rw [e]; exact this
    by_cases hp1 : op = 1
    · subst hp1
      obtain rfl : n = 0 := by omega
      cases d
      rotate_left 1
      · have := rdown0_1 b0 b1 b s0 s1 c l w h0 h1 hbs hok (by omega)
        simpa [doF, hok, hw] using this
      by_cases hl : l = 0
      · subst hl
        have := rleft0_1 b0 b1 b s0 s1 c w h0 h1 hbs hok (by omega)
        simpa [doF, hok, hw] using this
      obtain ⟨o1, o2, o3, o4, o5, o6, o7, o8⟩ := (ok_iff _ _ _ _ _ _ _).1 hok
      by_cases hl0 : 0 < l
      · have := ryes0_1p b0 b1 b s0 s1 c l w h0 h1 hbs hok (by omega) (by omega) hlm
        have e : doF ⟨⟨b0, s0⟩, ⟨b1, s1⟩, c, l, false⟩ 1 0 b 0 = (⟨⟨b0, (b0.size : Int)⟩, ⟨b1, s1⟩, c, l - 1, false⟩, 0) := by
          unfold doF
          rw [if_neg (by simp [hok]), if_neg (by simpa using hw), if_neg (by simp), if_neg hl, if_neg (show ¬ (((0 : Int) = 0 ∧ c - (b0.size : Int) < (b.size : Int)) ∨ ((0 : Int) = 1 ∧ c - (b1.size : Int) < (b.size : Int))) by omega), if_pos rfl]
          simp only [if_pos hl0]
          rfl
        rw [e]; exact this
      · have := ryes0_1m b0 b1 b s0 s1 c l w h0 h1 hbs hok (by omega) (by omega) hlm
        have e : doF ⟨⟨b0, s0⟩, ⟨b1, s1⟩, c, l, false⟩ 1 0 b 0 = (⟨⟨b0, (b0.size : Int)⟩, ⟨b1, s1⟩, c, l, false⟩, 0) := by
          unfold doF
          rw [if_neg (by simp [hok]), if_neg (by simpa using hw), if_neg (by simp), if_neg hl, if_neg (show ¬ (((0 : Int) = 0 ∧ c - (b0.size : Int) < (b.size : Int)) ∨ ((0 : Int) = 1 ∧ c - (b1.size : Int) < (b.size : Int))) by omega), if_pos rfl]
          simp only [if_neg hl0]
          rfl
        rw [e]; exact this
    by_cases hp2 : op = 2
    · subst hp2
      cases d
      rotate_left 1
      · have := rdown0_2 b0 b1 b s0 s1 c l n w h0 h1 hbs hok (by omega) (by omega) (by omega)
        simpa [doF, hok, hw] using this
      by_cases hl : l = 0
      · subst hl
        have := rleft0_2 b0 b1 b s0 s1 c n w h0 h1 hbs hok (by omega) (by omega) (by omega)
        simpa [doF, hok, hw] using this
      obtain ⟨o1, o2, o3, o4, o5, o6, o7, o8⟩ := (ok_iff _ _ _ _ _ _ _).1 hok
      by_cases hl0 : 0 < l
      · have := ryes0_2p b0 b1 b s0 s1 c l n w h0 h1 hbs hok (by omega) (by omega) (by omega) (by omega) hlm
        have e : doF ⟨⟨b0, s0⟩, ⟨b1, s1⟩, c, l, false⟩ 2 0 b n = (⟨⟨b0.extract 0 n.toNat, n⟩, ⟨b1, s1⟩, c, l - 1, false⟩, 0) := by
          unfold doF
          rw [if_neg (by simp [hok]), if_neg (by simpa using hw), if_neg (by simp), if_neg hl, if_neg (show ¬ (((0 : Int) = 0 ∧ c - (b0.size : Int) < (b.size : Int)) ∨ ((0 : Int) = 1 ∧ c - (b1.size : Int) < (b.size : Int))) by omega), if_pos rfl]
          simp only [if_pos hl0]
          rfl
        rw [e]; exact this
      · have := ryes0_2m b0 b1 b s0 s1 c l n w h0 h1 hbs hok (by omega) (by omega) (by omega) (by omega) hlm
        have e : doF ⟨⟨b0, s0⟩, ⟨b1, s1⟩, c, l, false⟩ 2 0 b n = (⟨⟨b0.extract 0 n.toNat, n⟩, ⟨b1, s1⟩, c, l, false⟩, 0) := by
          unfold doF
          rw [if_neg (by simp [hok]), if_neg (by simpa using hw), if_neg (by simp), if_neg hl, if_neg (show ¬ (((0 : Int) = 0 ∧ c - (b0.size : Int) < (b.size : Int)) ∨ ((0 : Int) = 1 ∧ c - (b1.size : Int) < (b.size : Int))) by omega), if_pos rfl]
          simp only [if_neg hl0]
          rfl
        rw [e]; exact this
    omega
  by_cases hz1 : zn = 1
  · subst hz1
    by_cases hp0 : op = 0
    · subst hp0
      obtain rfl : n = 0 := by omega
      cases d
      rotate_left 1
      · have := rdown1_0 b0 b1 b s0 s1 c l w h0 h1 hbs hok (by omega)
        simpa [doF, hok, hw] using this
      by_cases hl : l = 0
      · subst hl
        have := rleft1_0 b0 b1 b s0 s1 c w h0 h1 hbs hok (by omega)
        simpa [doF, hok, hw] using this
      by_cases hf : c - b1.size < b.size
      · have := rfull1 b0 b1 b s0 s1 c l w h0 h1 hbs hok (by omega) hl hf
        have e : doF ⟨⟨b0, s0⟩, ⟨b1, s1⟩, c, l, false⟩ 0 1 b 0 = (zeroD, 31) := by
          unfold doF
          rw [if_neg (by simp [hok]), if_neg (by simpa using hw), if_neg (by simp), if_neg hl, if_pos (show (((1 : Int) = 0 ∧ c - (b0.size : Int) < (b.size : Int)) ∨ ((1 : Int) = 1 ∧ c - (b1.size : Int) < (b.size : Int))) by omega)]
        rw [e]; exact this
      obtain ⟨o1, o2, o3, o4, o5, o6, o7, o8⟩ := (ok_iff _ _ _ _ _ _ _).1 hok
      by_cases hl0 : 0 < l
      · have := ryes1_0p b0 b1 b s0 s1 c l w h0 h1 hbs hok (by omega) (by omega) hlm (by omega)
        have e : doF ⟨⟨b0, s0⟩, ⟨b1, s1⟩, c, l, false⟩ 0 1 b 0 = (⟨⟨b0, s0⟩, ⟨b1 ++ b, s1⟩, c, l - 1, false⟩, 0) := by
          unfold doF
          rw [if_neg (by simp [hok]), if_neg (by simpa using hw), if_neg (by simp), if_neg hl, if_neg (show ¬ (((1 : Int) = 0 ∧ c - (b0.size : Int) < (b.size : Int)) ∨ ((1 : Int) = 1 ∧ c - (b1.size : Int) < (b.size : Int))) by omega), if_neg (by decide)]
          simp only [if_pos hl0]
          rfl
        rw [e]; exact this
      · have := ryes1_0m b0 b1 b s0 s1 c l w h0 h1 hbs hok (by omega) (by omega) hlm (by omega)
        have e : doF ⟨⟨b0, s0⟩, ⟨b1, s1⟩, c, l, false⟩ 0 1 b 0 = (⟨⟨b0, s0⟩, ⟨b1 ++ b, s1⟩, c, l, false⟩, 0) := by
          unfold doF
          rw [if_neg (by simp [hok]), if_neg (by simpa using hw), if_neg (by simp), if_neg hl, if_neg (show ¬ (((1 : Int) = 0 ∧ c - (b0.size : Int) < (b.size : Int)) ∨ ((1 : Int) = 1 ∧ c - (b1.size : Int) < (b.size : Int))) by omega), if_neg (by decide)]
          simp only [if_neg hl0]
          rfl
        rw [e]; exact this
    by_cases hp1 : op = 1
    · subst hp1
      obtain rfl : n = 0 := by omega
      cases d
      rotate_left 1
      · have := rdown1_1 b0 b1 b s0 s1 c l w h0 h1 hbs hok (by omega)
        simpa [doF, hok, hw] using this
      by_cases hl : l = 0
      · subst hl
        have := rleft1_1 b0 b1 b s0 s1 c w h0 h1 hbs hok (by omega)
        simpa [doF, hok, hw] using this
      obtain ⟨o1, o2, o3, o4, o5, o6, o7, o8⟩ := (ok_iff _ _ _ _ _ _ _).1 hok
      by_cases hl0 : 0 < l
      · have := ryes1_1p b0 b1 b s0 s1 c l w h0 h1 hbs hok (by omega) (by omega) hlm
        have e : doF ⟨⟨b0, s0⟩, ⟨b1, s1⟩, c, l, false⟩ 1 1 b 0 = (⟨⟨b0, s0⟩, ⟨b1, (b1.size : Int)⟩, c, l - 1, false⟩, 0) := by
          unfold doF
          rw [if_neg (by simp [hok]), if_neg (by simpa using hw), if_neg (by simp), if_neg hl, if_neg (show ¬ (((1 : Int) = 0 ∧ c - (b0.size : Int) < (b.size : Int)) ∨ ((1 : Int) = 1 ∧ c - (b1.size : Int) < (b.size : Int))) by omega), if_neg (by decide)]
          simp only [if_pos hl0]
          rfl
        rw [e]; exact this
      · have := ryes1_1m b0 b1 b s0 s1 c l w h0 h1 hbs hok (by omega) (by omega) hlm
        have e : doF ⟨⟨b0, s0⟩, ⟨b1, s1⟩, c, l, false⟩ 1 1 b 0 = (⟨⟨b0, s0⟩, ⟨b1, (b1.size : Int)⟩, c, l, false⟩, 0) := by
          unfold doF
          rw [if_neg (by simp [hok]), if_neg (by simpa using hw), if_neg (by simp), if_neg hl, if_neg (show ¬ (((1 : Int) = 0 ∧ c - (b0.size : Int) < (b.size : Int)) ∨ ((1 : Int) = 1 ∧ c - (b1.size : Int) < (b.size : Int))) by omega), if_neg (by decide)]
          simp only [if_neg hl0]
          rfl
        rw [e]; exact this
    by_cases hp2 : op = 2
    · subst hp2
      cases d
      rotate_left 1
      · have := rdown1_2 b0 b1 b s0 s1 c l n w h0 h1 hbs hok (by omega) (by omega) (by omega)
        simpa [doF, hok, hw] using this
      by_cases hl : l = 0
      · subst hl
        have := rleft1_2 b0 b1 b s0 s1 c n w h0 h1 hbs hok (by omega) (by omega) (by omega)
        simpa [doF, hok, hw] using this
      obtain ⟨o1, o2, o3, o4, o5, o6, o7, o8⟩ := (ok_iff _ _ _ _ _ _ _).1 hok
      by_cases hl0 : 0 < l
      · have := ryes1_2p b0 b1 b s0 s1 c l n w h0 h1 hbs hok (by omega) (by omega) (by omega) (by omega) hlm
        have e : doF ⟨⟨b0, s0⟩, ⟨b1, s1⟩, c, l, false⟩ 2 1 b n = (⟨⟨b0, s0⟩, ⟨b1.extract 0 n.toNat, n⟩, c, l - 1, false⟩, 0) := by
          unfold doF
          rw [if_neg (by simp [hok]), if_neg (by simpa using hw), if_neg (by simp), if_neg hl, if_neg (show ¬ (((1 : Int) = 0 ∧ c - (b0.size : Int) < (b.size : Int)) ∨ ((1 : Int) = 1 ∧ c - (b1.size : Int) < (b.size : Int))) by omega), if_neg (by decide)]
          simp only [if_pos hl0]
          rfl
        rw [e]; exact this
      · have := ryes1_2m b0 b1 b s0 s1 c l n w h0 h1 hbs hok (by omega) (by omega) (by omega) (by omega) hlm
        have e : doF ⟨⟨b0, s0⟩, ⟨b1, s1⟩, c, l, false⟩ 2 1 b n = (⟨⟨b0, s0⟩, ⟨b1.extract 0 n.toNat, n⟩, c, l, false⟩, 0) := by
          unfold doF
          rw [if_neg (by simp [hok]), if_neg (by simpa using hw), if_neg (by simp), if_neg hl, if_neg (show ¬ (((1 : Int) = 0 ∧ c - (b0.size : Int) < (b.size : Int)) ∨ ((1 : Int) = 1 ∧ c - (b1.size : Int) < (b.size : Int))) by omega), if_neg (by decide)]
          simp only [if_neg hl0]
          rfl
        rw [e]; exact this
    omega
  omega
end Go.Proofs.Ytjgbnagacbiolaa
