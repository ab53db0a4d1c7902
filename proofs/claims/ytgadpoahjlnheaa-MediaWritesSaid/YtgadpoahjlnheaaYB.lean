/- Where a text is cut, whether bytes are of a kind: the mathematics. -/
import Derived.Test.YtgadpoahjlnheaaA
import Derived.Test.YtgadpoahjlnheaaLF
import Derived.Lib.Bytealg
namespace Go.Proofs.Ytgadpoahjlnheaa.Med
open Go.RowKit
set_option linter.unusedVariables false
set_option linter.unusedSimpArgs false
/-- The place of a byte. -/
theorem ix_cons (b : UInt8) (l : List UInt8) (c : UInt8) : Lib.indexByte (b :: l) c = if (b == c) = true then 0 else if (Lib.indexByte l c == -1) = true then -1 else Lib.indexByte l c + 1 := rfl
theorem ix_ge (l : List UInt8) (c : UInt8) : -1 ≤ Lib.indexByte l c := by
  induction l with
  | nil => exact Int.le_refl _
  | cons b t ih =>
    rw [ix_cons]
    split
    · omega
    · split
      · omega
      · omega
/-- What stands ahead of a byte, and behind it. -/
theorem ix_cut : ∀ (l : List UInt8) (c : UInt8), 0 ≤ Lib.indexByte l c → l.take (Lib.indexByte l c).toNat = l.takeWhile (· != c) ∧ l = l.takeWhile (· != c) ++ c :: l.drop ((Lib.indexByte l c).toNat + 1) ∧ (Lib.indexByte l c).toNat < l.length
  | [], c, h => by
    have : (0 : Int) ≤ -1 := h
    omega
  | b :: t, c, h => by
    rw [ix_cons] at h ⊢
    by_cases hb : b = c
    · subst hb
      simp
    · have hbf : (b == c) = false := by simpa using hb
      have hbn : (b != c) = true := by simpa using hb
      rw [hbf] at h ⊢
      simp only [Bool.false_eq_true, if_false] at h ⊢
      split at h
      · omega
      · rename_i h1
        have h1' : ¬ Lib.indexByte t c = -1 := by simpa using h1
        have hge := ix_ge t c
        have h0 : 0 ≤ Lib.indexByte t c := by omega
        rw [if_neg h1]
        obtain ⟨e1, e2, e3⟩ := ix_cut t c h0
        have en : (Lib.indexByte t c + 1).toNat = (Lib.indexByte t c).toNat + 1 := by omega
        rw [en, List.take_succ_cons, List.takeWhile_cons, if_pos hbn, e1, List.drop_succ_cons]
        refine ⟨rfl, ?_, by simpa using e3⟩
        rw [List.cons_append, ← e2]
theorem ix_none : ∀ (l : List UInt8) (c : UInt8), Lib.indexByte l c < 0 → c ∉ l
  | [], c, _ => by simp
  | b :: t, c, h => by
    rw [ix_cons] at h
    by_cases hb : b = c
    · subst hb; simp at h
    · have hbf : (b == c) = false := by simpa using hb
      rw [hbf] at h
      simp only [Bool.false_eq_true, if_false] at h
      split at h
      · rename_i h1
        have h1' : Lib.indexByte t c = -1 := by simpa using h1
        have := ix_none t c (by omega)
        simp [this]
        exact fun e => hb e.symm
      · rename_i h1
        have h1' : ¬ Lib.indexByte t c = -1 := by simpa using h1
        have := ix_ge t c
        omega
/-- Bytes of a kind, and some of them. -/
def allIn (k : Nat) (l : List UInt8) : Bool := l.all fun c => inS k (some c)
def wrd (k : Nat) (l : List UInt8) : Bool := !l.isEmpty && allIn k l
theorem all_congr' {p q : UInt8 → Bool} (h : ∀ c, p c = q c) (l : List UInt8) : l.all p = l.all q := by
  have : p = q := funext h
  rw [this]
theorem wrd12 (l : List UInt8) : wrd 12 l = tok l := by unfold wrd allIn tok; rw [all_congr' in12]
theorem all126 (l : List UInt8) : allIn 126 l = l.all mean := by unfold allIn; rw [all_congr' in126]
theorem all_and (p q : UInt8 → Bool) (l : List UInt8) : (l.all fun c => p c && q c) = (l.all p && l.all q) := by
  induction l with
  | nil => rfl
  | cons a t ih => rw [List.all_cons, List.all_cons, List.all_cons, ih]; cases p a <;> cases q a <;> simp
theorem lwr_all (l : List UInt8) : (l.all fun c => lo c == c) = (lwr l == l) := by
  induction l with
  | nil => rfl
  | cons a t ih =>
    rw [List.all_cons, ih]
    show _ = ((lo a :: lwr t) == a :: t)
    rw [List.cons_beq_cons]
theorem wrd4 (l : List UInt8) : wrd 4 l = nam l := by
  unfold wrd allIn nam
  rw [all_congr' in4, all_and, lwr_all, Bool.and_assoc]
/-- Two names with a slash between. -/
theorem typ_cut (l : List UInt8) : typ l = if 0 ≤ Lib.indexByte l 47 then nam (l.take (Lib.indexByte l 47).toNat) && nam (l.drop ((Lib.indexByte l 47).toNat + 1)) else false := by
  by_cases h : 0 ≤ Lib.indexByte l 47
  · rw [if_pos h]
    obtain ⟨e1, e2, _⟩ := ix_cut l 47 h
    rw [e1]
    obtain ⟨a, ha⟩ : ∃ a, l.takeWhile (· != 47) = a := ⟨_, rfl⟩
    obtain ⟨b, hb⟩ : ∃ b, l.drop ((Lib.indexByte l 47).toNat + 1) = b := ⟨_, rfl⟩
    rw [ha, hb] at e2 ⊢
    have h47 : ∀ d, (47 :: b).head? = some d → sgn d = false := by intro d hd; cases hd; decide
    have hna : (47 : UInt8) ∉ a := by
      intro hm
      rw [← ha] at hm
      have h1 := takeW_all (· != (47 : UInt8)) l
      rw [List.all_eq_true] at h1
      simpa using h1 47 hm
    by_cases hs : a.all sgn = true
    · unfold typ
      rw [e2, takeW_app hs h47, dropW_app hs h47]
      rfl
    · have hn : nam a = false := by unfold nam; simp [hs]
      rw [hn, Bool.false_and]
      -- the token ends within a, at another byte
      have hd : ∃ c t, a.dropWhile sgn = c :: t := by
        cases hx : a.dropWhile sgn with
        | nil =>
          exfalso
          have e := List.takeWhile_append_dropWhile (p := sgn) (l := a)
          rw [hx, List.append_nil] at e
          have := takeW_all sgn a
          rw [e] at this
          exact hs this
        | cons c t => exact ⟨c, t, rfl⟩
      obtain ⟨c, t, hx⟩ := hd
      unfold typ
      rw [e2, dropW_cons_app hx]
      have hc : c ∈ a := (List.dropWhile_sublist sgn).mem (by rw [hx]; exact List.mem_cons_self)
      have hc47 : c ≠ 47 := by rintro rfl; exact hna hc
      simp [hc47]
  · rw [if_neg h]
    have hn := ix_none l 47 (by omega)
    unfold typ
    have : ¬ (l.dropWhile sgn).head? = some 47 := by
      intro e
      exact hn ((List.dropWhile_sublist sgn).mem (List.mem_of_head? e))
    have h2 : ((l.dropWhile sgn).head? == some 47) = false := by simpa using this
    rw [h2]; rfl
end Go.Proofs.Ytgadpoahjlnheaa.Med
