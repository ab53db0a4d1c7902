/- The mathematics of layer 9: names with no colon, and with one; nothing of the program. -/
import Derived.Test.YtehehmpepkgbeaaDoorCQ
namespace Go.Proofs.YtehehmpepkgbeaaDoor.Chr
set_option linter.unusedVariables false
set_option linter.unusedSimpArgs false
/-- A name with no colon. -/
def plainS : List Int → Bool
  | [] => false
  | x :: t => fstC x && t.all furC
def plain (s : List UInt8) : Bool := okB s && plainS (scl s)
/-- A name, taken apart at its first colon that serves. -/
def cutOk (s : List UInt8) (i : Nat) : Bool := s[i]? == some 58 && (plain (s.take i) && plain (s.drop (i + 1)))
def spl (s : List UInt8) : List UInt8 × List UInt8 × Bool :=
  if plain s = true then ([], s, true) else match (List.range s.length).find? (cutOk s) with
    | some i => (s.take i, s.drop (i + 1), true)
    | none => ([], [], false)
theorem plain_iff {s : List UInt8} : plain s = true ↔ ∃ xs, allB xs = true ∧ plainS xs = true ∧ s = encs xs := by
  unfold plain
  rw [Bool.and_eq_true]
  constructor
  · rintro ⟨h1, h2⟩
    obtain ⟨g1, g2⟩ := ok_back _ s (Nat.le_refl _) h1
    exact ⟨scl s, g1, h2, g2.symm⟩
  · rintro ⟨xs, h1, h2, rfl⟩
    exact ⟨ok_encs h1, by rw [scl_encs h1]; exact h2⟩
theorem by8_58 {n : Int} (h0 : 128 ≤ n) (h1 : n < 256) : by8 n ≠ 58 := fun e => by
  have := by8_val (n := n) (by omega) h1
  rw [e] at this
  have h2 : ((58 : UInt8).toNat : Int) = 58 := rfl
  omega
theorem enc_58 {r : Int} (h : isB r = true) (h58 : (58 : UInt8) ∈ enc r) : r = 58 := by
  have hb := isB_iff.1 h
  rcases isB_cases h with ⟨h0, h1⟩ | ⟨h0, h1⟩ | ⟨h0, h1, _⟩ | ⟨h0, h1⟩
  · rw [enc1 h h1] at h58
    have e := List.mem_singleton.1 h58
    have := by8_val (n := r) h0 (by omega)
    rw [← e] at this
    have h2 : ((58 : UInt8).toNat : Int) = 58 := rfl
    omega
  · rw [enc2 h h0 h1] at h58
    simp only [List.mem_cons, List.not_mem_nil, or_false] at h58
    rcases h58 with e | e
    · exact absurd e.symm (by8_58 (by omega) (by omega))
    · exact absurd e.symm (by8_58 (by omega) (by omega))
  · rw [enc3 h h0 h1] at h58
    simp only [List.mem_cons, List.not_mem_nil, or_false] at h58
    rcases h58 with e | e | e
    · exact absurd e.symm (by8_58 (by omega) (by omega))
    · exact absurd e.symm (by8_58 (by omega) (by omega))
    · exact absurd e.symm (by8_58 (by omega) (by omega))
  · rw [enc4 h h0] at h58
    simp only [List.mem_cons, List.not_mem_nil, or_false] at h58
    rcases h58 with e | e | e | e
    · exact absurd e.symm (by8_58 (by omega) (by omega))
    · exact absurd e.symm (by8_58 (by omega) (by omega))
    · exact absurd e.symm (by8_58 (by omega) (by omega))
    · exact absurd e.symm (by8_58 (by omega) (by omega))
theorem plainS_fur {xs : List Int} (h : plainS xs = true) : xs.all furC = true := by
  cases xs with
  | nil => cases h
  | cons x t =>
    simp only [plainS, Bool.and_eq_true] at h
    rw [List.all_cons, Bool.and_eq_true]
    exact ⟨fst_fur h.1, h.2⟩
theorem plainS_ne {xs : List Int} (h : plainS xs = true) : xs ≠ [] := fun e => by rw [e] at h; cases h
theorem plainS_name {xs : List Int} (h : plainS xs = true) : nameS xs = true := by
  cases xs with
  | nil => rfl
  | cons x t =>
    simp only [plainS, Bool.and_eq_true] at h
    simp only [nameS, Bool.and_eq_true]
    refine ⟨h.1, ?_⟩
    rw [List.all_eq_true] at h ⊢
    intro y hy
    unfold furT
    rw [h.2 y hy]; rfl
/-- No colon in it. -/
theorem plain_no {s : List UInt8} (h : plain s = true) : (58 : UInt8) ∉ s := by
  obtain ⟨xs, h1, h2, rfl⟩ := plain_iff.1 h
  intro h58
  obtain ⟨r, hr, h3⟩ := List.mem_flatMap.1 h58
  have hB : isB r = true := (List.all_eq_true.1 h1) r hr
  have hf : furC r = true := (List.all_eq_true.1 (plainS_fur h2)) r hr
  rw [enc_58 hB h3, fur_colon] at hf
  cases hf
theorem plain_ne {s : List UInt8} (h : plain s = true) : s ≠ [] := by
  rintro rfl
  revert h
  decide
theorem enc58 : enc 58 = [58] := by decide
theorem spl_plain {s : List UInt8} (h : plain s = true) : spl s = ([], s, true) := by unfold spl; rw [if_pos h]
theorem tk_plain {s : List UInt8} (h : plain s = true) : tk s = s.length := by
  obtain ⟨xs, h1, h2, rfl⟩ := plain_iff.1 h
  have := tk_all h1 (plainS_name h2) [] (.inl rfl)
  rwa [List.append_nil] at this
theorem not_plain (a b : List UInt8) : plain (a ++ 58 :: b) = false := by
  cases h : plain (a ++ 58 :: b) with
  | false => rfl
  | true => exact absurd (List.mem_append_right a List.mem_cons_self) (plain_no h)
/-- Where it serves, both sides are plain, and it is the only colon. -/
theorem cut_only {a b : List UInt8} {i : Nat} (h : cutOk (a ++ 58 :: b) i = true) : i = a.length ∧ plain a = true ∧ plain b = true := by
  unfold cutOk at h
  simp only [Bool.and_eq_true, beq_iff_eq] at h
  obtain ⟨h0, h1, h2⟩ := h
  have hlt : i < (a ++ 58 :: b).length := by
    rcases Nat.lt_or_ge i (a ++ 58 :: b).length with h | h
    · exact h
    · rw [List.getElem?_eq_none h] at h0; cases h0
  have hi : i = a.length := by
    rcases Nat.lt_trichotomy i a.length with hl | hl | hl
    · exfalso
      refine plain_no h2 ?_
      rw [List.drop_append_of_le_length (by omega)]
      exact List.mem_append_right _ List.mem_cons_self
    · exact hl
    · exfalso
      refine plain_no h1 ?_
      obtain ⟨k, rfl⟩ : ∃ k, i = a.length + (k + 1) := ⟨i - a.length - 1, by omega⟩
      rw [List.take_length_add_append]
      exact List.mem_append_right _ (by rw [List.take_succ_cons]; exact List.mem_cons_self)
  subst hi
  rw [List.take_left] at h1
  have h3 : (a ++ 58 :: b).drop (a.length + 1) = b := by
    rw [List.drop_length_add_append]; rfl
  rw [h3] at h2
  exact ⟨rfl, h1, h2⟩
theorem cut_at {a b : List UInt8} (ha : plain a = true) (hb : plain b = true) : cutOk (a ++ 58 :: b) a.length = true := by
  unfold cutOk
  have h3 : (a ++ 58 :: b).drop (a.length + 1) = b := by
    rw [List.drop_length_add_append]; rfl
  rw [List.take_left, h3, ha, hb, List.getElem?_append_right (Nat.le_refl _), Nat.sub_self]
  rfl
/-- Put together by a colon. -/
theorem spl_made {a b : List UInt8} (ha : plain a = true) (hb : plain b = true) : spl (a ++ 58 :: b) = (a, b, true) := by
  unfold spl
  rw [if_neg (by rw [not_plain]; decide)]
  have hf : (List.range (a ++ 58 :: b).length).find? (cutOk (a ++ 58 :: b)) = some a.length := by
    cases hx : (List.range (a ++ 58 :: b).length).find? (cutOk (a ++ 58 :: b)) with
    | none =>
      exfalso
      have := List.find?_eq_none.1 hx a.length (List.mem_range.2 (by rw [List.length_append, List.length_cons]; omega))
      exact this (cut_at ha hb)
    | some i =>
      have := List.find?_some hx
      rw [(cut_only this).1]
  rw [hf]
  have h3 : (a ++ 58 :: b).drop (a.length + 1) = b := by
    rw [List.drop_length_add_append]; rfl
  show ((a ++ 58 :: b).take a.length, (a ++ 58 :: b).drop (a.length + 1), true) = _
  rw [List.take_left, h3]
theorem spl_only {a b : List UInt8} : (spl (a ++ 58 :: b)).2.2 = (plain a && plain b) := by
  cases h : (plain a && plain b) with
  | true =>
    rw [Bool.and_eq_true] at h
    rw [spl_made h.1 h.2]
  | false =>
    unfold spl
    rw [if_neg (by rw [not_plain]; decide)]
    cases hx : (List.range (a ++ 58 :: b).length).find? (cutOk (a ++ 58 :: b)) with
    | none => rfl
    | some i =>
      exfalso
      obtain ⟨_, h1, h2⟩ := cut_only (List.find?_some hx)
      rw [h1, h2] at h
      cases h
theorem tk_made {a b : List UInt8} (ha : plain a = true) (hb : plain b = true) : tk (a ++ 58 :: b) = a.length + b.length + 1 := by
  obtain ⟨xs, h1, h2, rfl⟩ := plain_iff.1 ha
  obtain ⟨ys, g1, g2, rfl⟩ := plain_iff.1 hb
  have e : encs xs ++ 58 :: encs ys = encs (xs ++ 58 :: ys) := by
    rw [encs_app, encs_cons, enc58]; rfl
  have hA : allB (xs ++ 58 :: ys) = true := (allB_app _ _).2 ⟨h1, (allB_cons _ _).2 ⟨by decide, g1⟩⟩
  have hN : nameS (xs ++ 58 :: ys) = true := by
    cases xs with
    | nil => cases h2
    | cons x t =>
      simp only [plainS, Bool.and_eq_true] at h2
      show (fstC x && (t ++ 58 :: ys).all furT) = true
      rw [Bool.and_eq_true, List.all_append, Bool.and_eq_true, List.all_cons, Bool.and_eq_true]
      have hm : ∀ {zs : List Int}, zs.all furC = true → zs.all furT = true := fun {zs} h => by
        rw [List.all_eq_true] at h ⊢
        intro y hy
        unfold furT
        rw [h y hy]; rfl
      exact ⟨h2.1, hm h2.2, by decide, hm (plainS_fur g2)⟩
  have := tk_all hA hN [] (.inl rfl)
  rw [List.append_nil] at this
  rw [e, this, ← e, List.length_append, List.length_cons]
  omega
end Go.Proofs.YtehehmpepkgbeaaDoor.Chr
