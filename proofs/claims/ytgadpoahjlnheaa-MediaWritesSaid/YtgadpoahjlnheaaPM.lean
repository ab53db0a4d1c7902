/- A Content-Type, read by places: the mathematics. -/
import Derived.Test.YtgadpoahjlnheaaPA
namespace Go.Proofs.Ytgadpoahjlnheaa.Med
open Go.RowKit
set_option linter.unusedVariables false
set_option linter.unusedSimpArgs false
open Lab (RetS ret_str str str_size str_list str_eta str_inj u8v st_ixb info5 info_parts)
theorem tw_nil {p : UInt8 → Bool} {l : List UInt8} {a : Nat} : (l.drop a).takeWhile p = [] ↔ endW p l a = a := by
  unfold endW
  constructor
  · intro h; rw [h]; rfl
  · intro h; exact List.eq_nil_of_length_eq_zero (by omega)
theorem drop0 (p : UInt8 → Bool) (l : List UInt8) : l.dropWhile p = l.drop (endW p l 0) := by
  rw [drop_end, List.drop_zero]
theorem split_end (p : UInt8 → Bool) (l : List UInt8) (a : Nat) : l.drop a = (l.drop a).takeWhile p ++ l.drop (endW p l a) := by
  rw [drop_end, List.takeWhile_append_dropWhile]
/-- The type, by its places. -/
theorem type_idx {l : List UInt8} {t a b : Nat} (ha : endW sgn l t = a) (hb : endW sgn l (a + 1) = b) (h47 : (l.drop a).head? = some 47) : (l.drop t).take (b - t) = (l.drop t).takeWhile sgn ++ 47 :: (l.drop (a + 1)).takeWhile sgn := by
  have h1 : l.drop a = 47 :: l.drop (a + 1) := by
    cases hx : l.drop a with
    | nil => rw [hx] at h47; cases h47
    | cons c u =>
      rw [hx] at h47
      cases h47
      have : l.drop (a + 1) = (l.drop a).tail := by rw [List.tail_drop]
      rw [this, hx]; rfl
  have e1 := split_end sgn l t
  have e2 := split_end sgn l (a + 1)
  rw [ha, h1] at e1
  rw [hb] at e2
  have n1 : a = t + ((l.drop t).takeWhile sgn).length := by rw [← ha]; rfl
  have n2 : b = a + 1 + ((l.drop (a + 1)).takeWhile sgn).length := by rw [← hb]; rfl
  obtain ⟨x, hx⟩ : ∃ x, (l.drop t).takeWhile sgn = x := ⟨_, rfl⟩
  obtain ⟨y, hy⟩ : ∃ y, (l.drop (a + 1)).takeWhile sgn = y := ⟨_, rfl⟩
  rw [hx] at e1 n1 ⊢
  rw [hy] at e2 n2 ⊢
  rw [e2] at e1
  have e3 : l.drop t = (x ++ 47 :: y) ++ l.drop b := by rw [e1]; simp
  rw [e3]
  refine List.take_left' ?_
  rw [List.length_append, List.length_cons]; omega
theorem parse_idx {l : List UInt8} {t a b : Nat} (ht : endW blk l 0 = t) (ha : endW sgn l t = a) (hb : endW sgn l (a + 1) = b) :
    parse l = if a = t then none else if (l.drop a).head? = some 47 then (if b = a + 1 then none else (rst (l.drop (endW blk l b))).map fun ps => (lwr ((l.drop t).take (b - t)), ps)) else none := by
  unfold parse
  rw [drop0 blk l, ht, ← drop_end sgn l t, ha]
  have e1 : ((l.drop t).takeWhile sgn = []) ↔ a = t := by rw [tw_nil, ha]
  by_cases h1 : a = t
  · rw [if_pos h1, if_pos (e1.2 h1)]
  · rw [if_neg h1, if_neg (fun h => h1 (e1.1 h))]
    by_cases h2 : (l.drop a).head? = some 47
    · rw [if_pos h2, if_pos h2, List.tail_drop, ← drop_end sgn l (a + 1), hb, ← drop_end blk l b, type_idx ha hb h2]
      have e2 : ((l.drop (a + 1)).takeWhile sgn = []) ↔ b = a + 1 := by rw [tw_nil, hb]
      by_cases h3 : b = a + 1
      · rw [if_pos h3, if_pos (e2.2 h3)]
      · rw [if_neg h3, if_neg (fun h => h3 (e2.1 h))]
    · rw [if_neg h2, if_neg h2]
theorem prm_suf {l : List UInt8} {q : Par × List UInt8} (h : prm l = some q) : ∃ x, l = x ++ q.2 := by
  unfold prm at h
  split at h
  · cases h
  · split at h
    · rename_i h61
      cases hv : val (l.dropWhile sgn).tail with
      | none => rw [hv] at h; cases h
      | some q2 =>
        rw [hv] at h
        cases h
        have hs : ∃ x, (l.dropWhile sgn).tail = x ++ q2.2 := by
          unfold val at hv
          split at hv
          · rename_i h34
            obtain ⟨x, hx⟩ := qtd_suf _ (Nat.le_refl _) hv
            cases ht : (l.dropWhile sgn).tail with
            | nil => rw [ht] at h34; cases h34
            | cons c u => rw [ht] at hx; exact ⟨c :: x, by rw [List.cons_append, ← hx]; rfl⟩
          · split at hv
            · cases hv
            · cases hv
              exact ⟨_, (List.takeWhile_append_dropWhile (p := sgn)).symm⟩
        obtain ⟨x, hx⟩ := hs
        refine ⟨l.takeWhile sgn ++ 61 :: x, ?_⟩
        have e := List.takeWhile_append_dropWhile (p := sgn) (l := l)
        cases hd : l.dropWhile sgn with
        | nil => rw [hd] at h61; cases h61
        | cons c u =>
          rw [hd] at h61 hx
          cases h61
          have hx' : u = x ++ q2.2 := hx
          rw [hd] at e
          obtain ⟨y, hy⟩ : ∃ y, l.takeWhile sgn = y := ⟨_, rfl⟩
          rw [hy] at e ⊢
          show l = _
          rw [← e, hx']
          simp
    · cases h
theorem suf_at {l R x : List UInt8} {k : Nat} (h : l.drop k = x ++ R) : l.drop (l.length - R.length) = R ∧ R.length ≤ l.length := by
  have e : l = (l.take k ++ x) ++ R := by rw [List.append_assoc, ← h, List.take_append_drop]
  refine ⟨suf_drop e, ?_⟩
  have := congrArg List.length e
  rw [List.length_append] at this
  omega
end Go.Proofs.Ytgadpoahjlnheaa.Med
