/- How long what is read and written can be; nothing of the program. -/
import Derived.Test.YtgadpoahjlnheaaA
namespace Go.Proofs.Ytgadpoahjlnheaa.Med
open Go.RowKit
set_option linter.unusedVariables false
set_option linter.unusedSimpArgs false
def sumP (ps : List Par) : Nat := (ps.map fun p => p.1.length + p.2.length).sum
/-- How many bytes a Content-Type holds. -/
def tot (m : Med) : Nat := m.1.length + sumP m.2
theorem sumP_cons (p : Par) (t : List Par) : sumP (p :: t) = p.1.length + p.2.length + sumP t := by simp [sumP]
theorem takeD (p : UInt8 → Bool) (l : List UInt8) : (l.takeWhile p).length + (l.dropWhile p).length = l.length := by
  have e := congrArg List.length (List.takeWhile_append_dropWhile (p := p) (l := l))
  rwa [List.length_append] at e
theorem lwr_len (l : List UInt8) : (lwr l).length = l.length := by simp [lwr]
theorem qtd_tot : ∀ (n : Nat) {l : List UInt8} {q : List UInt8 × List UInt8}, l.length ≤ n → qtd l = some q → q.1.length + q.2.length ≤ l.length
  | _, [], q, _, h => by unfold qtd at h; cases h
  | 0, c :: t, q, hn, h => by simp at hn
  | n + 1, c :: t, q, hn, h => by
    simp only [List.length_cons] at hn
    by_cases h34 : c = 34
    · subst h34; rw [qtd_34] at h; cases h; simp
    by_cases h92 : c = 92
    · subst h92
      cases t with
      | nil => rw [qtd_bs0] at h; cases h
      | cons d u =>
        simp only [List.length_cons] at hn
        rw [qtd_bs] at h
        split at h
        · cases hq : qtd u with
          | none => rw [hq] at h; cases h
          | some q2 =>
            rw [hq] at h; cases h
            have := qtd_tot n (by omega) hq
            simp; omega
        · cases h
    · rw [qtd_c h34 h92] at h
      split at h
      · cases hq : qtd t with
        | none => rw [hq] at h; cases h
        | some q2 =>
          rw [hq] at h; cases h
          have := qtd_tot n (by omega) hq
          simp; omega
      · cases h
theorem val_tot {l : List UInt8} {q : List UInt8 × List UInt8} (h : val l = some q) : q.1.length + q.2.length ≤ l.length := by
  unfold val at h
  split at h
  · have := qtd_tot _ (Nat.le_refl _) h
    rw [List.length_tail] at this; omega
  · split at h
    · cases h
    · cases h
      exact Nat.le_of_eq (takeD sgn l)
theorem prm_tot {l : List UInt8} {q : Par × List UInt8} (h : prm l = some q) : q.1.1.length + q.1.2.length + q.2.length + 1 ≤ l.length := by
  unfold prm at h
  split at h
  · cases h
  · split at h
    · rename_i h61
      cases hv : val (l.dropWhile sgn).tail with
      | none => rw [hv] at h; cases h
      | some q2 =>
        rw [hv] at h; cases h
        have h1 := val_tot hv
        have h2 := takeD sgn l
        have h3 : 0 < (l.dropWhile sgn).length := by
          cases hx : l.dropWhile sgn with
          | nil => rw [hx] at h61; cases h61
          | cons a t => simp
        rw [List.length_tail] at h1
        show (lwr (l.takeWhile sgn)).length + q2.1.length + q2.2.length + 1 ≤ _
        rw [lwr_len]; omega
    · cases h
theorem rst_tot : ∀ (n : Nat) {l : List UInt8} {ps : List Par}, l.length ≤ n → rst l = some ps → sumP ps ≤ l.length ∧ ps.length ≤ l.length
  | _, [], ps, _, h => by rw [rst_nil] at h; cases h; simp [sumP]
  | 0, c :: t, ps, hn, h => by simp at hn
  | n + 1, c :: t, ps, hn, h => by
    by_cases hc : c = 59
    · subst hc
      have hd := dropW_len blk t
      simp only [List.length_cons] at hn ⊢
      by_cases he : (t.dropWhile blk).head? = none ∨ (t.dropWhile blk).head? = some 59
      · rw [rst_empty he] at h
        have := rst_tot n (by omega) h
        omega
      · cases hp : prm (t.dropWhile blk) with
        | none => rw [rst_bad he hp] at h; cases h
        | some q =>
          rw [rst_par he hp] at h
          have h1 := prm_tot hp
          have h2 := dropW_len blk q.2
          cases hr : rst (q.2.dropWhile blk) with
          | none => rw [hr] at h; cases h
          | some rs =>
            rw [hr] at h
            cases h
            have := rst_tot n (by omega) hr
            show sumP (q.1 :: rs) ≤ _ ∧ rs.length + 1 ≤ _
            rw [sumP_cons]; omega
    · rw [rst_other hc] at h; cases h
theorem parse_tot {s : List UInt8} {m : Med} (h : parse s = some m) : tot m ≤ s.length ∧ m.2.length ≤ s.length := by
  unfold parse at h
  split at h
  · cases h
  · split at h
    · rename_i h47
      split at h
      · cases h
      · cases hr : rst ((((s.dropWhile blk).dropWhile sgn).tail.dropWhile sgn).dropWhile blk) with
        | none => rw [hr] at h; cases h
        | some ps =>
          rw [hr] at h
          cases h
          have h1 := rst_tot _ (Nat.le_refl _) hr
          have h2 := dropW_len blk s
          have h3 := takeD sgn (s.dropWhile blk)
          have h4 := takeD sgn ((s.dropWhile blk).dropWhile sgn).tail
          have h5 := dropW_len blk (((s.dropWhile blk).dropWhile sgn).tail.dropWhile sgn)
          have h6 : 0 < ((s.dropWhile blk).dropWhile sgn).length := by
            cases hx : (s.dropWhile blk).dropWhile sgn with
            | nil => rw [hx] at h47; cases h47
            | cons a t => simp
          rw [List.length_tail] at h4
          show (lwr _).length + sumP ps ≤ _ ∧ ps.length ≤ _
          rw [lwr_len, List.length_append, List.length_cons]
          omega
    · cases h
theorem medOf_tot (s : List UInt8) : tot ((parse s).getD ([], [])) ≤ s.length ∧ ((parse s).getD ([], [])).2.length ≤ s.length := by
  cases h : parse s with
  | none => simp [tot, sumP]
  | some m => exact parse_tot h
theorem quo_len (v : List UInt8) : (quo v).length ≤ 2 * v.length := by
  induction v with
  | nil => simp [quo]
  | cons c t ih =>
    have : quo (c :: t) = (if c = 34 ∨ c = 92 then [92, c] else [c]) ++ quo t := by simp [quo, List.flatMap_cons]
    rw [this, List.length_append, List.length_cons]
    split <;> simp <;> omega
theorem wval_len (v : List UInt8) : (wval v).length ≤ 2 * v.length + 2 := by
  unfold wval
  have := quo_len v
  split
  · omega
  · simp; omega
theorem wpars_len (ps : List Par) : (wpars ps).length ≤ 2 * sumP ps + 5 * ps.length := by
  induction ps with
  | nil => simp [wpars]
  | cons p t ih =>
    have e : wpars (p :: t) = wpar p ++ wpars t := by simp [wpars, List.flatMap_cons]
    have := wval_len p.2
    rw [e, List.length_append, sumP_cons, List.length_cons]
    simp only [wpar, List.length_cons, List.length_append]
    omega
theorem text_len (m : Med) : (text m).length ≤ 2 * tot m + 5 * m.2.length := by
  have := wpars_len m.2
  unfold text tot
  rw [List.length_append]; omega
end Go.Proofs.Ytgadpoahjlnheaa.Med
