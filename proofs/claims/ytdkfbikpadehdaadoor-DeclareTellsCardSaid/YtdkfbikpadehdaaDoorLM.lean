/- The mathematics of labels: lists of bytes, white space, letters; nothing of the program. -/
import Derived.Test.YtdkfbikpadehdaaDoorSL
namespace Go.Proofs.YtdkfbikpadehdaaDoor.Lab
open Go.RowKit
set_option linter.unusedVariables false
set_option linter.unusedSimpArgs false
/-- White space. -/
def isW (c : UInt8) : Bool := c == 9 || c == 10 || c == 12 || c == 13 || c == 32
/-- A letter A to Z as a to z. -/
def lo (c : UInt8) : UInt8 := if 65 ≤ c ∧ c ≤ 90 then c + 32 else c
def lwr (l : List UInt8) : List UInt8 := l.map lo
def dropE (l : List UInt8) : List UInt8 := (l.reverse.dropWhile isW).reverse
def trm (l : List UInt8) : List UInt8 := dropE (l.dropWhile isW)
theorem lo_lo (c : UInt8) : lo (lo c) = lo c := by
  have : ∀ c : Fin 256, lo (lo (UInt8.ofNat c)) = lo (UInt8.ofNat c) := by decide +kernel
  have h := this ⟨c.toNat, c.toNat_lt⟩
  simpa using h
theorem isW_lo (c : UInt8) : isW (lo c) = isW c := by
  have : ∀ c : Fin 256, isW (lo (UInt8.ofNat c)) = isW (UInt8.ofNat c) := by decide +kernel
  have h := this ⟨c.toNat, c.toNat_lt⟩
  simpa using h
theorem lwr_lwr (l : List UInt8) : lwr (lwr l) = lwr l := by
  unfold lwr; rw [List.map_map]; exact List.map_congr_left fun c _ => lo_lo c
theorem lwr_len (l : List UInt8) : (lwr l).length = l.length := by simp [lwr]
theorem dropW_lwr (l : List UInt8) : (lwr l).dropWhile isW = lwr (l.dropWhile isW) := by
  induction l with
  | nil => rfl
  | cons a t ih =>
    have h := isW_lo a
    unfold lwr at *
    rw [List.map_cons, List.dropWhile_cons, List.dropWhile_cons, h]
    split
    · exact ih
    · rfl
theorem lwr_rev (l : List UInt8) : (lwr l).reverse = lwr l.reverse := by simp [lwr]
theorem trm_lwr (l : List UInt8) : trm (lwr l) = lwr (trm l) := by
  unfold trm dropE
  rw [dropW_lwr, lwr_rev, dropW_lwr, lwr_rev]
theorem dropW_idem (l : List UInt8) : (l.dropWhile isW).dropWhile isW = l.dropWhile isW := by
  induction l with
  | nil => rfl
  | cons a t ih =>
    rw [List.dropWhile_cons]
    split
    · exact ih
    · rename_i h; rw [List.dropWhile_cons, if_neg h]
theorem dropW_len (l : List UInt8) : (l.dropWhile isW).length ≤ l.length := by
  have := List.dropWhile_sublist isW (l := l)
  exact this.length_le
theorem trm_len (l : List UInt8) : (trm l).length ≤ l.length := by
  unfold trm dropE
  have h1 := dropW_len l
  have h2 := dropW_len (l.dropWhile isW).reverse
  simp only [List.length_reverse] at *
  omega
/-- White space ahead and behind, a middle that begins and ends otherwise. -/
theorem trm_mid {a m b : List UInt8} (ha : ∀ c ∈ a, isW c = true) (hb : ∀ c ∈ b, isW c = true) (h0 : ∀ c, m.head? = some c → isW c = false) (h1 : ∀ c, m.getLast? = some c → isW c = false) (hm : m ≠ []) : trm (a ++ m ++ b) = m := by
  have e1 : (a ++ m ++ b).dropWhile isW = m ++ b := by
    rw [List.append_assoc, List.dropWhile_append_of_pos (by simpa using ha)]
    cases m with
    | nil => exact absurd rfl hm
    | cons x t => rw [List.cons_append, List.dropWhile_cons, if_neg (by simp [h0 x rfl])]
  unfold trm dropE
  rw [e1, List.reverse_append, List.dropWhile_append_of_pos (by simpa using hb)]
  have : m.reverse.dropWhile isW = m.reverse := by
    cases hr : m.reverse with
    | nil => rfl
    | cons x t =>
      have : m.getLast? = some x := by rw [← List.head?_reverse, hr]; rfl
      rw [List.dropWhile_cons, if_neg (by simp [h1 x this])]
  rw [this, List.reverse_reverse]
theorem dropE_idem (l : List UInt8) : dropE (dropE l) = dropE l := by
  unfold dropE; rw [List.reverse_reverse, dropW_idem]
/-- The loop that goes up. -/
theorem dropW_go {l : List UInt8} {i : Nat} (h : ∀ j, (hj : j < l.length) → j < i → isW l[j] = true) (hi : i ≤ l.length) (hs : ∀ hi : i < l.length, isW l[i] = false) : l.dropWhile isW = l.drop i := by
  induction l generalizing i with
  | nil => simp
  | cons a t ih =>
    cases i with
    | zero =>
      have := hs (by simp)
      simp at this
      simp [List.dropWhile_cons, this]
    | succ k =>
      have h0 := h 0 (by simp) (by omega)
      simp at h0
      rw [List.dropWhile_cons, if_pos h0, List.drop_succ_cons]
      exact ih (fun j hj hk => by have := h (j + 1) (by simpa using hj) (by omega); simpa using this) (by simpa using hi) (fun hk => by have := hs (by simpa using hk); simpa using this)
/-- The loop that goes down: what is behind e is white, what stands ahead of it isn't. -/
theorem dropE_go {l : List UInt8} {e : Nat} (he : e ≤ l.length) (h : ∀ j, (hj : j < l.length) → e ≤ j → isW l[j] = true) (hs : ∀ h0 : 0 < e, isW (l[e - 1]'(by omega)) = false) : dropE l = l.take e := by
  have h1 : l.reverse.dropWhile isW = l.reverse.drop (l.length - e) := by
    refine dropW_go (fun j hj hk => ?_) (by simp) (fun hi => ?_)
    · rw [List.getElem_reverse]
      exact h _ (by omega) (by omega)
    · simp only [List.length_reverse] at hi
      rw [List.getElem_reverse]
      have := hs (by omega)
      simp only [show l.length - 1 - (l.length - e) = e - 1 by omega]
      exact this
  unfold dropE
  rw [h1, List.drop_reverse]
  simp
  congr 1; omega
/-- Both loops. -/
structure Up (l : List UInt8) (i : Nat) : Prop where
  le : i ≤ l.length
  wh : ∀ j, (hj : j < l.length) → j < i → isW l[j] = true
theorem Up.start (l : List UInt8) : Up l 0 := ⟨Nat.zero_le _, fun j _ h => by omega⟩
theorem Up.step {l : List UInt8} {i : Nat} (h : Up l i) (hi : i < l.length) (hw : isW l[i] = true) : Up l (i + 1) :=
  ⟨hi, fun j hj hk => by by_cases e : j = i; subst e; exact hw; exact h.wh j hj (by omega)⟩
structure Dn (l : List UInt8) (b e : Nat) : Prop where
  be : b ≤ e
  el : e ≤ l.length
  st : l.dropWhile isW = l.drop b
  wh : ∀ j, (hj : j < l.length) → e ≤ j → isW l[j] = true
theorem Up.down {l : List UInt8} {i : Nat} (h : Up l i) (hs : ∀ hi : i < l.length, isW l[i] = false) : Dn l i l.length :=
  ⟨h.le, Nat.le_refl _, dropW_go h.wh h.le hs, fun j hj hk => by omega⟩
theorem Dn.step {l : List UInt8} {b e : Nat} (h : Dn l b e) (hb : b < e) (hw : isW (l[e - 1]'(by have := h.el; omega)) = true) : Dn l b (e - 1) :=
  ⟨by omega, by have := h.el; omega, h.st, fun j hj hk => by by_cases x : j = e - 1; subst x; exact hw; exact h.wh j hj (by omega)⟩
theorem Dn.done {l : List UInt8} {b e : Nat} (h : Dn l b e) (hs : ∀ hb : b < e, isW (l[e - 1]'(by have := h.el; omega)) = false) : trm l = (l.drop b).take (e - b) := by
  have hl := h.el
  have hb := h.be
  unfold trm
  rw [h.st]
  refine dropE_go (by simp; omega) (fun j hj hk => ?_) (fun h0 => ?_)
  · rw [List.getElem_drop]
    exact h.wh _ (by simp at hj; omega) (by omega)
  · rw [List.getElem_drop]
    have := hs (by omega)
    simp only [show b + (e - b - 1) = e - 1 by omega]
    exact this
theorem trm_trm (l : List UInt8) : trm (trm l) = trm l := by
  have key : ∀ x : List UInt8, (dropE (x.dropWhile isW)).dropWhile isW = dropE (x.dropWhile isW) := by
    intro x
    have h0 : (x.dropWhile isW) = [] ∨ ∃ a t, x.dropWhile isW = a :: t ∧ isW a = false := by
      cases h : x.dropWhile isW with
      | nil => exact .inl rfl
      | cons a t =>
        refine .inr ⟨a, t, rfl, ?_⟩
        have := List.head?_dropWhile_not isW x
        rw [h] at this
        simpa using this
    rcases h0 with h | ⟨a, t, h, ha⟩
    · rw [h]; rfl
    · rw [h]
      have : ∃ u, dropE (a :: t) = a :: u := by
        unfold dropE
        rw [List.reverse_cons]
        rw [List.dropWhile_append]
        split
        · rename_i h2
          refine ⟨[], ?_⟩
          simp [List.dropWhile_cons, ha]
        · rename_i h2
          exact ⟨(t.reverse.dropWhile isW).reverse, by simp⟩
      obtain ⟨u, hu⟩ := this
      rw [hu, List.dropWhile_cons, if_neg (by simp [ha])]
  unfold trm
  rw [key, dropE_idem]
end Go.Proofs.YtdkfbikpadehdaaDoor.Lab
