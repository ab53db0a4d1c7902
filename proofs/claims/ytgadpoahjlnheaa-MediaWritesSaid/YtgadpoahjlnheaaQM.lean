/- The mathematics of Content-Types: what is read, what is written; nothing of the program. -/
import Derived.Test.YtgadpoahjlnheaaSL
namespace Go.Proofs.Ytgadpoahjlnheaa.Med
open Go.RowKit
set_option linter.unusedVariables false
set_option linter.unusedSimpArgs false
/-- A letter A to Z as a to z. -/
def lo (c : UInt8) : UInt8 := if 65 ≤ c ∧ c ≤ 90 then c + 32 else c
def lwr (l : List UInt8) : List UInt8 := l.map lo
/-- One of a token. -/
def sgn (c : UInt8) : Bool := (decide (65 ≤ c) && decide (c ≤ 90)) || (decide (97 ≤ c) && decide (c ≤ 122)) || (decide (48 ≤ c) && decide (c ≤ 57)) || [33, 35, 36, 37, 38, 39, 42, 43, 45, 46, 94, 95, 96, 124, 126].contains c
def blk (c : UInt8) : Bool := c == 32 || c == 9
/-- It may stand in a quoted text as it is. -/
def wth (c : UInt8) : Bool := c == 9 || (decide (32 ≤ c) && decide (c ≤ 126) && c != 34 && c != 92) || decide (128 ≤ c)
/-- It may stand behind a backslash. -/
def esc (c : UInt8) : Bool := c == 9 || (decide (32 ≤ c) && decide (c ≤ 126))
abbrev Par := List UInt8 × List UInt8
abbrev Med := List UInt8 × List Par
/-- A quoted text behind its first quote: what is meant, and the rest. -/
def qtd : List UInt8 → Option (List UInt8 × List UInt8)
  | [] => none
  | c :: t =>
    if c = 34 then some ([], t)
    else if c = 92 then
      match t with
      | [] => none
      | d :: u => if esc d then (qtd u).map fun p => (d :: p.1, p.2) else none
    else if wth c then (qtd t).map fun p => (c :: p.1, p.2) else none
/-- A value: a token or a quoted text. -/
def val (t : List UInt8) : Option (List UInt8 × List UInt8) :=
  if t.head? = some 34 then qtd t.tail
  else if t.takeWhile sgn = [] then none else some (t.takeWhile sgn, t.dropWhile sgn)
/-- A parameter, and the rest. -/
def prm (l : List UInt8) : Option (Par × List UInt8) :=
  if l.takeWhile sgn = [] then none
  else if (l.dropWhile sgn).head? = some 61 then (val (l.dropWhile sgn).tail).map fun p => ((lwr (l.takeWhile sgn), p.1), p.2)
  else none
theorem dropW_len (p : UInt8 → Bool) (l : List UInt8) : (l.dropWhile p).length ≤ l.length := (List.dropWhile_sublist p (l := l)).length_le
theorem qtd_len : ∀ {l : List UInt8} {p : List UInt8 × List UInt8}, qtd l = some p → p.2.length < l.length
  | [], p, h => by unfold qtd at h; cases h
  | c :: t, p, h => by
    unfold qtd at h
    split at h
    · cases h; simp
    · split at h
      · cases t with
        | nil => simp at h
        | cons d u =>
          simp only at h
          split at h
          · cases hq : qtd u with
            | none => rw [hq] at h; cases h
            | some q =>
              rw [hq] at h
              cases h
              have := qtd_len hq
              simp; omega
          · cases h
      · split at h
        · cases hq : qtd t with
          | none => rw [hq] at h; cases h
          | some q =>
            rw [hq] at h
            cases h
            have := qtd_len hq
            simp; omega
        · cases h
theorem val_len {l : List UInt8} {p : List UInt8 × List UInt8} (h : val l = some p) : p.2.length < l.length := by
  unfold val at h
  split at h
  · have := qtd_len h
    cases l with
    | nil => simp at this
    | cons a t => simp at this ⊢; omega
  · split at h
    · cases h
    · rename_i h1
      cases h
      have e := congrArg List.length (List.takeWhile_append_dropWhile (p := sgn) (l := l))
      rw [List.length_append] at e
      have := List.length_pos_iff.2 h1
      show (l.dropWhile sgn).length < l.length
      omega
theorem prm_len {l : List UInt8} {p : Par × List UInt8} (h : prm l = some p) : p.2.length < l.length := by
  unfold prm at h
  split at h
  · cases h
  · split at h
    · cases hv : val (l.dropWhile sgn).tail with
      | none => rw [hv] at h; cases h
      | some q =>
        rw [hv] at h
        cases h
        have h1 := val_len hv
        have h2 := dropW_len sgn l
        simp only [List.length_tail] at h1
        show q.2.length < l.length
        omega
    · cases h
/-- The parameters, blanks ahead cut off. -/
def rst (l : List UInt8) : Option (List Par) :=
  match l with
  | [] => some []
  | c :: t =>
    if c = 59 then
      if (t.dropWhile blk).head? = none ∨ (t.dropWhile blk).head? = some 59 then rst (t.dropWhile blk)
      else
        match hp : prm (t.dropWhile blk) with
        | none => none
        | some q => (rst (q.2.dropWhile blk)).map (q.1 :: ·)
    else none
termination_by l.length
decreasing_by
  · have := dropW_len blk t; simp; omega
  · have h1 := prm_len hp
    have h2 := dropW_len blk t
    have h3 := dropW_len blk q.2
    simp; omega
/-- A Content-Type. -/
def parse (s : List UInt8) : Option Med :=
  if (s.dropWhile blk).takeWhile sgn = [] then none
  else if ((s.dropWhile blk).dropWhile sgn).head? = some 47 then
    if (((s.dropWhile blk).dropWhile sgn).tail).takeWhile sgn = [] then none
    else (rst (((((s.dropWhile blk).dropWhile sgn).tail).dropWhile sgn).dropWhile blk)).map fun ps =>
      (lwr ((s.dropWhile blk).takeWhile sgn ++ 47 :: (((s.dropWhile blk).dropWhile sgn).tail).takeWhile sgn), ps)
  else none
/-- A token in lower case. -/
def nam (x : List UInt8) : Bool := !x.isEmpty && x.all sgn && lwr x == x
def typ (t : List UInt8) : Bool := (t.dropWhile sgn).head? == some 47 && nam (t.takeWhile sgn) && nam (t.dropWhile sgn).tail
def tok (v : List UInt8) : Bool := !v.isEmpty && v.all sgn
def mean (c : UInt8) : Bool := c == 34 || c == 92 || wth c
def parOk (p : Par) : Bool := nam p.1 && (tok p.2 || p.2.all mean)
def ok (m : Med) : Bool := typ m.1 && m.2.all parOk
def quo (v : List UInt8) : List UInt8 := v.flatMap fun c => if c = 34 ∨ c = 92 then [92, c] else [c]
def wval (v : List UInt8) : List UInt8 := if tok v then v else 34 :: (quo v ++ [34])
def wpar (p : Par) : List UInt8 := 59 :: 32 :: (p.1 ++ 61 :: wval p.2)
def wpars (ps : List Par) : List UInt8 := ps.flatMap wpar
def text (m : Med) : List UInt8 := m.1 ++ wpars m.2
theorem byte_all {P : UInt8 → Prop} (h : ∀ c : Fin 256, P (UInt8.ofNat c)) (c : UInt8) : P c := by
  have := h ⟨c.toNat, c.toNat_lt⟩
  simpa using this
theorem sgn_facts (c : UInt8) : sgn c = true → blk c = false ∧ c ≠ 59 ∧ c ≠ 61 ∧ c ≠ 34 ∧ c ≠ 47 ∧ c ≠ 92 ∧ mean c = true := by
  revert c; exact byte_all (by decide +kernel)
theorem sgn_lo (c : UInt8) : sgn (lo c) = sgn c := by
  revert c; exact byte_all (by decide +kernel)
theorem lo_lo (c : UInt8) : lo (lo c) = lo c := by
  revert c; exact byte_all (by decide +kernel)
theorem z_facts (c : UInt8) : (blk c = true ∨ c = 59) → sgn c = false ∧ c ≠ 34 ∧ c ≠ 61 ∧ c ≠ 47 ∧ c ≠ 92 ∧ wth c = true ∧ esc c = true := by
  revert c; exact byte_all (by decide +kernel)
theorem esc_mean (c : UInt8) : esc c = true → mean c = true := by
  revert c; exact byte_all (by decide +kernel)
theorem esc_two (c : UInt8) : (c = 34 ∨ c = 92) → esc c = true := by
  revert c; exact byte_all (by decide +kernel)
theorem blk59 : blk 59 = false := by decide
theorem blk32 : blk 32 = true := by decide
theorem lwr_lwr (l : List UInt8) : lwr (lwr l) = lwr l := by
  unfold lwr; rw [List.map_map]; exact List.map_congr_left fun c _ => lo_lo c
theorem lwr_app (a b : List UInt8) : lwr (a ++ b) = lwr a ++ lwr b := by simp [lwr]
theorem all_lwr {l : List UInt8} (h : l.all sgn = true) : (lwr l).all sgn = true := by
  rw [List.all_eq_true] at *
  intro c hc
  obtain ⟨d, hd, rfl⟩ := List.mem_map.1 hc
  rw [sgn_lo]; exact h d hd
theorem takeW_all (p : UInt8 → Bool) (l : List UInt8) : (l.takeWhile p).all p = true := by
  induction l with
  | nil => rfl
  | cons a t ih =>
    rw [List.takeWhile_cons]
    split
    · rename_i h; rw [List.all_cons, h, ih]; rfl
    · rfl
theorem takeW_app {p : UInt8 → Bool} {a b : List UInt8} (ha : a.all p = true) (hb : ∀ c, b.head? = some c → p c = false) : (a ++ b).takeWhile p = a := by
  rw [List.takeWhile_append_of_pos (by simpa using ha)]
  cases b with
  | nil => simp
  | cons c t => rw [List.takeWhile_cons, if_neg (by simp [hb c rfl])]; simp
theorem dropW_app {p : UInt8 → Bool} {a b : List UInt8} (ha : a.all p = true) (hb : ∀ c, b.head? = some c → p c = false) : (a ++ b).dropWhile p = b := by
  rw [List.dropWhile_append_of_pos (by simpa using ha)]
  cases b with
  | nil => simp
  | cons c t => rw [List.dropWhile_cons, if_neg (by simp [hb c rfl])]
theorem dropW_self {p : UInt8 → Bool} {b : List UInt8} (hb : ∀ c, b.head? = some c → p c = false) : b.dropWhile p = b := by
  have := dropW_app (p := p) (a := []) rfl hb
  simpa using this
theorem nam_parts {x : List UInt8} (h : nam x = true) : x ≠ [] ∧ x.all sgn = true ∧ lwr x = x := by
  unfold nam at h
  simp only [Bool.and_eq_true, Bool.not_eq_true', beq_iff_eq] at h
  obtain ⟨⟨h1, h2⟩, h3⟩ := h
  exact ⟨fun e => by (subst e; cases h1), h2, h3⟩
theorem nam_lwr {x : List UInt8} (h : x ≠ []) (ha : x.all sgn = true) : nam (lwr x) = true := by
  unfold nam
  rw [lwr_lwr, all_lwr ha]
  cases x with
  | nil => exact absurd rfl h
  | cons a t => simp [lwr]
theorem head_sgn {x y : List UInt8} (hx : x ≠ []) (ha : x.all sgn = true) : ∃ c, (x ++ y).head? = some c ∧ sgn c = true := by
  cases x with
  | nil => exact absurd rfl hx
  | cons a t => rw [List.all_cons, Bool.and_eq_true] at ha; exact ⟨a, rfl, ha.1⟩
/-- What stands behind a parameter that is written: nothing, or a semicolon. -/
def semi (R : List UInt8) : Prop := R = [] ∨ R.head? = some 59
theorem semi_sgn {R : List UInt8} (h : semi R) : ∀ c, R.head? = some c → sgn c = false := by
  intro c hc
  rcases h with rfl | h
  · cases hc
  · rw [h] at hc; cases hc; decide
theorem semi_blk {R : List UInt8} (h : semi R) : ∀ c, R.head? = some c → blk c = false := by
  intro c hc
  rcases h with rfl | h
  · cases hc
  · rw [h] at hc; cases hc; decide
theorem wpars_semi (ps : List Par) : semi (wpars ps) := by
  cases ps with
  | nil => exact .inl rfl
  | cons p t => exact .inr rfl
theorem qtd_quo : ∀ {v R : List UInt8}, v.all mean = true → qtd (quo v ++ 34 :: R) = some (v, R)
  | [], R, _ => by show qtd (34 :: R) = _; unfold qtd; rfl
  | c :: t, R, h => by
    rw [List.all_cons, Bool.and_eq_true] at h
    have ih := qtd_quo (R := R) h.2
    by_cases hc : c = 34 ∨ c = 92
    · have e : quo (c :: t) = 92 :: c :: quo t := by simp [quo, List.flatMap_cons, hc]
      rw [e, List.cons_append, List.cons_append]
      unfold qtd
      rw [if_neg (by decide), if_pos rfl]
      simp only
      rw [if_pos (esc_two c hc), ih]; rfl
    · have e : quo (c :: t) = c :: quo t := by simp [quo, List.flatMap_cons, hc]
      rw [e, List.cons_append]
      have hw : wth c = true := by
        have := h.1
        unfold mean at this
        simp only [Bool.or_eq_true, beq_iff_eq] at this
        rcases this with (h1 | h1) | h1
        · exact absurd (.inl h1) hc
        · exact absurd (.inr h1) hc
        · exact h1
      unfold qtd
      rw [if_neg (fun e => hc (.inl e)), if_neg (fun e => hc (.inr e)), if_pos hw, ih]; rfl
theorem tok_parts {v : List UInt8} (h : tok v = true) : v ≠ [] ∧ v.all sgn = true := by
  unfold tok at h
  simp only [Bool.and_eq_true, Bool.not_eq_true'] at h
  obtain ⟨h1, h2⟩ := h
  exact ⟨fun e => by (subst e; cases h1), h2⟩
theorem val_wval {v R : List UInt8} (h : tok v = true ∨ v.all mean = true) (hR : semi R) : val (wval v ++ R) = some (v, R) := by
  unfold wval
  by_cases ht : tok v = true
  · rw [if_pos ht]
    obtain ⟨h1, h2⟩ := tok_parts ht
    obtain ⟨c, hc, hs⟩ := head_sgn (y := R) h1 h2
    unfold val
    rw [if_neg (by rw [hc]; intro e; cases e; exact absurd hs (by decide)), takeW_app h2 (semi_sgn hR), dropW_app h2 (semi_sgn hR), if_neg h1]
  · rw [if_neg ht]
    have hm : v.all mean = true := h.resolve_left ht
    unfold val
    rw [List.cons_append, List.head?_cons, if_pos rfl]
    show qtd ((quo v ++ [34]) ++ R) = _
    rw [List.append_assoc]
    exact qtd_quo hm
theorem prm_wpar {p : Par} {R : List UInt8} (h : parOk p = true) (hR : semi R) : prm (p.1 ++ 61 :: wval p.2 ++ R) = some (p, R) := by
  unfold parOk at h
  rw [Bool.and_eq_true, Bool.or_eq_true] at h
  obtain ⟨h1, h2, h3⟩ := nam_parts h.1
  have e : p.1 ++ 61 :: wval p.2 ++ R = p.1 ++ (61 :: (wval p.2 ++ R)) := by simp
  have hh : ∀ c, (61 :: (wval p.2 ++ R)).head? = some c → sgn c = false := by
    intro c hc; cases hc; decide
  rw [e]
  unfold prm
  rw [takeW_app h2 hh, dropW_app h2 hh, if_neg h1, List.head?_cons, if_pos rfl, List.tail_cons, val_wval h.2 hR, h3]
  rfl
theorem rst_nil : rst [] = some [] := by unfold rst; rfl
theorem rst_other {c : UInt8} {t : List UInt8} (h : c ≠ 59) : rst (c :: t) = none := by
  rw [rst.eq_def]; simp only; rw [if_neg h]
theorem rst_empty {t : List UInt8} (h : (t.dropWhile blk).head? = none ∨ (t.dropWhile blk).head? = some 59) : rst (59 :: t) = rst (t.dropWhile blk) := by
  rw [rst.eq_def]; simp only; rw [if_pos trivial, if_pos h]
theorem rst_bad {t : List UInt8} (h : ¬ ((t.dropWhile blk).head? = none ∨ (t.dropWhile blk).head? = some 59)) (hp : prm (t.dropWhile blk) = none) : rst (59 :: t) = none := by
  rw [rst.eq_def]; simp only; rw [if_pos trivial, if_neg h]
  split
  · rfl
  · rename_i q hq; rw [hp] at hq; cases hq
theorem rst_par {t : List UInt8} {q : Par × List UInt8} (h : ¬ ((t.dropWhile blk).head? = none ∨ (t.dropWhile blk).head? = some 59)) (hp : prm (t.dropWhile blk) = some q) : rst (59 :: t) = (rst (q.2.dropWhile blk)).map (q.1 :: ·) := by
  rw [rst.eq_def]; simp only; rw [if_pos trivial, if_neg h]
  split
  · rename_i hq; rw [hp] at hq; cases hq
  · rename_i q' hq; rw [hp] at hq; cases hq; rfl
theorem rst_wpars : ∀ {ps : List Par}, ps.all parOk = true → rst (wpars ps) = some ps
  | [], _ => rst_nil
  | p :: t, h => by
    rw [List.all_cons, Bool.and_eq_true] at h
    have hn := h.1
    unfold parOk at hn
    rw [Bool.and_eq_true] at hn
    obtain ⟨h1, h2, h3⟩ := nam_parts hn.1
    have e : wpars (p :: t) = 59 :: (32 :: (p.1 ++ 61 :: wval p.2 ++ wpars t)) := by simp [wpars, wpar, List.flatMap_cons]
    obtain ⟨c, hc, hs⟩ := head_sgn (y := 61 :: wval p.2 ++ wpars t) h1 h2
    have hc' : (p.1 ++ 61 :: wval p.2 ++ wpars t).head? = some c := by rw [List.append_assoc]; exact hc
    have hd : (32 :: (p.1 ++ 61 :: wval p.2 ++ wpars t)).dropWhile blk = p.1 ++ 61 :: wval p.2 ++ wpars t := by
      rw [List.dropWhile_cons, if_pos blk32]
      exact dropW_self (fun d hd => by rw [hc'] at hd; cases hd; exact (sgn_facts c hs).1)
    rw [e, rst_par (q := (p, wpars t)) (by
      rw [hd, hc']
      rintro (h | h)
      · cases h
      · cases h; exact (sgn_facts _ hs).2.1 rfl) (by rw [hd]; exact prm_wpar h.1 (wpars_semi t))]
    show (rst ((wpars t).dropWhile blk)).map (p :: ·) = _
    rw [dropW_self (semi_blk (wpars_semi t)), rst_wpars h.2]; rfl
/-- What is written is read as it was. -/
theorem parse_text {m : Med} (h : ok m = true) : parse (text m) = some m := by
  unfold ok at h
  rw [Bool.and_eq_true] at h
  obtain ⟨ht, hps⟩ := h
  unfold typ at ht
  simp only [Bool.and_eq_true, beq_iff_eq] at ht
  obtain ⟨⟨h47, hna⟩, hnb⟩ := ht
  obtain ⟨a, ha⟩ : ∃ a, m.1.takeWhile sgn = a := ⟨_, rfl⟩
  obtain ⟨b, hb⟩ : ∃ b, (m.1.dropWhile sgn).tail = b := ⟨_, rfl⟩
  rw [ha] at hna
  rw [hb] at hnb
  obtain ⟨a1, a2, a3⟩ := nam_parts hna
  obtain ⟨b1, b2, b3⟩ := nam_parts hnb
  have hdw : m.1.dropWhile sgn = 47 :: b := by
    cases hx : m.1.dropWhile sgn with
    | nil => rw [hx] at h47; cases h47
    | cons c t => rw [hx] at h47 hb; cases h47; rw [← hb]; rfl
  have hm : m.1 = a ++ 47 :: b := by
    rw [← ha, ← hdw]; exact (List.takeWhile_append_dropWhile).symm
  obtain ⟨R, hR⟩ : ∃ R, wpars m.2 = R := ⟨_, rfl⟩
  have hse : semi R := by rw [← hR]; exact wpars_semi _
  have e : text m = a ++ (47 :: (b ++ R)) := by unfold text; rw [hm, hR]; simp
  obtain ⟨c, hc, hs⟩ := head_sgn (y := 47 :: (b ++ R)) a1 a2
  have hd : (text m).dropWhile blk = a ++ (47 :: (b ++ R)) := by
    rw [e]; exact dropW_self (fun d hd => by rw [hc] at hd; cases hd; exact (sgn_facts c hs).1)
  have h47' : ∀ d, (47 :: (b ++ R)).head? = some d → sgn d = false := by
    intro d hd; cases hd; decide
  unfold parse
  rw [hd, takeW_app a2 h47', dropW_app a2 h47', if_neg a1, List.head?_cons, if_pos rfl, List.tail_cons, takeW_app b2 (semi_sgn hse), dropW_app b2 (semi_sgn hse), if_neg b1, dropW_self (semi_blk hse), ← hR, rst_wpars hps]
  show some (lwr (a ++ 47 :: b), m.2) = some m
  have : lwr (a ++ 47 :: b) = m.1 := by
    rw [lwr_app, hm, a3]
    show a ++ lo 47 :: lwr b = _
    rw [b3]; rfl
  rw [this]
theorem qtd_mean : ∀ {l : List UInt8} {p : List UInt8 × List UInt8}, qtd l = some p → p.1.all mean = true
  | [], p, h => by unfold qtd at h; cases h
  | c :: t, p, h => by
    unfold qtd at h
    split at h
    · cases h; rfl
    · split at h
      · cases t with
        | nil => simp at h
        | cons d u =>
          simp only at h
          split at h
          · rename_i hd
            cases hq : qtd u with
            | none => rw [hq] at h; cases h
            | some q =>
              rw [hq] at h
              cases h
              have := qtd_mean hq
              show (d :: q.1).all mean = true
              rw [List.all_cons, esc_mean d hd, this]; rfl
          · cases h
      · split at h
        · rename_i hw
          cases hq : qtd t with
          | none => rw [hq] at h; cases h
          | some q =>
            rw [hq] at h
            cases h
            have := qtd_mean hq
            show (c :: q.1).all mean = true
            rw [List.all_cons, this]
            unfold mean
            rw [hw]; simp
        · cases h
theorem val_ok {l : List UInt8} {p : List UInt8 × List UInt8} (h : val l = some p) : tok p.1 = true ∨ p.1.all mean = true := by
  unfold val at h
  split at h
  · exact .inr (qtd_mean h)
  · split at h
    · cases h
    · rename_i h1
      cases h
      left
      unfold tok
      rw [takeW_all]
      cases hx : l.takeWhile sgn with
      | nil => exact absurd hx h1
      | cons a t => rfl
theorem prm_ok {l : List UInt8} {p : Par × List UInt8} (h : prm l = some p) : parOk p.1 = true := by
  unfold prm at h
  split at h
  · cases h
  · rename_i h1
    split at h
    · cases hv : val (l.dropWhile sgn).tail with
      | none => rw [hv] at h; cases h
      | some q =>
        rw [hv] at h
        cases h
        show parOk (lwr (l.takeWhile sgn), q.1) = true
        unfold parOk
        simp only
        rw [nam_lwr h1 (takeW_all _ _)]
        rcases val_ok hv with h | h <;> simp [h]
    · cases h
theorem rst_ok : ∀ (n : Nat) {l : List UInt8} {ps : List Par}, l.length ≤ n → rst l = some ps → ps.all parOk = true
  | _, [], ps, _, h => by rw [rst_nil] at h; cases h; rfl
  | 0, c :: t, ps, hn, h => by simp at hn
  | n + 1, c :: t, ps, hn, h => by
    by_cases hc : c = 59
    · subst hc
      have hd := dropW_len blk t
      simp only [List.length_cons] at hn
      by_cases he : (t.dropWhile blk).head? = none ∨ (t.dropWhile blk).head? = some 59
      · rw [rst_empty he] at h
        exact rst_ok n (by omega) h
      · cases hp : prm (t.dropWhile blk) with
        | none => rw [rst_bad he hp] at h; cases h
        | some q =>
          rw [rst_par he hp] at h
          have h1 := prm_len hp
          have h2 := dropW_len blk q.2
          cases hr : rst (q.2.dropWhile blk) with
          | none => rw [hr] at h; cases h
          | some rs =>
            rw [hr] at h
            cases h
            have := rst_ok n (by omega) hr
            show (q.1 :: rs).all parOk = true
            rw [List.all_cons, prm_ok hp, this]; rfl
    · rw [rst_other hc] at h; cases h
/-- What is read can be written. -/
theorem parse_ok {s : List UInt8} {m : Med} (h : parse s = some m) : ok m = true := by
  unfold parse at h
  split at h
  · cases h
  · rename_i ha
    split at h
    · split at h
      · cases h
      · rename_i hb
        obtain ⟨a, hxa⟩ : ∃ a, (s.dropWhile blk).takeWhile sgn = a := ⟨_, rfl⟩
        obtain ⟨b, hxb⟩ : ∃ b, (((s.dropWhile blk).dropWhile sgn).tail).takeWhile sgn = b := ⟨_, rfl⟩
        rw [hxa] at ha h
        rw [hxb] at hb h
        have a2 : a.all sgn = true := by rw [← hxa]; exact takeW_all _ _
        have b2 : b.all sgn = true := by rw [← hxb]; exact takeW_all _ _
        cases hr : rst ((((s.dropWhile blk).dropWhile sgn).tail.dropWhile sgn).dropWhile blk) with
        | none => rw [hr] at h; cases h
        | some ps =>
          rw [hr] at h
          cases h
          have e : lwr (a ++ 47 :: b) = lwr a ++ 47 :: lwr b := by rw [lwr_app]; rfl
          have h47 : ∀ d, (47 :: lwr b).head? = some d → sgn d = false := by
            intro d hd; cases hd; decide
          show ok (lwr (a ++ 47 :: b), ps) = true
          unfold ok typ
          simp only
          rw [e, takeW_app (all_lwr a2) h47, dropW_app (all_lwr a2) h47, nam_lwr ha a2, List.tail_cons, nam_lwr hb b2, rst_ok _ (Nat.le_refl _) hr]
          rfl
    · cases h
theorem text_ne {m : Med} (h : ok m = true) : text m ≠ [] := by
  unfold ok typ at h
  simp only [Bool.and_eq_true, beq_iff_eq] at h
  obtain ⟨⟨⟨h1, _⟩, _⟩, _⟩ := h
  unfold text
  intro e
  have := List.append_eq_nil_iff.1 e
  rw [this.1] at h1
  cases h1
/-- What is read, written and read again is the same. -/
theorem parse_back {s : List UInt8} {m : Med} (h : parse s = some m) : parse (text m) = some m := parse_text (parse_ok h)
/-! Blanks and empty parameters behind. -/
def zz (z : List UInt8) : Prop := ∀ c ∈ z, blk c = true ∨ c = 59
theorem zz_tail {c : UInt8} {z : List UInt8} (h : zz (c :: z)) : zz z := fun d hd => h d (List.mem_cons_of_mem _ hd)
theorem zz_app {a b : List UInt8} (ha : zz a) (hb : zz b) : zz (a ++ b) := fun c hc => (List.mem_append.1 hc).elim (ha c) (hb c)
theorem zz_drop {z : List UInt8} (h : zz z) (p : UInt8 → Bool) : zz (z.dropWhile p) := fun c hc => h c ((List.dropWhile_sublist p).mem hc)
theorem zz_head {z : List UInt8} (h : zz z) : ∀ c, z.head? = some c → sgn c = false := by
  intro c hc
  exact (z_facts c (h c (List.mem_of_head? hc))).1
theorem zz_tw {z : List UInt8} (h : zz z) : z.takeWhile sgn = [] := by
  have := takeW_app (p := sgn) (a := []) rfl (zz_head h)
  simpa using this
theorem zz_dw {z : List UInt8} (h : zz z) : z.dropWhile sgn = z := dropW_self (zz_head h)
theorem tw_z {l z : List UInt8} (h : zz z) : (l ++ z).takeWhile sgn = l.takeWhile sgn := by
  induction l with
  | nil => simp [zz_tw h]
  | cons a t ih =>
    rw [List.cons_append, List.takeWhile_cons, List.takeWhile_cons, ih]
theorem dw_z {l z : List UInt8} (h : zz z) : (l ++ z).dropWhile sgn = l.dropWhile sgn ++ z := by
  induction l with
  | nil => simp [zz_dw h]
  | cons a t ih =>
    rw [List.cons_append, List.dropWhile_cons, List.dropWhile_cons]
    split
    · exact ih
    · rfl
theorem rst_zz : ∀ (n : Nat) {z : List UInt8}, z.length ≤ n → zz z → rst (z.dropWhile blk) = some []
  | _, [], _, _ => rst_nil
  | 0, c :: t, hn, _ => by simp at hn
  | n + 1, c :: t, hn, h => by
    simp only [List.length_cons] at hn
    rw [List.dropWhile_cons]
    by_cases hb : blk c = true
    · rw [if_pos hb]; exact rst_zz n (by omega) (zz_tail h)
    · rw [if_neg hb]
      obtain rfl : c = 59 := (h c List.mem_cons_self).resolve_left hb
      have hz : (t.dropWhile blk).head? = none ∨ (t.dropWhile blk).head? = some 59 := by
        cases hx : t.dropWhile blk with
        | nil => exact .inl rfl
        | cons d u =>
          right
          have h1 := List.head?_dropWhile_not blk t
          rw [hx] at h1
          have h2 : blk d = false := by simpa using h1
          have h3 := zz_drop (zz_tail h) blk d (by rw [hx]; exact List.mem_cons_self)
          rw [h2] at h3
          rw [List.head?_cons, h3.resolve_left (by decide)]
      rw [rst_empty hz]
      exact rst_zz n (by omega) (zz_tail h)
theorem qtd_zz : ∀ {z : List UInt8}, zz z → qtd z = none
  | [], _ => by unfold qtd; rfl
  | c :: t, h => by
    obtain ⟨_, h34, _, _, h92, hw, _⟩ := z_facts c (h c List.mem_cons_self)
    unfold qtd
    rw [if_neg h34, if_neg h92, if_pos hw, qtd_zz (zz_tail h)]; rfl
theorem qtd_34 (t : List UInt8) : qtd (34 :: t) = some ([], t) := by rw [qtd.eq_def]; rfl
theorem qtd_bs0 : qtd [92] = none := by rw [qtd.eq_def]; rfl
theorem qtd_bs (d : UInt8) (u : List UInt8) : qtd (92 :: d :: u) = if esc d then (qtd u).map fun p => (d :: p.1, p.2) else none := by
  rw [qtd.eq_def]; simp only; rw [if_neg (by decide), if_pos trivial]
theorem qtd_c {c : UInt8} (h34 : c ≠ 34) (h92 : c ≠ 92) (t : List UInt8) : qtd (c :: t) = if wth c then (qtd t).map fun p => (c :: p.1, p.2) else none := by
  rw [qtd.eq_def]; simp only; rw [if_neg h34, if_neg h92]
theorem qtd_z : ∀ (n : Nat) {l z : List UInt8}, l.length ≤ n → zz z → qtd (l ++ z) = (qtd l).map fun p => (p.1, p.2 ++ z)
  | _, [], z, _, h => by rw [List.nil_append, qtd_zz h]; unfold qtd; rfl
  | 0, c :: t, z, hn, h => by simp at hn
  | n + 1, c :: t, z, hn, h => by
    simp only [List.length_cons] at hn
    by_cases h34 : c = 34
    · subst h34; rw [List.cons_append, qtd_34, qtd_34]; rfl
    by_cases h92 : c = 92
    · subst h92
      cases t with
      | nil =>
        rw [qtd_bs0]
        cases z with
        | nil => exact qtd_bs0
        | cons d u =>
          have hd := (z_facts d (h d List.mem_cons_self)).2.2.2.2.2.2
          rw [List.cons_append, List.nil_append, qtd_bs, if_pos hd, qtd_zz (zz_tail h)]; rfl
      | cons d u =>
        simp only [List.length_cons] at hn
        rw [List.cons_append, List.cons_append, qtd_bs, qtd_bs]
        by_cases hd : esc d = true
        · rw [if_pos hd, if_pos hd, qtd_z n (by omega) h, Option.map_map, Option.map_map]; rfl
        · rw [if_neg hd, if_neg hd]; rfl
    · rw [List.cons_append, qtd_c h34 h92, qtd_c h34 h92]
      by_cases hw : wth c = true
      · rw [if_pos hw, if_pos hw, qtd_z n (by omega) h, Option.map_map, Option.map_map]; rfl
      · rw [if_neg hw, if_neg hw]; rfl
theorem val_z {l z : List UInt8} (h : zz z) : val (l ++ z) = (val l).map fun p => (p.1, p.2 ++ z) := by
  cases l with
  | nil =>
    rw [List.nil_append]
    unfold val
    rw [if_neg (by intro e; exact (z_facts 34 (h 34 (List.mem_of_head? e))).2.1 rfl), zz_tw h, if_pos rfl]; rfl
  | cons a t =>
    unfold val
    rw [List.cons_append, List.head?_cons, List.head?_cons, List.tail_cons, List.tail_cons]
    by_cases ha : some a = some 34
    · rw [if_pos ha, if_pos ha, qtd_z _ (Nat.le_refl _) h]
    · rw [if_neg ha, if_neg ha, ← List.cons_append, tw_z h, dw_z h]
      by_cases ht : (a :: t).takeWhile sgn = []
      · rw [if_pos ht, if_pos ht]; rfl
      · rw [if_neg ht, if_neg ht]; rfl
theorem head_z {l z : List UInt8} (h : zz z) (c : UInt8) (hc : ¬ (blk c = true ∨ c = 59)) : (l ++ z).head? = some c ↔ l.head? = some c := by
  cases l with
  | nil =>
    constructor
    · intro e; exact absurd (h c (List.mem_of_head? e)) hc
    · intro e; cases e
  | cons a t => rfl
theorem tail_z {l z : List UInt8} (hl : l ≠ []) : (l ++ z).tail = l.tail ++ z := by
  cases l with
  | nil => exact absurd rfl hl
  | cons a t => rfl
theorem ne_of_head {l : List UInt8} {c : UInt8} (h : l.head? = some c) : l ≠ [] := by rintro rfl; cases h
theorem prm_z {l z : List UInt8} (h : zz z) : prm (l ++ z) = (prm l).map fun p => (p.1, p.2 ++ z) := by
  unfold prm
  rw [tw_z h, dw_z h]
  by_cases h1 : l.takeWhile sgn = []
  · rw [if_pos h1, if_pos h1]; rfl
  · rw [if_neg h1, if_neg h1]
    by_cases h2 : (l.dropWhile sgn).head? = some 61
    · rw [if_pos ((head_z h 61 (by decide)).2 h2), if_pos h2, tail_z (ne_of_head h2), val_z h, Option.map_map, Option.map_map]; rfl
    · rw [if_neg (fun e => h2 ((head_z h 61 (by decide)).1 e)), if_neg h2]; rfl
theorem dropW_nil_app {p : UInt8 → Bool} {l z : List UInt8} (h : l.dropWhile p = []) : (l ++ z).dropWhile p = z.dropWhile p := by
  induction l with
  | nil => rfl
  | cons a t ih =>
    rw [List.dropWhile_cons] at h
    split at h
    · rename_i ha; rw [List.cons_append, List.dropWhile_cons, if_pos ha]; exact ih h
    · cases h
theorem dropW_cons_app {p : UInt8 → Bool} {l z : List UInt8} {d : UInt8} {v : List UInt8} (h : l.dropWhile p = d :: v) : (l ++ z).dropWhile p = d :: v ++ z := by
  induction l with
  | nil => cases h
  | cons a t ih =>
    rw [List.dropWhile_cons] at h
    split at h
    · rename_i ha; rw [List.cons_append, List.dropWhile_cons, if_pos ha]; exact ih h
    · rename_i ha; cases h; rw [List.cons_append, List.dropWhile_cons, if_neg ha]
theorem dropW_idem (p : UInt8 → Bool) (l : List UInt8) : (l.dropWhile p).dropWhile p = l.dropWhile p := by
  refine dropW_self fun c hc => ?_
  have h1 := List.head?_dropWhile_not p l
  rw [hc] at h1
  simpa using h1
theorem rst_z : ∀ (n : Nat) {l z : List UInt8}, l.length ≤ n → zz z → rst ((l ++ z).dropWhile blk) = rst (l.dropWhile blk)
  | n, l, z, hn, h => by
    cases hx : l.dropWhile blk with
    | nil => rw [dropW_nil_app hx, rst_zz _ (Nat.le_refl _) h, rst_nil]
    | cons c t =>
      rw [dropW_cons_app hx]
      have hl := dropW_len blk l
      rw [hx, List.length_cons] at hl
      by_cases hc : c = 59
      · subst hc
        cases n with
        | zero => omega
        | succ n =>
        rw [List.cons_append]
        cases hy : t.dropWhile blk with
        | nil =>
          have h2 := dropW_nil_app (z := z) hy
          have hz : ((t ++ z).dropWhile blk).head? = none ∨ ((t ++ z).dropWhile blk).head? = some 59 := by
            rw [h2]
            cases hw : z.dropWhile blk with
            | nil => exact .inl rfl
            | cons d u =>
              right
              have h1 := List.head?_dropWhile_not blk z
              rw [hw] at h1
              have h2 : blk d = false := by simpa using h1
              have h3 := zz_drop h blk d (by rw [hw]; exact List.mem_cons_self)
              rw [h2] at h3
              rw [List.head?_cons, h3.resolve_left (by decide)]
          rw [rst_empty hz, h2, rst_zz _ (Nat.le_refl _) h, rst_empty (.inl (by rw [hy]; rfl)), hy, rst_nil]
        | cons d v =>
          have h2 := dropW_cons_app (z := z) hy
          have hv := dropW_len blk t
          rw [hy, List.length_cons] at hv
          have hself : (d :: v).dropWhile blk = d :: v := by rw [← hy, dropW_idem]
          by_cases hd : d = 59
          · subst hd
            rw [rst_empty (.inr (by rw [h2]; rfl)), h2, rst_empty (.inr (by rw [hy]; rfl)), hy]
            have := rst_z n (l := 59 :: v) (z := z) (by simp; omega) h
            rwa [hself, dropW_cons_app hself] at this
          · have e1 : ¬ (((t ++ z).dropWhile blk).head? = none ∨ ((t ++ z).dropWhile blk).head? = some 59) := by
              rw [h2, List.cons_append, List.head?_cons]; rintro (e | e)
              · cases e
              · cases e; exact hd rfl
            have e2 : ¬ ((t.dropWhile blk).head? = none ∨ (t.dropWhile blk).head? = some 59) := by
              rw [hy, List.head?_cons]; rintro (e | e)
              · cases e
              · cases e; exact hd rfl
            have hpz := prm_z (l := d :: v) h
            cases hp : prm (d :: v) with
            | none =>
              rw [hp] at hpz
              rw [rst_bad e1 (by rw [h2]; exact hpz), rst_bad e2 (by rw [hy]; exact hp)]
            | some q =>
              rw [hp] at hpz
              have hql := prm_len hp
              rw [List.length_cons] at hql
              rw [rst_par (q := (q.1, q.2 ++ z)) e1 (by rw [h2]; exact hpz), rst_par e2 (by rw [hy]; exact hp)]
              show (rst ((q.2 ++ z).dropWhile blk)).map (q.1 :: ·) = _
              rw [rst_z n (by omega) h]
      · rw [List.cons_append, rst_other hc, rst_other hc]
theorem parse_ahead {b s : List UInt8} (hb : b.all blk = true) : parse (b ++ s) = parse s := by
  have e : (b ++ s).dropWhile blk = s.dropWhile blk := List.dropWhile_append_of_pos (by simpa using hb)
  unfold parse
  rw [e]
theorem parse_behind {s z : List UInt8} (h : zz z) : parse (s ++ z) = parse s := by
  unfold parse
  cases hx : s.dropWhile blk with
  | nil =>
    rw [dropW_nil_app hx, zz_tw (zz_drop h blk), if_pos rfl]
    simp
  | cons c t =>
    rw [dropW_cons_app hx]
    obtain ⟨U, hU⟩ : ∃ U, c :: t = U := ⟨_, rfl⟩
    rw [hU, tw_z h, dw_z h]
    by_cases h1 : U.takeWhile sgn = []
    · rw [if_pos h1, if_pos h1]
    · rw [if_neg h1, if_neg h1]
      by_cases h2 : (U.dropWhile sgn).head? = some 47
      · rw [if_pos ((head_z h 47 (by decide)).2 h2), if_pos h2, tail_z (ne_of_head h2), tw_z h, dw_z h]
        by_cases h3 : ((U.dropWhile sgn).tail).takeWhile sgn = []
        · rw [if_pos h3, if_pos h3]
        · rw [if_neg h3, if_neg h3, rst_z _ (Nat.le_refl _) h]
      · rw [if_neg (fun e => h2 ((head_z h 47 (by decide)).1 e)), if_neg h2]
/-- The law MediaBlank's two. -/
theorem parse_blank {b s : List UInt8} (hb : b.all blk = true) : parse (b ++ s ++ b) = parse s := by
  rw [parse_behind (fun c hc => .inl (List.all_eq_true.1 hb c hc)), parse_ahead hb]
theorem parse_empty {b s : List UInt8} (hb : b.all blk = true) : parse (s ++ b ++ [59] ++ b ++ [59] ++ b) = parse s := by
  have h1 : zz b := fun c hc => .inl (List.all_eq_true.1 hb c hc)
  have h2 : zz [59] := fun c hc => .inr (by simpa using hc)
  rw [show s ++ b ++ [59] ++ b ++ [59] ++ b = s ++ (b ++ [59] ++ b ++ [59] ++ b) by simp]
  exact parse_behind (zz_app (zz_app (zz_app (zz_app h1 h2) h1) h2) h1)
end Go.Proofs.Ytgadpoahjlnheaa.Med
