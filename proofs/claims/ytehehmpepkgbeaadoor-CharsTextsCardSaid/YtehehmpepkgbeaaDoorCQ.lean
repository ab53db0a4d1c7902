/- The mathematics of layer 9: classes of scalars, lines, names, what stands ahead of the first fault; nothing of the program. -/
import Derived.Test.YtehehmpepkgbeaaDoorBM
namespace Go.Proofs.YtehehmpepkgbeaaDoor.Chr
set_option linter.unusedVariables false
set_option linter.unusedSimpArgs false
def chr (r : Int) : Bool := decide (r = 9 ∨ r = 10 ∨ r = 13 ∨ (32 ≤ r ∧ r ≤ 55295) ∨ (57344 ≤ r ∧ r ≤ 65533) ∨ (65536 ≤ r ∧ r ≤ 1114111))
def spc (r : Int) : Bool := decide (r = 9 ∨ r = 10 ∨ r = 13 ∨ r = 32)
def fstC (r : Int) : Bool := decide ((65 ≤ r ∧ r ≤ 90) ∨ (97 ≤ r ∧ r ≤ 122) ∨ r = 95 ∨ (192 ≤ r ∧ r ≤ 214) ∨ (216 ≤ r ∧ r ≤ 246) ∨ (248 ≤ r ∧ r ≤ 767) ∨ (880 ≤ r ∧ r ≤ 893) ∨ (895 ≤ r ∧ r ≤ 8191) ∨ r = 8204 ∨ r = 8205 ∨ (8304 ≤ r ∧ r ≤ 8591) ∨ (11264 ≤ r ∧ r ≤ 12271) ∨ (12289 ≤ r ∧ r ≤ 55295) ∨ (63744 ≤ r ∧ r ≤ 64975) ∨ (65008 ≤ r ∧ r ≤ 65533) ∨ (65536 ≤ r ∧ r ≤ 983039))
def furC (r : Int) : Bool := fstC r || decide (r = 45 ∨ r = 46 ∨ (48 ≤ r ∧ r ≤ 57) ∨ r = 183 ∨ (768 ≤ r ∧ r ≤ 879) ∨ r = 8255 ∨ r = 8256)
theorem chr_iff {r : Int} : chr r = true ↔ (r = 9 ∨ r = 10 ∨ r = 13 ∨ (32 ≤ r ∧ r ≤ 55295) ∨ (57344 ≤ r ∧ r ≤ 65533) ∨ (65536 ≤ r ∧ r ≤ 1114111)) := by simp [chr]
theorem chr_isB {r : Int} (h : chr r = true) : isB r = true := by rw [chr_iff] at h; rw [isB_iff]; omega
theorem fst_fur {r : Int} (h : fstC r = true) : furC r = true := by unfold furC; rw [h]; rfl
theorem fur_chr {r : Int} (h : furC r = true) : chr r = true := by
  rw [chr_iff]; simp [furC, fstC] at h; omega
theorem spc_chr {r : Int} (h : spc r = true) : chr r = true ∧ furC r = false := by
  simp [spc] at h
  rcases h with rfl | rfl | rfl | rfl <;> exact ⟨by decide, by decide⟩
theorem fur_colon : furC 58 = false := by decide
/-! Lines. -/
def lns : List UInt8 → List UInt8
  | [] => []
  | c :: t => if c = 13 ∧ t.head? = some 10 then lns t else (if c = 13 then 10 else c) :: lns t
theorem lns_no (l : List UInt8) : ∀ c ∈ lns l, c ≠ 13 := by
  induction l with
  | nil => intro c h; simp [lns] at h
  | cons c t ih =>
    intro d h
    unfold lns at h
    split at h
    · exact ih d h
    · rcases List.mem_cons.1 h with rfl | h
      · split
        · decide
        · assumption
      · exact ih d h
theorem lns_id : ∀ {l : List UInt8}, (∀ c ∈ l, c ≠ 13) → lns l = l
  | [], _ => rfl
  | c :: t, h => by
    have hc := h c List.mem_cons_self
    unfold lns
    rw [if_neg (fun e => hc e.1), if_neg hc, lns_id fun d hd => h d (List.mem_cons_of_mem _ hd)]
theorem lns_twice (l : List UInt8) : lns (lns l) = lns l := lns_id (lns_no l)
theorem lns_len : ∀ l : List UInt8, (lns l).length ≤ l.length
  | [] => Nat.le_refl _
  | c :: t => by
    have := lns_len t
    unfold lns
    split
    · rw [List.length_cons]; omega
    · rw [List.length_cons, List.length_cons]; omega
theorem lns_app : ∀ {a b : List UInt8}, ¬ (a.getLast? = some 13 ∧ b.head? = some 10) → lns (a ++ b) = lns a ++ lns b
  | [], b, _ => rfl
  | [c], b, h => by
    show lns (c :: b) = lns [c] ++ lns b
    have h1 : ¬ (c = 13 ∧ b.head? = some 10) := fun e => h ⟨by simp [e.1], e.2⟩
    conv => lhs; unfold lns
    rw [if_neg h1]
    have h2 : lns [c] = [if c = 13 then 10 else c] := by simp [lns]
    rw [h2]; rfl
  | c :: d :: t, b, h => by
    have ih := lns_app (a := d :: t) (b := b) (fun e => h ⟨by simpa using e.1, e.2⟩)
    have e1 : lns (c :: d :: t ++ b) = if c = 13 ∧ (d :: t ++ b).head? = some 10 then lns (d :: t ++ b) else (if c = 13 then 10 else c) :: lns (d :: t ++ b) := rfl
    have e2 : lns (c :: d :: t) = if c = 13 ∧ (d :: t).head? = some 10 then lns (d :: t) else (if c = 13 then 10 else c) :: lns (d :: t) := rfl
    rw [e1, e2, ih]
    have e3 : (d :: t ++ b).head? = (d :: t).head? := rfl
    rw [e3]
    split
    · rfl
    · rfl
/-! What stands at the front. -/
def badP : List (Int × Nat) → Nat → Int
  | [], _ => -1
  | p :: t, a => if chr p.1 = true then badP t (a + p.2) else (a : Int)
def bad (l : List UInt8) : Int := badP (prt l) 0
def okT (a : Nat) (r : Int) : Bool := if a = 0 then fstC r else (furC r || r == 58)
def tkP : List (Int × Nat) → Nat → Nat
  | [], a => a
  | p :: t, a => if okT a p.1 = true then tkP t (a + p.2) else a
def tk (l : List UInt8) : Nat := tkP (prt l) 0
def blk (l : List UInt8) : Bool := l.all fun c => spc (c.toNat : Int)
theorem chr_no : chr (-1) = false := by decide
/-- As far as a class of right scalars goes. -/
theorem run_of (P : Int → Bool) (hP : ∀ r, P r = true → r ≠ -1) (n : Nat) : ∀ l : List UInt8, l.length ≤ n → ∃ xs t, allB xs = true ∧ xs.all P = true ∧ l = encs xs ++ t ∧ (t = [] ∨ (t ≠ [] ∧ P (dec t).1 = false)) := by
  induction n with
  | zero =>
    intro l h
    exact ⟨[], l, rfl, rfl, rfl, .inl (List.eq_nil_of_length_eq_zero (Nat.le_zero.1 h))⟩
  | succ n ih =>
    intro l h
    by_cases hne : l = []
    · exact ⟨[], l, rfl, rfl, rfl, .inl hne⟩
    cases hp : P (dec l).1 with
    | false => exact ⟨[], l, rfl, rfl, rfl, .inr ⟨hne, hp⟩⟩
    | true =>
      have hlt := drop_lt hne
      obtain ⟨xs, t, h1, h2, h3, h4⟩ := ih (l.drop (dec l).2) (by omega)
      obtain ⟨g1, g2, g3⟩ := dec_ok (l := l) (r := (dec l).1) (n := (dec l).2) rfl (hP _ hp)
      refine ⟨(dec l).1 :: xs, t, (allB_cons _ _).2 ⟨g1, h1⟩, by simp [hp, h2], ?_, h4⟩
      rw [encs_cons, List.append_assoc, ← h3]
      exact g3
theorem badP_run : ∀ {xs : List Int}, xs.all chr = true → ∀ (ps : List (Int × Nat)) (a : Nat), badP (withLen xs ++ ps) a = badP ps (a + (encs xs).length)
  | [], _, ps, a => rfl
  | x :: xs, h, ps, a => by
    simp only [List.all_cons, Bool.and_eq_true] at h
    show (if chr x = true then badP (withLen xs ++ ps) (a + (enc x).length) else (a : Int)) = _
    rw [if_pos h.1, badP_run h.2, encs_cons, List.length_append, Nat.add_assoc]
theorem badP_stop {t : List UInt8} (h : t ≠ []) (hc : chr (dec t).1 = false) (a : Nat) : badP (prt t) a = a := by
  rw [prt_cons h]
  show (if chr (dec t).1 = true then badP _ _ else (a : Int)) = _
  rw [if_neg (by rw [hc]; decide)]
/-- Bad, by what stands ahead of it. -/
theorem bad_of (l : List UInt8) : ∃ xs t, allB xs = true ∧ xs.all chr = true ∧ l = encs xs ++ t ∧ ((t = [] ∧ bad l = -1) ∨ (t ≠ [] ∧ chr (dec t).1 = false ∧ bad l = ((encs xs).length : Int))) := by
  obtain ⟨xs, t, h1, h2, h3, h4⟩ := run_of chr (fun r h e => by rw [e, chr_no] at h; cases h) l.length l (Nat.le_refl _)
  refine ⟨xs, t, h1, h2, h3, ?_⟩
  have hb : bad l = badP (prt t) (0 + (encs xs).length) := by
    unfold bad
    rw [h3, prt_encs xs h1, badP_run h2]
  rcases h4 with rfl | ⟨h5, h6⟩
  · left
    exact ⟨rfl, by rw [hb]; rfl⟩
  · right
    refine ⟨h5, h6, ?_⟩
    rw [hb, badP_stop h5 h6, Nat.zero_add]
theorem bad_all {xs : List Int} (h1 : allB xs = true) (h2 : xs.all chr = true) : bad (encs xs) = -1 := by
  unfold bad
  rw [prt_encs' h1]
  have := badP_run h2 [] 0
  rw [List.append_nil] at this
  rw [this]; rfl
theorem bad_bd (l : List UInt8) : -1 ≤ bad l ∧ bad l < (l.length : Int) ∨ bad l = -1 := by
  obtain ⟨xs, t, h1, h2, h3, ⟨rfl, h4⟩ | ⟨h4, h5, h6⟩⟩ := bad_of l
  · exact .inr h4
  · left
    have := List.length_pos_iff.2 h4
    rw [h6, h3, List.length_append]
    omega
theorem bad_lt (l : List UInt8) (h : 0 ≤ bad l) : bad l < (l.length : Int) := by
  rcases bad_bd l with h1 | h1 <;> omega
theorem bad_right {l : List UInt8} (h : bad l < 0) : okB l = true := by
  obtain ⟨xs, t, h1, h2, h3, ⟨rfl, h4⟩ | ⟨h4, h5, h6⟩⟩ := bad_of l
  · rw [h3, List.append_nil]; exact ok_encs h1
  · omega
/-- Ahead of the first fault there is none; it stands at the front of the rest. -/
theorem bad_cut {l : List UInt8} {n : Nat} (h : bad l = (n : Int)) : bad (l.take n) = -1 ∧ bad (l.drop n) = 0 := by
  obtain ⟨xs, t, h1, h2, h3, ⟨rfl, h4⟩ | ⟨h4, h5, h6⟩⟩ := bad_of l
  · omega
  · have hn : n = (encs xs).length := by omega
    subst hn
    rw [h3, List.take_left, List.drop_left]
    refine ⟨bad_all h1 h2, ?_⟩
    unfold bad
    rw [badP_stop h4 h5]; rfl
/-! What is taken at the front. -/
def furT (r : Int) : Bool := furC r || r == 58
theorem furT_chr {r : Int} (h : furT r = true) : chr r = true := by
  simp only [furT, Bool.or_eq_true, beq_iff_eq] at h
  rcases h with h | rfl
  · exact fur_chr h
  · decide
theorem tkP_run : ∀ {xs : List Int}, allB xs = true → xs.all furT = true → ∀ (ps : List (Int × Nat)) (a : Nat), 0 < a → tkP (withLen xs ++ ps) a = tkP ps (a + (encs xs).length)
  | [], _, _, ps, a, _ => rfl
  | x :: xs, hb, h, ps, a, ha => by
    simp only [List.all_cons, Bool.and_eq_true] at h
    have hb2 := (allB_cons _ _).1 hb
    have e : okT a x = true := by unfold okT; rw [if_neg (by omega)]; exact h.1
    show (if okT a x = true then tkP (withLen xs ++ ps) (a + (enc x).length) else a) = _
    rw [if_pos e, tkP_run hb2.2 h.2 _ _ (by omega), encs_cons, List.length_append, Nat.add_assoc]
theorem tkP_stop {t : List UInt8} (h : t ≠ []) {a : Nat} (hc : okT a (dec t).1 = false) : tkP (prt t) a = a := by
  rw [prt_cons h]
  show (if okT a (dec t).1 = true then tkP _ _ else a) = _
  rw [if_neg (by rw [hc]; decide)]
def nameS : List Int → Bool
  | [] => true
  | x :: t => fstC x && t.all furT
theorem tk_all {xs : List Int} (h1 : allB xs = true) (h2 : nameS xs = true) (t : List UInt8) (ht : t = [] ∨ (t ≠ [] ∧ (xs = [] ∧ fstC (dec t).1 = false ∨ xs ≠ [] ∧ furT (dec t).1 = false))) : tk (encs xs ++ t) = (encs xs).length := by
  unfold tk
  rw [prt_encs xs h1]
  have fin : ∀ a, (xs = [] → a = 0) → (xs ≠ [] → 0 < a) → tkP (prt t) a = a := by
    intro a h0 h01
    rcases ht with rfl | ⟨h3, h4⟩
    · rfl
    · refine tkP_stop h3 ?_
      unfold okT
      rcases h4 with ⟨h5, h6⟩ | ⟨h5, h6⟩
      · rw [if_pos (h0 h5)]; exact h6
      · rw [if_neg (by have := h01 h5; omega)]; exact h6
  match xs, h1, h2, fin with
  | [], _, _, fin => exact fin 0 (fun _ => rfl) (fun h => absurd rfl h)
  | x :: xs, h1, h2, fin =>
    have hb := (allB_cons _ _).1 h1
    simp only [nameS, Bool.and_eq_true] at h2
    have hp := enc_pos hb.1
    show (if okT 0 x = true then tkP (withLen xs ++ prt t) (0 + (enc x).length) else 0) = _
    rw [if_pos (show okT 0 x = true from h2.1), tkP_run hb.2 h2.2 _ _ (by omega), fin _ (fun h => absurd h (by simp)) (fun _ => by omega), encs_cons, List.length_append]
    omega
/-- Take, by what it takes. -/
theorem tk_of (l : List UInt8) : ∃ xs t, allB xs = true ∧ nameS xs = true ∧ l = encs xs ++ t ∧ tk l = (encs xs).length := by
  by_cases hne : l = []
  · subst hne; exact ⟨[], [], rfl, rfl, rfl, rfl⟩
  cases hf : fstC (dec l).1 with
  | false => exact ⟨[], l, rfl, rfl, rfl, tk_all (xs := []) rfl rfl l (.inr ⟨hne, .inl ⟨rfl, hf⟩⟩)⟩
  | true =>
    have hB : isB (dec l).1 = true := chr_isB (fur_chr (fst_fur hf))
    obtain ⟨g1, g2, g3⟩ := dec_ok (l := l) (r := (dec l).1) (n := (dec l).2) rfl (isB_ne hB)
    obtain ⟨xs, t, h1, h2, h3, h4⟩ := run_of furT (fun r h e => by rw [e] at h; revert h; decide) _ (l.drop (dec l).2) (Nat.le_refl _)
    have hl : l = encs ((dec l).1 :: xs) ++ t := by
      rw [encs_cons, List.append_assoc, ← h3]; exact g3
    have hA : allB ((dec l).1 :: xs) = true := (allB_cons _ _).2 ⟨hB, h1⟩
    have hN : nameS ((dec l).1 :: xs) = true := by simp only [nameS, Bool.and_eq_true]; exact ⟨hf, h2⟩
    refine ⟨(dec l).1 :: xs, t, hA, hN, hl, ?_⟩
    conv => lhs; rw [hl]
    refine tk_all hA hN t ?_
    rcases h4 with h4 | ⟨h4, h5⟩
    · exact .inl h4
    · exact .inr ⟨h4, .inr ⟨by simp, h5⟩⟩
theorem name_chr {xs : List Int} (h : nameS xs = true) : xs.all chr = true := by
  cases xs with
  | nil => rfl
  | cons x t =>
    simp only [nameS, Bool.and_eq_true] at h
    rw [List.all_cons, Bool.and_eq_true]
    refine ⟨fur_chr (fst_fur h.1), ?_⟩
    rw [List.all_eq_true] at h ⊢
    exact fun y hy => furT_chr (h.2 y hy)
theorem tk_le (l : List UInt8) : tk l ≤ l.length := by
  obtain ⟨xs, t, _, _, h3, h4⟩ := tk_of l
  rw [h4]
  conv => rhs; rw [h3]
  rw [List.length_append]
  omega
/-- What is taken is taken again, whole. -/
theorem tk_twice (l : List UInt8) : tk (l.take (tk l)) = tk l := by
  obtain ⟨xs, t, h1, h2, h3, h4⟩ := tk_of l
  have h5 : l.take (tk l) = encs xs := by
    rw [h4]
    conv => lhs; rw [h3]
    rw [List.take_left]
  rw [h5, h4]
  have := tk_all h1 h2 [] (.inl rfl)
  rwa [List.append_nil] at this
/-- It ends ahead of the first fault. -/
theorem tk_bad (l : List UInt8) : bad l < 0 ∨ (tk l : Int) ≤ bad l := by
  obtain ⟨xs, t, h1, h2, h3, h4⟩ := tk_of l
  have hb : bad l = badP (prt t) (0 + (encs xs).length) := by
    unfold bad
    rw [h3, prt_encs xs h1, badP_run (name_chr h2)]
  have hmono : ∀ (ps : List (Int × Nat)) (a : Nat), badP ps a < 0 ∨ (a : Int) ≤ badP ps a := by
    intro ps
    induction ps with
    | nil => intro a; left; show (-1 : Int) < 0; omega
    | cons p t ih =>
      intro a
      show (if chr p.1 = true then badP t (a + p.2) else (a : Int)) < 0 ∨ (a : Int) ≤ (if chr p.1 = true then badP t (a + p.2) else (a : Int))
      split
      · rcases ih (a + p.2) with h | h
        · exact .inl h
        · right; omega
      · right; omega
  rw [hb, h4]
  rcases hmono (prt t) (0 + (encs xs).length) with h | h
  · exact .inl h
  · right; omega
end Go.Proofs.YtehehmpepkgbeaaDoor.Chr
