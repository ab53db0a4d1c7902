/- The mathematics of layer 9 over the library's words: what strings.ReplaceAll and strings.Cut make; as far as a kind goes; nothing of the program. -/
import Derived.Test.YtehehmpepkgbeaaDoorCQN
import Derived.Lib.ReplaceLaws
import Derived.Lib.IndexLaws
namespace Go.Proofs.YtehehmpepkgbeaaDoor.Chr
set_option linter.unusedVariables false
set_option linter.unusedSimpArgs false
open Go
def repl (old new l : List UInt8) : List UInt8 := Lib.replaceK old new (Lib.count l old) l
theorem repl_nil {old new : List UInt8} (h : old ≠ []) : repl old new [] = [] := by
  have hi : Lib.index [] old = -1 := by
    cases old with
    | nil => exact absurd rfl h
    | cons a t => rfl
  unfold repl
  rw [Lib.count_miss hi]; rfl
theorem repl_hit {old new l : List UInt8} (h : old ≠ []) (hp : old.isPrefixOf l = true) : repl old new l = new ++ repl old new (l.drop old.length) := by
  have hi : Lib.index l old = ((0 : Nat) : Int) := Lib.index_first (i := 0) (Nat.zero_le _) (by unfold Lib.occAt; rw [List.drop_zero]; exact hp) (fun j hj => absurd hj (Nat.not_lt_zero _))
  unfold repl
  rw [Lib.count_hit h hi, Nat.add_comm 1, Lib.replaceK_hit old new _ l 0 hi, List.take_zero, Nat.zero_add]
  rfl
theorem repl_miss {old new l : List UInt8} {b : UInt8} (h : old ≠ []) (hp : old.isPrefixOf (b :: l) = false) : repl old new (b :: l) = b :: repl old new l := by
  have e : Lib.index (b :: l) old = if Lib.index l old == -1 then -1 else Lib.index l old + 1 := by
    show (if old.isPrefixOf (b :: l) then (0 : Int) else if Lib.index l old == -1 then -1 else Lib.index l old + 1) = _
    rw [if_neg (by rw [hp]; decide)]
  have hge := Lib.index_ge l old
  by_cases hm : Lib.index l old = -1
  · have e2 : Lib.index (b :: l) old = -1 := by rw [e, if_pos (by rw [hm]; rfl)]
    unfold repl
    rw [Lib.count_miss e2, Lib.count_miss hm]; rfl
  · obtain ⟨i, hi⟩ : ∃ i : Nat, Lib.index l old = i := ⟨(Lib.index l old).toNat, by omega⟩
    have e2 : Lib.index (b :: l) old = ((i + 1 : Nat) : Int) := by
      rw [e, if_neg (by rw [hi]; simp), hi]; omega
    unfold repl
    rw [Lib.count_hit h e2, Nat.add_comm 1, Lib.replaceK_hit old new _ _ _ e2, Lib.count_hit h hi, Nat.add_comm 1 (Lib.count _ _), Lib.replaceK_hit old new _ _ _ hi]
    have hd : (b :: l).drop (i + 1 + old.length) = l.drop (i + old.length) := by
      rw [show i + 1 + old.length = (i + old.length) + 1 by omega, List.drop_succ_cons]
    rw [hd, List.take_succ_cons]
    simp
theorem replaceAll_repl {old new : List UInt8} (hne : old ≠ new) (l : List UInt8) : Lib.replaceAll l old new = repl old new l := by
  unfold Lib.replaceAll Lib.replace
  rw [if_neg (by simpa using hne)]
  unfold Lib.replaceNum
  rw [if_pos (.inl (by decide))]; rfl
theorem countFrom_le (sub : List UInt8) : ∀ (f : Nat) (s : List UInt8), Lib.countFrom sub f s ≤ f
  | 0, _ => Nat.le_refl _
  | f + 1, s => by
    unfold Lib.countFrom
    split
    · omega
    · have := countFrom_le sub f (s.drop ((Lib.index s sub).toNat + sub.length)); omega
theorem count_le (l sub : List UInt8) : Lib.count l sub ≤ l.length + 1 := countFrom_le _ _ _
/-! Lines. -/
theorem prefix1 (c d : UInt8) (t : List UInt8) : [d].isPrefixOf (c :: t) = (d == c) := by simp [List.isPrefixOf]
theorem prefix2 (c d e : UInt8) (t : List UInt8) : [d, e].isPrefixOf (c :: t) = (d == c && t.head? == some e) := by
  cases t with
  | nil => simp [List.isPrefixOf]
  | cons x t =>
    simp only [List.isPrefixOf, List.head?_cons, Bool.and_true]
    cases h : (e == x) with
    | true => rw [beq_iff_eq.1 h]; simp
    | false =>
      have : e ≠ x := by simpa using h
      have h2 : (some x == some e) = false := by
        simp only [beq_eq_false_iff_ne, ne_eq, Option.some.injEq]; exact fun h => this h.symm
      rw [h2]
def one : UInt8 → UInt8 := fun c => if c = 13 then 10 else c
theorem repl1 : ∀ l : List UInt8, repl [13] [10] l = l.map one
  | [] => repl_nil (by decide)
  | c :: t => by
    by_cases h : c = 13
    · subst h
      rw [repl_hit (by decide) (by rw [prefix1]; rfl)]
      show [10] ++ repl [13] [10] t = _
      rw [repl1 t]; rfl
    · rw [repl_miss (by decide) (by rw [prefix1]; simpa using fun e => h e.symm), repl1 t, List.map_cons]
      unfold one
      rw [if_neg h]
theorem repl2 (n : Nat) : ∀ l : List UInt8, l.length ≤ n → (repl [13, 10] [10] l).map one = lns l := by
  induction n with
  | zero =>
    intro l h
    rw [List.eq_nil_of_length_eq_zero (Nat.le_zero.1 h), repl_nil (by decide)]; rfl
  | succ n ih =>
    intro l h
    match l, h with
    | [], _ => rw [repl_nil (by decide)]; rfl
    | c :: t, h =>
      rw [List.length_cons] at h
      by_cases hc : c = 13 ∧ t.head? = some 10
      · obtain ⟨rfl, h2⟩ := hc
        match t, h2, h with
        | d :: u, h2, h =>
          rw [List.length_cons] at h
          obtain rfl : d = 10 := by simpa using h2
          rw [repl_hit (by decide) (by rw [prefix2]; rfl)]
          show ([10] ++ repl [13, 10] [10] u).map one = _
          rw [List.map_append, ih u (by omega)]
          rfl
      · have hp : [13, 10].isPrefixOf (c :: t) = false := by
          rw [prefix2]
          cases h1 : (13 == c) with
          | false => rfl
          | true =>
            cases h2 : (t.head? == some 10) with
            | false => rfl
            | true => exact absurd ⟨(beq_iff_eq.1 h1).symm, beq_iff_eq.1 h2⟩ hc
        rw [repl_miss (by decide) hp, List.map_cons, ih t (by omega)]
        conv => rhs; unfold lns
        rw [if_neg hc]; rfl
/-- The program's two replacements are the lines made plain. -/
theorem lines_of (l : List UInt8) : Lib.replaceAll (Lib.replaceAll l [13, 10] [10]) [13] [10] = lns l := by
  rw [replaceAll_repl (by decide), replaceAll_repl (by decide), repl1, repl2 _ l (Nat.le_refl _)]
theorem repl_len (n : Nat) : ∀ l : List UInt8, l.length ≤ n → (repl [13, 10] [10] l).length ≤ l.length := by
  intro l hl
  have h := congrArg List.length (repl2 n l hl)
  rw [List.length_map] at h
  rw [h]
  exact lns_len l
theorem first_len (l : List UInt8) : (Lib.replaceAll l [13, 10] [10]).length ≤ l.length := by
  rw [replaceAll_repl (by decide)]; exact repl_len _ l (Nat.le_refl _)
/-! Split. -/
def cutF (s : List UInt8) : List UInt8 × List UInt8 × Bool := Lib.cut s [58]
theorem cut_cases (s : List UInt8) : (cutF s = (s, [], false) ∧ (58 : UInt8) ∉ s) ∨ (∃ a b, s = a ++ 58 :: b ∧ cutF s = (a, b, true)) := by
  have hge := Lib.index_ge s [58]
  unfold cutF Lib.cut
  by_cases h : Lib.index s [58] = -1
  · left
    rw [if_neg (by omega)]
    refine ⟨rfl, fun hm => ?_⟩
    rw [Lib.index_one] at h
    obtain ⟨i, hi, e⟩ := List.mem_iff_getElem.1 hm
    exact Lib.indexByte_none h i (by rw [List.getElem?_eq_getElem hi, e])
  · right
    obtain ⟨i, hi⟩ : ∃ i : Nat, Lib.index s [58] = i := ⟨(Lib.index s [58]).toNat, by omega⟩
    rw [if_pos (by omega), hi]
    rw [Lib.index_one] at hi
    obtain ⟨h1, _⟩ := Lib.indexByte_some hi
    have hlt : i < s.length := by
      rcases Nat.lt_or_ge i s.length with h | h
      · exact h
      · rw [List.getElem?_eq_none h] at h1; cases h1
    rw [List.getElem?_eq_getElem hlt] at h1
    refine ⟨s.take i, s.drop (i + 1), ?_, by simp⟩
    have h2 : s.drop i = s[i] :: s.drop (i + 1) := List.drop_eq_getElem_cons hlt
    conv => lhs; rw [← List.take_append_drop i s, h2, Option.some.inj h1]
def pspl (s : List UInt8) : List UInt8 × List UInt8 × Bool :=
  if (plain (cutF s).1 && (!(cutF s).2.2 || plain (cutF s).2.1)) = true then (if (cutF s).2.2 = true then (cutF s).1 else [], if (cutF s).2.2 = true then (cutF s).2.1 else (cutF s).1, true) else ([], [], false)
theorem spl_false {s : List UInt8} (h : (spl s).2.2 = false) : spl s = ([], [], false) := by
  unfold spl at h ⊢
  split at h
  · cases h
  · rename_i hn
    rw [if_neg hn]
    split at h
    · cases h
    · rfl
theorem pspl_spl (s : List UInt8) : pspl s = spl s := by
  rcases cut_cases s with ⟨h1, h2⟩ | ⟨a, b, rfl, h1⟩
  · unfold pspl
    rw [h1]
    cases hp : plain s with
    | true => rw [spl_plain hp]; simp
    | false =>
      have hf : (List.range s.length).find? (cutOk s) = none := by
        rw [List.find?_eq_none]
        intro i _ hc
        unfold cutOk at hc
        simp only [Bool.and_eq_true, beq_iff_eq] at hc
        exact h2 (List.mem_of_getElem? hc.1)
      have e : spl s = ([], [], false) := by
        unfold spl
        rw [if_neg (by rw [hp]; decide), hf]
      rw [e]
      simp [hp]
  · unfold pspl
    rw [h1]
    have ho := spl_only (a := a) (b := b)
    cases hp : (plain a && plain b) with
    | true =>
      have hp2 := hp
      rw [Bool.and_eq_true] at hp2
      rw [spl_made hp2.1 hp2.2]
      simp [hp2.1, hp2.2]
    | false =>
      rw [hp] at ho
      rw [spl_false ho]
      rw [if_neg (by simp only [Bool.not_true, Bool.false_or]; rw [hp]; decide)]
/-! As far as a kind goes, a wrong byte being a part by itself. -/
def dec1 (l : List UInt8) : Int × Nat := if (dec l).1 = -1 then (-1, 1) else dec l
theorem dec1_fst (l : List UInt8) : (dec1 l).1 = (dec l).1 := by
  unfold dec1
  split
  · rename_i h; exact h.symm
  · rfl
theorem dec1_pos (l : List UInt8) : 1 ≤ (dec1 l).2 := by
  unfold dec1
  split
  · exact Nat.le_refl _
  · exact dec_pos l
theorem dec1_le {l : List UInt8} (h : l ≠ []) : (dec1 l).2 ≤ l.length := by
  unfold dec1
  split
  · exact List.length_pos_iff.2 h
  · exact dec_le h
theorem dec1_le4 (l : List UInt8) : (dec1 l).2 ≤ 4 := by
  unfold dec1
  split
  · decide
  · exact dec_le4 l
/-- The places and the scalars of a text, from a place on. -/
def itF : Nat → List UInt8 → Nat → List (Nat × Int)
  | 0, _, _ => []
  | _ + 1, [], _ => []
  | f + 1, c :: t, a => (a, (dec1 (c :: t)).1) :: itF f ((c :: t).drop (dec1 (c :: t)).2) (a + (dec1 (c :: t)).2)
theorem itF_cons {f : Nat} {l : List UInt8} (h : l ≠ []) (a : Nat) : itF (f + 1) l a = (a, (dec1 l).1) :: itF f (l.drop (dec1 l).2) (a + (dec1 l).2) := by
  cases l with
  | nil => exact absurd rfl h
  | cons c t => rfl
theorem itF_nil (f a : Nat) : itF f [] a = [] := by cases f <;> rfl
theorem itF_any : ∀ (f g : Nat) (l : List UInt8) (a : Nat), l.length ≤ f → l.length ≤ g → itF f l a = itF g l a
  | 0, g, l, a, h, _ => by rw [List.eq_nil_of_length_eq_zero (Nat.le_zero.1 h), itF_nil, itF_nil]
  | f + 1, 0, l, a, _, h => by rw [List.eq_nil_of_length_eq_zero (Nat.le_zero.1 h), itF_nil, itF_nil]
  | f + 1, g + 1, l, a, h1, h2 => by
    by_cases hne : l = []
    · subst hne; rw [itF_nil, itF_nil]
    · have h3 := dec1_pos l
      have hp := List.length_pos_iff.2 hne
      rw [itF_cons hne, itF_cons hne, itF_any f g _ _ (by rw [List.length_drop]; omega) (by rw [List.length_drop]; omega)]
def itC (l : List UInt8) (a : Nat) : List (Nat × Int) := itF l.length l a
theorem itC_nil (a : Nat) : itC [] a = [] := rfl
theorem itC_cons {l : List UInt8} (h : l ≠ []) (a : Nat) : itC l a = (a, (dec1 l).1) :: itC (l.drop (dec1 l).2) (a + (dec1 l).2) := by
  unfold itC
  have h3 := dec1_pos l
  have hp := List.length_pos_iff.2 h
  obtain ⟨k, hk⟩ : ∃ k, l.length = k + 1 := ⟨l.length - 1, by omega⟩
  rw [hk, itF_cons h]
  congr 1
  exact itF_any _ _ _ _ (by rw [List.length_drop]; omega) (Nat.le_refl _)
/-- As far as a kind Q goes (of a scalar, at a place). -/
def goQ (Q : Nat → Int → Bool) : List (Int × Nat) → Nat → Nat
  | [], a => a
  | p :: t, a => if Q a p.1 = true then goQ Q t (a + p.2) else a
theorem goQ_tk : ∀ (ps : List (Int × Nat)) (a : Nat), goQ okT ps a = tkP ps a
  | [], a => rfl
  | p :: t, a => by
    show (if okT a p.1 = true then goQ okT t (a + p.2) else a) = if okT a p.1 = true then tkP t (a + p.2) else a
    rw [goQ_tk t]
/-- All of them are of the kind: as far as the text goes. -/
theorem goQ_all {Q : Nat → Int → Bool} (hQ : ∀ a, Q a (-1) = false) (n : Nat) : ∀ (l : List UInt8) (a : Nat), l.length ≤ n → (∀ p ∈ itC l a, Q p.1 p.2 = true) → goQ Q (prt l) a = a + l.length := by
  induction n with
  | zero => intro l a h _; rw [List.eq_nil_of_length_eq_zero (Nat.le_zero.1 h)]; rfl
  | succ n ih =>
    intro l a h hall
    by_cases hne : l = []
    · subst hne; rfl
    · rw [itC_cons hne] at hall
      have h1 := hall _ List.mem_cons_self
      rw [dec1_fst] at h1
      have h2 : (dec l).1 ≠ -1 := fun e => by rw [e] at h1; dsimp only at h1; rw [hQ] at h1; cases h1
      have h3 : dec1 l = dec l := by unfold dec1; rw [if_neg h2]
      rw [h3] at hall
      rw [prt_cons hne]
      show (if Q a (dec l).1 = true then goQ Q (prt (l.drop (dec l).2)) (a + (dec l).2) else a) = _
      rw [if_pos h1]
      have hp := dec_pos l
      have hl := dec_le hne
      rw [ih _ _ (by rw [List.length_drop]; omega) (fun p hp => hall p (List.mem_cons_of_mem _ hp)), List.length_drop]
      omega
/-- The first one that is none of the kind: as far as that. -/
theorem goQ_stop {Q : Nat → Int → Bool} (hQ : ∀ a, Q a (-1) = false) : ∀ (t : List (Nat × Int)) (l : List UInt8) (a : Nat) (x : Nat × Int) (r : List (Nat × Int)), itC l a = t ++ x :: r → (∀ p ∈ t, Q p.1 p.2 = true) → Q x.1 x.2 = false → goQ Q (prt l) a = x.1
  | t, l, a, x, r, he, hall, hx => by
    have hne : l ≠ [] := by rintro rfl; rw [itC_nil] at he; cases t <;> cases he
    rw [itC_cons hne] at he
    rw [prt_cons hne]
    show (if Q a (dec l).1 = true then goQ Q (prt (l.drop (dec l).2)) (a + (dec l).2) else a) = _
    match t, he, hall with
    | [], he, _ =>
      injection he with h1 h2
      rw [← h1, dec1_fst] at hx
      dsimp only at hx
      rw [if_neg (by rw [hx]; decide), ← h1]
    | y :: t, he, hall =>
      injection he with h1 h2
      have hy := hall y List.mem_cons_self
      rw [← h1, dec1_fst] at hy
      dsimp only at hy
      have h2' : (dec l).1 ≠ -1 := fun e => by rw [e, hQ] at hy; cases hy
      have h3 : dec1 l = dec l := by unfold dec1; rw [if_neg h2']
      rw [if_pos hy]
      rw [h3] at h2
      exact goQ_stop hQ t _ _ x r h2 (fun p hp => hall p (List.mem_cons_of_mem _ hp)) hx
def chrQ (a : Nat) (r : Int) : Bool := chr r
def spcQ (a : Nat) (r : Int) : Bool := spc r
/-- Kinds of what name goes over: links are none, or the colon. -/
def nmQ (ls : List Int) (a : Nat) (r : Int) : Bool := !((decide (a = 0) && !fstC r) || (!furC r && !ls.contains r))
theorem chrQ_no (a : Nat) : chrQ a (-1) = false := chr_no
theorem spcQ_no (a : Nat) : spcQ a (-1) = false := by show spc (-1) = false; decide
theorem fst_no : fstC (-1) = false := by decide
theorem fur_no : furC (-1) = false := by decide
theorem nmQ_no {ls : List Int} (h : ls.contains (-1) = false) (a : Nat) : nmQ ls a (-1) = false := by
  unfold nmQ
  rw [fst_no, fur_no, h]
  cases decide (a = 0) <;> rfl
theorem nmQ_okT (a : Nat) (r : Int) : nmQ [58] a r = okT a r := by
  unfold nmQ okT
  by_cases h : a = 0
  · rw [if_pos h]
    cases hf : fstC r with
    | true => rw [fst_fur hf]; simp
    | false => simp [h]
  · rw [if_neg h]
    have : decide (a = 0) = false := by simpa using h
    rw [this]
    have e : [58].contains r = (r == 58) := by cases h2 : (r == 58) <;> simp_all
    rw [e]
    cases furC r with
    | true => rfl
    | false => cases (r == 58) <;> rfl
theorem goQ_congr {Q R : Nat → Int → Bool} (h : ∀ a r, Q a r = R a r) : ∀ (ps : List (Int × Nat)) (a : Nat), goQ Q ps a = goQ R ps a
  | [], a => rfl
  | p :: t, a => by
    show (if Q a p.1 = true then goQ Q t (a + p.2) else a) = if R a p.1 = true then goQ R t (a + p.2) else a
    rw [h, goQ_congr h t]
theorem go_take (l : List UInt8) : goQ (nmQ [58]) (prt l) 0 = tk l := by
  rw [goQ_congr nmQ_okT, goQ_tk]; rfl
theorem goQ_ge (Q : Nat → Int → Bool) : ∀ (ps : List (Int × Nat)) (a : Nat), a ≤ goQ Q ps a
  | [], a => Nat.le_refl _
  | p :: t, a => by
    show a ≤ if Q a p.1 = true then goQ Q t (a + p.2) else a
    split
    · have := goQ_ge Q t (a + p.2); omega
    · exact Nat.le_refl _
/-- What a kind goes over, by the scalars. -/
theorem goQ_of {P : Int → Bool} (hP : P (-1) = false) (l : List UInt8) : ∃ xs t, allB xs = true ∧ xs.all P = true ∧ l = encs xs ++ t ∧ goQ (fun _ r => P r) (prt l) 0 = (encs xs).length ∧ (t = [] ∨ (t ≠ [] ∧ P (dec t).1 = false)) := by
  obtain ⟨xs, t, h1, h2, h3, h4⟩ := run_of P (fun r h e => by rw [e, hP] at h; cases h) l.length l (Nat.le_refl _)
  have hr : ∀ {xs : List Int}, xs.all P = true → ∀ (ps : List (Int × Nat)) (a : Nat), goQ (fun _ r => P r) (withLen xs ++ ps) a = goQ (fun _ r => P r) ps (a + (encs xs).length) := by
    intro xs
    induction xs with
    | nil => intro _ ps a; rfl
    | cons x xs ih =>
      intro h ps a
      simp only [List.all_cons, Bool.and_eq_true] at h
      show (if P x = true then goQ _ (withLen xs ++ ps) (a + (enc x).length) else a) = _
      rw [if_pos h.1, ih h.2, encs_cons, List.length_append, Nat.add_assoc]
  refine ⟨xs, t, h1, h2, h3, ?_, h4⟩
  conv => lhs; rw [h3]
  rw [prt_encs xs h1, hr h2, Nat.zero_add]
  rcases h4 with rfl | ⟨h5, h6⟩
  · rfl
  · rw [prt_cons h5]
    show (if P (dec t).1 = true then _ else _) = _
    rw [if_neg (by rw [h6]; decide)]
theorem go_bad (l : List UInt8) : bad l = if goQ chrQ (prt l) 0 = l.length then -1 else ((goQ chrQ (prt l) 0 : Nat) : Int) := by
  obtain ⟨xs, t, h1, h2, h3, h4, h5⟩ := goQ_of (P := chr) chr_no l
  have h6 : goQ chrQ (prt l) 0 = (encs xs).length := h4
  rw [h6]
  have hb : bad l = badP (prt t) (0 + (encs xs).length) := by
    unfold bad
    rw [h3, prt_encs xs h1, badP_run h2]
  rcases h5 with rfl | ⟨h7, h8⟩
  · rw [hb, if_pos (by rw [h3, List.append_nil])]; rfl
  · have := List.length_pos_iff.2 h7
    rw [hb, badP_stop h7 h8, if_neg (by rw [h3, List.length_append]; omega), Nat.zero_add]
theorem spc_enc {x : Int} (h : spc x = true) : enc x = [by8 x] ∧ spc ((by8 x).toNat : Int) = true := by
  simp [spc] at h
  rcases h with rfl | rfl | rfl | rfl <;> exact ⟨by decide, by decide⟩
theorem blk_cons (c : UInt8) (t : List UInt8) : blk (c :: t) = (spc (c.toNat : Int) && blk t) := rfl
theorem blk_app (a b : List UInt8) : blk (a ++ b) = (blk a && blk b) := List.all_append
theorem blk_encs : ∀ {xs : List Int}, xs.all spc = true → blk (encs xs) = true
  | [], _ => rfl
  | x :: xs, h => by
    simp only [List.all_cons, Bool.and_eq_true] at h
    obtain ⟨h1, h2⟩ := spc_enc h.1
    rw [encs_cons, blk_app, h1, blk_cons, h2, blk_encs h.2]; rfl
theorem spc_dec {t : List UInt8} (h : blk t = true) (hne : t ≠ []) : spc (dec t).1 = true := by
  match t, hne, h with
  | c :: t, _, h =>
    rw [blk_cons, Bool.and_eq_true] at h
    have h1 := h.1
    have e : dec (c :: t) = dec (enc (c.toNat : Int) ++ t) := by
      have h2 : enc (c.toNat : Int) = [c] := by
        simp [spc] at h1
        have : c = 9 ∨ c = 10 ∨ c = 13 ∨ c = 32 := by
          rcases h1 with h1 | h1 | h1 | h1
          · left; exact UInt8.toNat.inj (by rw [show (9 : UInt8).toNat = 9 from rfl]; omega)
          · right; left; exact UInt8.toNat.inj (by rw [show (10 : UInt8).toNat = 10 from rfl]; omega)
          · right; right; left; exact UInt8.toNat.inj (by rw [show (13 : UInt8).toNat = 13 from rfl]; omega)
          · right; right; right; exact UInt8.toNat.inj (by rw [show (32 : UInt8).toNat = 32 from rfl]; omega)
        rcases this with rfl | rfl | rfl | rfl <;> decide
      rw [h2]; rfl
    rw [e, dec_enc (chr_isB (spc_chr h1).1)]
    exact h1
theorem go_blk (l : List UInt8) : blk l = decide (goQ spcQ (prt l) 0 = l.length) := by
  obtain ⟨xs, t, h1, h2, h3, h4, h5⟩ := goQ_of (P := spc) (by decide) l
  have h6 : goQ spcQ (prt l) 0 = (encs xs).length := h4
  rw [h6]
  rcases h5 with rfl | ⟨h7, h8⟩
  · rw [List.append_nil] at h3
    rw [h3, blk_encs h2]; simp
  · have h9 := List.length_pos_iff.2 h7
    have : ¬ (encs xs).length = l.length := by rw [h3, List.length_append]; omega
    rw [decide_eq_false this, h3, blk_app]
    cases hb : blk t with
    | false => simp
    | true => rw [spc_dec hb h7] at h8; cases h8
/-- A plain name, as the program asks: it is not empty, and the whole of it is taken. -/
theorem okT0 (a : Nat) (r : Int) : nmQ [] a r = if a = 0 then fstC r else furC r := by
  unfold nmQ
  by_cases h : a = 0
  · rw [if_pos h]
    cases hf : fstC r with
    | true => rw [fst_fur hf]; simp
    | false => simp [h]
  · rw [if_neg h]
    have : decide (a = 0) = false := by simpa using h
    rw [this]
    cases furC r <;> rfl
theorem nm_fur : ∀ {xs : List Int}, allB xs = true → xs.all furC = true → ∀ (ps : List (Int × Nat)) (a : Nat), 0 < a → goQ (nmQ []) (withLen xs ++ ps) a = goQ (nmQ []) ps (a + (encs xs).length)
  | [], _, _, ps, a, _ => rfl
  | x :: xs, hb, h, ps, a, ha => by
    simp only [List.all_cons, Bool.and_eq_true] at h
    have hb2 := (allB_cons _ _).1 hb
    have e : nmQ [] a x = true := by rw [okT0, if_neg (by omega)]; exact h.1
    show (if nmQ [] a x = true then goQ _ (withLen xs ++ ps) (a + (enc x).length) else a) = _
    rw [if_pos e, nm_fur hb2.2 h.2 _ _ (by omega), encs_cons, List.length_append, Nat.add_assoc]
theorem go_plain (s : List UInt8) : plain s = (!s.isEmpty && decide (goQ (nmQ []) (prt s) 0 = s.length)) := by
  by_cases hne : s = []
  · subst hne; decide
  have he : s.isEmpty = false := by simpa using hne
  rw [he]
  simp only [Bool.not_false, Bool.true_and]
  cases hf : fstC (dec s).1 with
  | false =>
    have h1 : goQ (nmQ []) (prt s) 0 = 0 := by
      rw [prt_cons hne]
      show (if nmQ [] 0 (dec s).1 = true then _ else _) = _
      rw [okT0, if_pos rfl, if_neg (by rw [hf]; decide)]
    have h2 := List.length_pos_iff.2 hne
    rw [h1, decide_eq_false (by omega)]
    cases hp : plain s with
    | false => rfl
    | true =>
      obtain ⟨xs, g1, g2, rfl⟩ := plain_iff.1 hp
      cases xs with
      | nil => cases g2
      | cons x xs =>
        simp only [plainS, Bool.and_eq_true] at g2
        rw [encs_cons, dec_enc ((allB_cons _ _).1 g1).1] at hf
        dsimp only at hf
        rw [g2.1] at hf; cases hf
  | true =>
    have hB : isB (dec s).1 = true := chr_isB (fur_chr (fst_fur hf))
    obtain ⟨g1, g2, g3⟩ := dec_ok (l := s) (r := (dec s).1) (n := (dec s).2) rfl (isB_ne hB)
    obtain ⟨xs, t, h1, h2, h3, h4⟩ := run_of furC (fun r h e => by rw [e] at h; revert h; decide) _ (s.drop (dec s).2) (Nat.le_refl _)
    have hl : s = encs ((dec s).1 :: xs) ++ t := by
      rw [encs_cons, List.append_assoc, ← h3]; exact g3
    have hA : allB ((dec s).1 :: xs) = true := (allB_cons _ _).2 ⟨hB, h1⟩
    have hpos := enc_pos hB
    have hg : goQ (nmQ []) (prt s) 0 = (encs ((dec s).1 :: xs)).length := by
      conv => lhs; rw [hl]
      rw [prt_encs _ hA]
      show (if nmQ [] 0 (dec s).1 = true then goQ (nmQ []) (withLen xs ++ prt t) (0 + (enc (dec s).1).length) else 0) = _
      rw [okT0, if_pos rfl, if_pos hf, nm_fur h1 h2 _ _ (by omega), encs_cons, List.length_append, Nat.zero_add]
      rcases h4 with rfl | ⟨h5, h6⟩
      · rfl
      · rw [prt_cons h5]
        have e : nmQ [] ((enc (dec s).1).length + (encs xs).length) (dec t).1 = false := by rw [okT0, if_neg (by omega)]; exact h6
        show (if nmQ [] ((enc (dec s).1).length + (encs xs).length) (dec t).1 = true then _ else _) = _
        rw [if_neg (by rw [e]; decide)]
    rw [hg]
    rcases h4 with rfl | ⟨h5, h6⟩
    · rw [List.append_nil] at hl
      have hp : plain s = true := plain_iff.2 ⟨_, hA, by simp only [plainS, Bool.and_eq_true]; exact ⟨hf, h2⟩, hl⟩
      have h7 : (encs ((dec s).1 :: xs)).length = s.length := by conv => rhs; rw [hl]
      rw [hp, decide_eq_true h7]
    · have h7 := List.length_pos_iff.2 h5
      have h9 := congrArg List.length hl
      rw [List.length_append] at h9
      have h8 : ¬ (encs ((dec s).1 :: xs)).length = s.length := by omega
      rw [decide_eq_false h8]
      cases hp : plain s with
      | false => rfl
      | true =>
        obtain ⟨ys, k1, k2, k3⟩ := plain_iff.1 hp
        exfalso
        have hpr : withLen ys = withLen ((dec s).1 :: xs) ++ prt t := by
          rw [← prt_encs' k1, ← k3]
          conv => lhs; rw [hl]
          rw [prt_encs _ hA]
        have hd : ∃ z ∈ ys, z = (dec t).1 := by
          have hm : dec t ∈ withLen ys := by rw [hpr, prt_cons h5]; exact List.mem_append_right _ List.mem_cons_self
          obtain ⟨z, hz, e⟩ := List.mem_map.1 hm
          exact ⟨z, hz, by rw [← e]⟩
        obtain ⟨z, hz, e⟩ := hd
        have := (List.all_eq_true.1 (plainS_fur k2)) z hz
        rw [e, h6] at this; cases this
end Go.Proofs.YtehehmpepkgbeaaDoor.Chr
