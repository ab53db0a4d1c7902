/- The mathematics of layer 3: bytes of UTF-16 and scalars; nothing of the program. -/
import Derived.Test.YtnalnpidmmkfgaaDoorM
namespace Go.Proofs.YtnalnpidmmkfgaaDoor

set_option linter.unusedVariables false
set_option linter.unusedSimpArgs false
/-- The unit of two bytes. -/
def un (big : Bool) (a b : UInt8) : Int := if big = true then (a.toNat : Int) * 256 + (b.toNat : Int) else (b.toNat : Int) * 256 + (a.toNat : Int)
theorem un_lt (big : Bool) (a b : UInt8) : 0 ≤ un big a b ∧ un big a b < 65536 := by
  have := u8_lt a; have := u8_lt b
  unfold un; split <;> omega
theorem un_turn (big : Bool) (a b : UInt8) : un (!big) b a = un big a b := by
  cases big <;> simp [un]
def hiB (u : Int) : Bool := decide (55296 ≤ u ∧ u ≤ 56319)
def loB (u : Int) : Bool := decide (56320 ≤ u ∧ u ≤ 57343)
theorem hiB_iff {u : Int} : hiB u = true ↔ 55296 ≤ u ∧ u ≤ 56319 := by simp [hiB]
theorem loB_iff {u : Int} : loB u = true ↔ 56320 ≤ u ∧ u ≤ 57343 := by simp [loB]
theorem hiB_no {u : Int} : hiB u = false ↔ ¬ (55296 ≤ u ∧ u ≤ 56319) := by rw [← hiB_iff]; simp
theorem loB_no {u : Int} : loB u = false ↔ ¬ (56320 ≤ u ∧ u ≤ 57343) := by rw [← loB_iff]; simp
/-- The scalar, or -1, whose bytes stand at the front of bytes, and how many bytes it, or the wrong part, has. -/
def d16 (big : Bool) : List UInt8 → Int × Nat
  | a :: b :: t =>
    if loB (un big a b) = true then (-1, 2)
    else if hiB (un big a b) = true then
      match t with
      | c :: d :: _ => if loB (un big c d) = true then (65536 + (un big a b - 55296) * 1024 + (un big c d - 56320), 4) else (-1, 2)
      | _ => (-1, 2)
    else (un big a b, 2)
  | _ => (-1, 1)
theorem d16_one (big : Bool) (a : UInt8) : d16 big [a] = (-1, 1) := rfl
theorem d16_lo {big : Bool} {a b : UInt8} (h : loB (un big a b) = true) (t : List UInt8) : d16 big (a :: b :: t) = (-1, 2) := by
  simp only [d16]; rw [if_pos h]
theorem d16_un {big : Bool} {a b : UInt8} (h : loB (un big a b) = false) (h2 : hiB (un big a b) = false) (t : List UInt8) : d16 big (a :: b :: t) = (un big a b, 2) := by
  simp only [d16]; rw [if_neg (by simp [h]), if_neg (by simp [h2])]
theorem hi_lo {u : Int} (h : hiB u = true) : loB u = false := by
  have := hiB_iff.1 h; rw [loB_no]; omega
theorem d16_hi0 {big : Bool} {a b : UInt8} (h : hiB (un big a b) = true) {t : List UInt8} (ht : t.length < 2) : d16 big (a :: b :: t) = (-1, 2) := by
  match t, ht with
  | [], _ => simp only [d16]; rw [if_neg (by simp [hi_lo h]), if_pos h]
  | [c], _ => simp only [d16]; rw [if_neg (by simp [hi_lo h]), if_pos h]
  | _ :: _ :: _, ht => simp at ht; omega
theorem d16_hi1 {big : Bool} {a b c d : UInt8} (h : hiB (un big a b) = true) (h2 : loB (un big c d) = false) (t : List UInt8) : d16 big (a :: b :: c :: d :: t) = (-1, 2) := by
  simp only [d16]; rw [if_neg (by simp [hi_lo h]), if_pos h, if_neg (by simp [h2])]
theorem d16_hi2 {big : Bool} {a b c d : UInt8} (h : hiB (un big a b) = true) (h2 : loB (un big c d) = true) (t : List UInt8) : d16 big (a :: b :: c :: d :: t) = (65536 + (un big a b - 55296) * 1024 + (un big c d - 56320), 4) := by
  simp only [d16]; rw [if_neg (by simp [hi_lo h]), if_pos h, if_pos h2]
/-- What may stand at a front. -/
theorem d16_all (big : Bool) (l : List UInt8) (hl : l ≠ []) :
    (l.length = 1 ∧ d16 big l = (-1, 1)) ∨ (∃ a b t, l = a :: b :: t ∧ (
      (loB (un big a b) = true ∧ d16 big l = (-1, 2)) ∨ (loB (un big a b) = false ∧ hiB (un big a b) = false ∧ d16 big l = (un big a b, 2)) ∨
      (hiB (un big a b) = true ∧ t.length < 2 ∧ d16 big l = (-1, 2)) ∨
      (hiB (un big a b) = true ∧ ∃ c d t2, t = c :: d :: t2 ∧ ((loB (un big c d) = false ∧ d16 big l = (-1, 2)) ∨ (loB (un big c d) = true ∧ d16 big l = (65536 + (un big a b - 55296) * 1024 + (un big c d - 56320), 4)))))) := by
  match l, hl with
  | [], hl => exact absurd rfl hl
  | [a], _ => exact .inl ⟨rfl, rfl⟩
  | a :: b :: t, _ =>
    refine .inr ⟨a, b, t, rfl, ?_⟩
    cases h : loB (un big a b)
    · cases h2 : hiB (un big a b)
      · exact .inr (.inl ⟨rfl, rfl, d16_un h h2 t⟩)
      · by_cases ht : t.length < 2
        · exact .inr (.inr (.inl ⟨rfl, ht, d16_hi0 h2 ht⟩))
        · match t, ht with
          | [], ht => simp at ht
          | [c], ht => simp at ht
          | c :: d :: t2, _ =>
            refine .inr (.inr (.inr ⟨rfl, c, d, t2, rfl, ?_⟩))
            cases h3 : loB (un big c d)
            · exact .inl ⟨rfl, d16_hi1 h2 h3 t2⟩
            · exact .inr ⟨rfl, d16_hi2 h2 h3 t2⟩
    · exact .inl ⟨rfl, d16_lo h t⟩
theorem d16_pos (big : Bool) (l : List UInt8) : 1 ≤ (d16 big l).2 ∧ (d16 big l).2 ≤ 4 := by
  by_cases hl : l = []
  · subst hl; simp [d16]
  · rcases d16_all big l hl with ⟨_, h⟩ | ⟨a, b, t, _, ⟨_, h⟩ | ⟨_, _, h⟩ | ⟨_, _, h⟩ | ⟨_, c, d, t2, _, ⟨_, h⟩ | ⟨_, h⟩⟩⟩ <;> rw [h] <;> simp
theorem d16_le (big : Bool) {l : List UInt8} (hl : l ≠ []) : (d16 big l).2 ≤ l.length := by
  rcases d16_all big l hl with ⟨h1, h⟩ | ⟨a, b, t, rfl, ⟨_, h⟩ | ⟨_, _, h⟩ | ⟨_, _, h⟩ | ⟨_, c, d, t2, rfl, ⟨_, h⟩ | ⟨_, h⟩⟩⟩ <;> rw [h] <;> simp
  omega
theorem d16_is (big : Bool) (l : List UInt8) : (d16 big l).1 = -1 ∨ isB (d16 big l).1 = true := by
  by_cases hl : l = []
  · subst hl; simp [d16]
  · rcases d16_all big l hl with ⟨_, h⟩ | ⟨a, b, t, _, ⟨_, h⟩ | ⟨h1, h2, h⟩ | ⟨_, _, h⟩ | ⟨h1, c, d, t2, _, ⟨_, h⟩ | ⟨h2, h⟩⟩⟩ <;> rw [h]
    · exact .inl rfl
    · exact .inl rfl
    · right
      have := un_lt big a b
      have := loB_no.1 h1
      have := hiB_no.1 h2
      show isB (un big a b) = true
      rw [isB_iff]; omega
    · exact .inl rfl
    · exact .inl rfl
    · right
      have := hiB_iff.1 h1
      have := loB_iff.1 h2
      show isB (65536 + (un big a b - 55296) * 1024 + (un big c d - 56320)) = true
      rw [isB_iff]; omega
/-- A unit's two bytes. -/
def two (big : Bool) (u : Int) : List UInt8 := if big = true then [by8 (u / 256), by8 (u % 256)] else [by8 (u % 256), by8 (u / 256)]
theorem two_len (big : Bool) (u : Int) : (two big u).length = 2 := by cases big <;> rfl
theorem two_form (big : Bool) {u : Int} (h0 : 0 ≤ u) (h1 : u < 65536) : ∃ a b, two big u = [a, b] ∧ un big a b = u := by
  cases big
  · refine ⟨_, _, rfl, ?_⟩
    simp only [un]
    rw [if_neg (by simp), by8_val (by omega) (by omega), by8_val (by omega) (by omega)]; omega
  · refine ⟨_, _, rfl, ?_⟩
    unfold un
    rw [if_pos rfl, by8_val (by omega) (by omega), by8_val (by omega) (by omega)]; omega
theorem two_un (big : Bool) (a b : UInt8) : two big (un big a b) = [a, b] := by
  have h1 := u8_lt a; have h2 := u8_lt b
  cases big
  · simp only [un, two]
    rw [if_neg (by simp), if_neg (by simp), by8_of (b := a) (by omega), by8_of (b := b) (by omega)]
  · unfold un two
    rw [if_pos rfl, if_pos rfl, by8_of (b := a) (by omega), by8_of (b := b) (by omega)]
/-- A scalar's bytes. -/
def e16 (big : Bool) (r : Int) : List UInt8 := if r < 65536 then two big r else two big (55296 + (r - 65536) / 1024) ++ two big (56320 + (r - 65536) % 1024)
def n16 (r : Int) : Nat := if r < 65536 then 1 else 2
theorem e16_len (big : Bool) (r : Int) : (e16 big r).length = 2 * n16 r := by
  unfold e16 n16; split
  · exact two_len _ _
  · rw [List.length_append, two_len, two_len]
theorem e16_1 (big : Bool) {r : Int} (h : r < 65536) : e16 big r = two big r := by unfold e16; rw [if_pos h]
theorem e16_2 (big : Bool) {r : Int} (h : 65536 ≤ r) : e16 big r = two big (55296 + (r - 65536) / 1024) ++ two big (56320 + (r - 65536) % 1024) := by unfold e16; rw [if_neg (by omega)]
theorem n16_1 {r : Int} (h : r < 65536) : n16 r = 1 := by unfold n16; rw [if_pos h]
theorem n16_2 {r : Int} (h : 65536 ≤ r) : n16 r = 2 := by unfold n16; rw [if_neg (by omega)]
theorem n16_le (r : Int) : 1 ≤ n16 r ∧ n16 r ≤ 2 := by unfold n16; split <;> omega
theorem d16_e16 (big : Bool) {r : Int} (h : isB r = true) (t : List UInt8) : d16 big (e16 big r ++ t) = (r, (e16 big r).length) := by
  have hb := isB_iff.1 h
  rw [e16_len]
  by_cases hr : r < 65536
  · rw [e16_1 big hr, n16_1 hr]
    obtain ⟨a, b, e, u⟩ := two_form big hb.1 hr
    rw [e]
    have := d16_un (big := big) (a := a) (b := b) (by rw [u, loB_no]; omega) (by rw [u, hiB_no]; omega) t
    rw [u] at this; exact this
  · rw [e16_2 big (by omega), n16_2 (by omega)]
    obtain ⟨a, b, e, u⟩ := two_form big (u := 55296 + (r - 65536) / 1024) (by omega) (by omega)
    obtain ⟨c, d, e2, u2⟩ := two_form big (u := 56320 + (r - 65536) % 1024) (by omega) (by omega)
    rw [e, e2]
    have := d16_hi2 (big := big) (a := a) (b := b) (c := c) (d := d) (by rw [u, hiB_iff]; omega) (by rw [u2, loB_iff]; omega) t
    rw [u, u2] at this
    simp only [List.cons_append, List.nil_append]
    rw [this]
    congr 1
    omega
theorem d16_ok {big : Bool} {l : List UInt8} {r : Int} {n : Nat} (h : d16 big l = (r, n)) (hr : r ≠ -1) : n = (e16 big r).length ∧ l = e16 big r ++ l.drop n := by
  by_cases hl : l = []
  · subst hl; simp [d16] at h; omega
  · rw [e16_len]
    rcases d16_all big l hl with ⟨_, e⟩ | ⟨a, b, t, rfl, ⟨_, e⟩ | ⟨h1, h2, e⟩ | ⟨_, _, e⟩ | ⟨h1, c, d, t2, rfl, ⟨_, e⟩ | ⟨h2, e⟩⟩⟩ <;> rw [e] at h <;> simp only [Prod.mk.injEq] at h <;> obtain ⟨rfl, rfl⟩ := h
    · exact absurd rfl hr
    · exact absurd rfl hr
    · have := un_lt big a b
      rw [n16_1 this.2, e16_1 big this.2, two_un]
      simp
    · exact absurd rfl hr
    · exact absurd rfl hr
    · have g1 := hiB_iff.1 h1
      have g2 := loB_iff.1 h2
      rw [n16_2 (by omega), e16_2 big (by omega)]
      rw [show 55296 + (65536 + (un big a b - 55296) * 1024 + (un big c d - 56320) - 65536) / 1024 = un big a b by omega, show 56320 + (65536 + (un big a b - 55296) * 1024 + (un big c d - 56320) - 65536) % 1024 = un big c d by omega, two_un, two_un]
      simp
/-- The parts of bytes. -/
def q16 (big : Bool) : Nat → List UInt8 → List (Int × Nat)
  | 0, _ => []
  | _ + 1, [] => []
  | f + 1, c :: t => d16 big (c :: t) :: q16 big f ((c :: t).drop (d16 big (c :: t)).2)
theorem q16_succ (big : Bool) (f : Nat) (c : UInt8) (t : List UInt8) : q16 big (f + 1) (c :: t) = d16 big (c :: t) :: q16 big f ((c :: t).drop (d16 big (c :: t)).2) := rfl
theorem q16_fuel (big : Bool) (f : Nat) : ∀ l : List UInt8, l.length ≤ f → q16 big f l = q16 big l.length l := by
  induction f using Nat.strongRecOn with
  | ind f ih =>
    intro l h
    match l with
    | [] => cases f <;> rfl
    | c :: t =>
      match f with
      | 0 => simp at h
      | f + 1 =>
        have hp := (d16_pos big (c :: t)).1
        rw [List.length_cons, q16_succ, q16_succ]
        generalize (d16 big (c :: t)).2 = n at *
        simp only [List.length_cons] at h
        have hd : ((c :: t).drop n).length ≤ t.length := by rw [List.length_drop, List.length_cons]; omega
        rw [ih f (by omega) _ (by omega), ih t.length (by omega) _ hd]
def p16 (big : Bool) (l : List UInt8) : List (Int × Nat) := q16 big l.length l
theorem p16_nil (big : Bool) : p16 big [] = [] := rfl
theorem p16_cons (big : Bool) {l : List UInt8} (h : l ≠ []) : p16 big l = d16 big l :: p16 big (l.drop (d16 big l).2) := by
  cases l with
  | nil => exact absurd rfl h
  | cons c t =>
    have hp := (d16_pos big (c :: t)).1
    unfold p16
    rw [List.length_cons, q16_succ]
    generalize (d16 big (c :: t)).2 = n at *
    rw [q16_fuel big t.length _ (by rw [List.length_drop, List.length_cons]; omega)]
theorem drop16_lt (big : Bool) {l : List UInt8} (h : l ≠ []) : (l.drop (d16 big l).2).length < l.length := by
  have := (d16_pos big l).1
  have := List.length_pos_iff.2 h
  rw [List.length_drop]; omega
def ok16 (big : Bool) (l : List UInt8) : Bool := (p16 big l).all fun p => p.1 != -1
def s16 (big : Bool) (l : List UInt8) : List Int := (p16 big l).map (·.1)
def x16 (big : Bool) (l : List UInt8) : List Int := (s16 big l).map fixR
/-- The text of bytes. -/
def t16 (big : Bool) (l : List UInt8) : List UInt8 := encs (x16 big l)
def bds : List (Int × Nat) → Nat → List Int
  | [], _ => []
  | p :: t, a => if p.1 = -1 then (a : Int) :: bds t (a + p.2) else bds t (a + p.2)
/-- The places of what is wrong. -/
def b16 (big : Bool) (l : List UInt8) : List Int := bds (p16 big l) 0
theorem bds_bad {p : Int × Nat} (h : p.1 = -1) (t : List (Int × Nat)) (a : Nat) : bds (p :: t) a = (a : Int) :: bds t (a + p.2) := by simp only [bds]; rw [if_pos h]
theorem bds_good {p : Int × Nat} (h : ¬ p.1 = -1) (t : List (Int × Nat)) (a : Nat) : bds (p :: t) a = bds t (a + p.2) := by simp only [bds]; rw [if_neg h]
theorem bds_nil : ∀ {ps : List (Int × Nat)} {a : Nat}, bds ps a = [] ↔ (ps.all fun p => p.1 != -1) = true
  | [], a => by simp [bds]
  | p :: t, a => by
    simp only [List.all_cons, Bool.and_eq_true, bne_iff_ne, ne_eq]
    by_cases h : p.1 = -1
    · rw [bds_bad h]; simp [h]
    · rw [bds_good h, bds_nil (ps := t)]; simp [h]
theorem b16_nil {big : Bool} {l : List UInt8} : b16 big l = [] ↔ ok16 big l = true := bds_nil
theorem s16_cons (big : Bool) {l : List UInt8} (h : l ≠ []) : s16 big l = (d16 big l).1 :: s16 big (l.drop (d16 big l).2) := by
  unfold s16; rw [p16_cons big h]; rfl
theorem ok16_cons (big : Bool) {l : List UInt8} (h : l ≠ []) : ok16 big l = ((d16 big l).1 != -1 && ok16 big (l.drop (d16 big l).2)) := by
  unfold ok16; rw [p16_cons big h]; rfl
theorem x16_cons (big : Bool) {l : List UInt8} (h : l ≠ []) : x16 big l = fixR (d16 big l).1 :: x16 big (l.drop (d16 big l).2) := by
  unfold x16; rw [s16_cons big h]; rfl
theorem s16_cases (big : Bool) (n : Nat) : ∀ l : List UInt8, l.length ≤ n → ∀ r ∈ s16 big l, r = -1 ∨ isB r = true := by
  induction n with
  | zero =>
    intro l h
    rw [List.eq_nil_of_length_eq_zero (Nat.le_zero.1 h)]
    simp [s16, p16_nil]
  | succ n ih =>
    intro l h
    by_cases hne : l = []
    · subst hne; simp [s16, p16_nil]
    rw [s16_cons big hne]
    intro r hr
    rcases List.mem_cons.1 hr with rfl | hr
    · exact d16_is big _
    · exact ih _ (by have := drop16_lt big hne; omega) r hr
theorem x16_all (big : Bool) (l : List UInt8) : allB (x16 big l) = true := by
  unfold x16
  simp only [allB, List.all_map, List.all_eq_true, Function.comp]
  intro r hr
  unfold fixR
  rcases s16_cases big l.length l (Nat.le_refl _) r hr with rfl | h
  · decide
  · rw [if_neg (isB_ne h)]; exact h
def es16 (big : Bool) (xs : List Int) : List UInt8 := xs.flatMap (e16 big)
theorem es16_nil (big : Bool) : es16 big [] = [] := rfl
theorem es16_cons (big : Bool) (x : Int) (xs : List Int) : es16 big (x :: xs) = e16 big x ++ es16 big xs := by simp [es16]
theorem es16_app (big : Bool) (xs ys : List Int) : es16 big (xs ++ ys) = es16 big xs ++ es16 big ys := by simp [es16]
def ns16 : List Int → Nat
  | [] => 0
  | x :: xs => n16 x + ns16 xs
theorem ns16_app : ∀ xs ys : List Int, ns16 (xs ++ ys) = ns16 xs + ns16 ys
  | [], ys => by simp [ns16]
  | x :: xs, ys => by simp only [List.cons_append, ns16]; rw [ns16_app xs ys]; omega
theorem ns16_le : ∀ xs : List Int, xs.length ≤ ns16 xs ∧ ns16 xs ≤ 2 * xs.length
  | [] => by simp [ns16]
  | x :: xs => by
    have := ns16_le xs; have := n16_le x
    simp only [ns16, List.length_cons]; omega
theorem es16_len (big : Bool) : ∀ xs : List Int, (es16 big xs).length = 2 * ns16 xs
  | [] => rfl
  | x :: xs => by rw [es16_cons, List.length_append, e16_len, es16_len big xs]; simp only [ns16]; omega
theorem e16_ne (big : Bool) (r : Int) (t : List UInt8) : e16 big r ++ t ≠ [] := by
  intro e
  have h1 := congrArg List.length e
  rw [List.length_append, e16_len, List.length_nil] at h1
  have h2 := n16_le r
  omega
theorem s16_es16 (big : Bool) : ∀ {xs : List Int}, allB xs = true → s16 big (es16 big xs) = xs
  | [], _ => rfl
  | x :: xs, h => by
    obtain ⟨h1, h2⟩ := (allB_cons x xs).1 h
    rw [es16_cons, s16_cons big (e16_ne big x _), d16_e16 big h1]
    simp only [List.drop_left]
    rw [s16_es16 big h2]
theorem ok16_es16 (big : Bool) : ∀ {xs : List Int}, allB xs = true → ok16 big (es16 big xs) = true
  | [], _ => rfl
  | x :: xs, h => by
    obtain ⟨h1, h2⟩ := (allB_cons x xs).1 h
    rw [es16_cons, ok16_cons big (e16_ne big x _), d16_e16 big h1]
    simp only [List.drop_left]
    rw [ok16_es16 big h2]
    simpa using isB_ne h1
theorem t16_es16 (big : Bool) {xs : List Int} (h : allB xs = true) : t16 big (es16 big xs) = encs xs := by
  unfold t16 x16; rw [s16_es16 big h, fix_id h]
theorem es16_back (big : Bool) (n : Nat) : ∀ l : List UInt8, l.length ≤ n → ok16 big l = true → es16 big (x16 big l) = l := by
  induction n with
  | zero =>
    intro l h _
    rw [List.eq_nil_of_length_eq_zero (Nat.le_zero.1 h)]
    rfl
  | succ n ih =>
    intro l h hok
    by_cases hne : l = []
    · subst hne; rfl
    rw [ok16_cons big hne] at hok
    simp only [Bool.and_eq_true, bne_iff_ne, ne_eq] at hok
    obtain ⟨h1, h2⟩ := hok
    obtain ⟨j2, j3⟩ := d16_ok (l := l) (big := big) rfl h1
    rw [x16_cons big hne, es16_cons, ih _ (by have := drop16_lt big hne; omega) h2, show fixR (d16 big l).1 = (d16 big l).1 by unfold fixR; rw [if_neg h1]]
    exact j3.symm
/-- Each two bytes turned about. -/
def swp : List UInt8 → List UInt8
  | a :: b :: t => b :: a :: swp t
  | l => l
theorem swp_len : ∀ l : List UInt8, (swp l).length = l.length
  | [] => rfl
  | [_] => rfl
  | a :: b :: t => by simp only [swp, List.length_cons]; rw [swp_len t]
theorem d16_swp (big : Bool) : ∀ l : List UInt8, l.length % 2 = 0 → d16 (!big) (swp l) = d16 big l
  | [], _ => rfl
  | [_], h => by simp at h
  | [a, b], _ => by simp only [swp, d16, un_turn]
  | [_, _, _], h => by simp at h
  | a :: b :: c :: d :: t, _ => by simp only [swp, d16, un_turn]
theorem d16_even (big : Bool) (l : List UInt8) (hl : l ≠ []) (h : l.length % 2 = 0) : (d16 big l).2 = 2 ∨ ((d16 big l).2 = 4) := by
  rcases d16_all big l hl with ⟨h1, e⟩ | ⟨a, b, t, rfl, ⟨_, e⟩ | ⟨_, _, e⟩ | ⟨_, _, e⟩ | ⟨_, c, d, t2, rfl, ⟨_, e⟩ | ⟨_, e⟩⟩⟩ <;> rw [e] <;> simp
  omega
theorem swp_drop2 : ∀ l : List UInt8, l.length % 2 = 0 → (swp l).drop 2 = swp (l.drop 2)
  | [], _ => rfl
  | [_], h => by simp at h
  | a :: b :: t, _ => by simp only [swp, List.drop_succ_cons, List.drop_zero]
theorem swp_drop (big : Bool) (l : List UInt8) (hl : l ≠ []) (h : l.length % 2 = 0) : (swp l).drop (d16 big l).2 = swp (l.drop (d16 big l).2) ∧ (l.drop (d16 big l).2).length % 2 = 0 := by
  rcases d16_even big l hl h with e | e <;> rw [e]
  · exact ⟨swp_drop2 l h, by simp; omega⟩
  · refine ⟨?_, by simp; omega⟩
    rw [show (4 : Nat) = 2 + 2 from rfl, ← List.drop_drop, ← List.drop_drop, swp_drop2 l h, swp_drop2 _ (by simp; omega)]
theorem p16_swp (big : Bool) (n : Nat) : ∀ l : List UInt8, l.length ≤ n → l.length % 2 = 0 → p16 (!big) (swp l) = p16 big l := by
  induction n with
  | zero =>
    intro l h _
    rw [List.eq_nil_of_length_eq_zero (Nat.le_zero.1 h)]
    rfl
  | succ n ih =>
    intro l h he
    by_cases hne : l = []
    · subst hne; rfl
    have hs : swp l ≠ [] := by
      intro e
      have := congrArg List.length e
      rw [swp_len] at this
      exact hne (List.eq_nil_of_length_eq_zero this)
    obtain ⟨g1, g2⟩ := swp_drop big l hne he
    rw [p16_cons _ hs, p16_cons _ hne, d16_swp big l he, g1, ih _ (by have := drop16_lt big hne; omega) g2]
theorem s16_swp (big : Bool) {l : List UInt8} (h : l.length % 2 = 0) : t16 (!big) (swp l) = t16 big l ∧ b16 (!big) (swp l) = b16 big l := by
  have := p16_swp big _ l (Nat.le_refl _) h
  unfold t16 x16 s16 b16
  rw [this]
  exact ⟨rfl, rfl⟩
/-- A text's bytes of UTF-16 and its units. -/
theorem ok_app {a b : List UInt8} (ha : okB a = true) (hb : okB b = true) : okB (a ++ b) = true ∧ scl (a ++ b) = scl a ++ scl b := by
  obtain ⟨h1, h2⟩ := ok_back _ a (Nat.le_refl _) ha
  obtain ⟨h3, h4⟩ := ok_back _ b (Nat.le_refl _) hb
  have h : allB (scl a ++ scl b) = true := (allB_app _ _).2 ⟨h1, h3⟩
  have e : encs (scl a ++ scl b) = a ++ b := by rw [encs_app, h2, h4]
  rw [← e]
  exact ⟨ok_encs h, scl_encs h⟩
theorem t16_of {big : Bool} {l : List UInt8} (h : okB l = true) : t16 big (es16 big (scl l)) = l ∧ b16 big (es16 big (scl l)) = [] ∧ ok16 big (es16 big (scl l)) = true := by
  obtain ⟨h1, h2⟩ := ok_back _ l (Nat.le_refl _) h
  exact ⟨by rw [t16_es16 big h1, h2], b16_nil.2 (ok16_es16 big h1), ok16_es16 big h1⟩
theorem t16_ok (big : Bool) (l : List UInt8) : okB (t16 big l) = true ∧ scl (t16 big l) = x16 big l := ⟨ok_encs (x16_all big l), scl_encs (x16_all big l)⟩
theorem t16_few (big : Bool) (n : Nat) : ∀ l : List UInt8, l.length ≤ n → (x16 big l).length ≤ l.length := by
  induction n with
  | zero =>
    intro l h
    rw [List.eq_nil_of_length_eq_zero (Nat.le_zero.1 h)]
    simp [x16, s16, p16_nil]
  | succ n ih =>
    intro l h
    by_cases hne : l = []
    · subst hne; simp [x16, s16, p16_nil]
    have h1 := drop16_lt big hne
    have h2 := ih _ (by omega : (l.drop (d16 big l).2).length ≤ n)
    rw [x16_cons big hne, List.length_cons]
    omega
theorem bds_few (big : Bool) (n : Nat) : ∀ (l : List UInt8) (a : Nat), l.length ≤ n → (bds (p16 big l) a).length ≤ l.length := by
  induction n with
  | zero =>
    intro l a h
    rw [List.eq_nil_of_length_eq_zero (Nat.le_zero.1 h)]
    simp [p16_nil, bds]
  | succ n ih =>
    intro l a h
    by_cases hne : l = []
    · subst hne; simp [p16_nil, bds]
    have h1 := drop16_lt big hne
    have h2 := ih _ (a + (d16 big l).2) (by omega : (l.drop (d16 big l).2).length ≤ n)
    rw [p16_cons big hne]
    by_cases hb : (d16 big l).1 = -1
    · rw [bds_bad hb, List.length_cons]; omega
    · rw [bds_good hb]; omega
end Go.Proofs.YtnalnpidmmkfgaaDoor
