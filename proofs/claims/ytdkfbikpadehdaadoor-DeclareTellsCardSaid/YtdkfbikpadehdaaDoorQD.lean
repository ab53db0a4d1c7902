/- The mathematics of declarations: mark, shape, parts; nothing of the program. -/
import Derived.Test.YtdkfbikpadehdaaDoorSL
namespace Go.Proofs.YtdkfbikpadehdaaDoor.Dec
open Go.RowKit
set_option linter.unusedVariables false
set_option linter.unusedSimpArgs false
/-- White space. -/
def wht (c : UInt8) : Bool := c == 9 || c == 10 || c == 13 || c == 32
def ltr (c : UInt8) : Bool := decide (97 ≤ c) && decide (c ≤ 122)
abbrev Prt := List UInt8 × List UInt8
/-- The mark at the front: the encoding and how many bytes it has. -/
def mrk (l : List UInt8) : Option (Nat × Nat) :=
  if [239, 187, 191].isPrefixOf l then some (0, 3) else if [255, 254].isPrefixOf l then some (1, 2) else if [254, 255].isPrefixOf l then some (2, 2) else none
def mrkN (l : List UInt8) : Nat := ((mrk l).map (·.2)).getD 0
/-- Without its mark. -/
def cut (l : List UInt8) : List UInt8 := l.drop (mrkN l)
/-- The shape at the front. -/
def shp (l : List UInt8) : Option Nat :=
  if [60, 0, 63, 0].isPrefixOf l then some 1 else if [0, 60, 0, 63].isPrefixOf l then some 2 else none
/-- What stands ahead of the first "?>". -/
def upto : List UInt8 → Option (List UInt8)
  | [] => none
  | c :: t => if c = 63 ∧ t.head? = some 62 then some [] else (upto t).map (c :: ·)
/-- What stands between "<?xml" and "?>". -/
def ins (b : List UInt8) : Option (List UInt8) :=
  if [60, 63, 120, 109, 108].isPrefixOf b = true ∧ (b.drop 5).head?.any wht = true then upto (b.drop 5) else none
def dcl (b : List UInt8) : Option (List UInt8) := ins (b.take 200)
/-- A value in quotes. -/
def qvl (n : List UInt8) : List UInt8 → Option (Prt × List UInt8)
  | [] => none
  | q :: t => if (q = 34 ∨ q = 39) ∧ q ∈ t then some ((n, t.takeWhile (· != q)), (t.dropWhile (· != q)).tail) else none
/-- The part that stands at the front, and the rest. -/
def prt (l : List UInt8) : Option (Prt × List UInt8) :=
  if l.takeWhile wht = [] ∨ (l.dropWhile wht).takeWhile ltr = [] then none
  else if (((l.dropWhile wht).dropWhile ltr).dropWhile wht).head? = some 61 then qvl ((l.dropWhile wht).takeWhile ltr) ((((l.dropWhile wht).dropWhile ltr).dropWhile wht).tail.dropWhile wht)
  else none
theorem dw_len (p : UInt8 → Bool) (l : List UInt8) : (l.dropWhile p).length ≤ l.length := (List.dropWhile_sublist p (l := l)).length_le
theorem qvl_cons (n : List UInt8) (q : UInt8) (t : List UInt8) : qvl n (q :: t) = if (q = 34 ∨ q = 39) ∧ q ∈ t then some ((n, t.takeWhile (· != q)), (t.dropWhile (· != q)).tail) else none := rfl
theorem qvl_len {n l : List UInt8} {p : Prt × List UInt8} (h : qvl n l = some p) : p.2.length < l.length := by
  cases l with
  | nil => cases h
  | cons q t =>
    rw [qvl_cons] at h
    by_cases hc : (q = 34 ∨ q = 39) ∧ q ∈ t
    · rw [if_pos hc] at h
      cases h
      have h1 := dw_len (· != q) t
      show ((t.dropWhile (· != q)).tail).length < t.length + 1
      rw [List.length_tail]; omega
    · rw [if_neg hc] at h; cases h
theorem prt_len {l : List UInt8} {p : Prt × List UInt8} (h : prt l = some p) : p.2.length < l.length := by
  unfold prt at h
  split at h
  · cases h
  · split at h
    · have h1 := qvl_len h
      have h2 := dw_len wht ((((l.dropWhile wht).dropWhile ltr).dropWhile wht).tail)
      rw [List.length_tail] at h2
      have h3 := dw_len wht ((l.dropWhile wht).dropWhile ltr)
      have h4 := dw_len ltr (l.dropWhile wht)
      have h5 := dw_len wht l
      omega
    · cases h
/-- The parts, from the front on. -/
def pts (l : List UInt8) : List Prt :=
  match h : prt l with
  | none => []
  | some p => p.1 :: pts p.2
termination_by l.length
decreasing_by exact prt_len h
theorem pts_none {l : List UInt8} (h : prt l = none) : pts l = [] := by
  rw [pts]; split
  · rfl
  · rename_i h1; rw [h] at h1; cases h1
theorem pts_some {l : List UInt8} {p : Prt × List UInt8} (h : prt l = some p) : pts l = p.1 :: pts p.2 := by
  rw [pts]; split
  · rename_i h1; rw [h] at h1; cases h1
  · rename_i q h1; rw [h] at h1; cases h1; rfl
/-- The declaration's parts. -/
def prts (b : List UInt8) : List Prt := match dcl b with
  | none => []
  | some s => pts s
def enc8 : List UInt8 := [101, 110, 99, 111, 100, 105, 110, 103]
def fnd (l : List Prt) : Option (List UInt8) := (l.find? fun p => p.1 == enc8).map (·.2)
/-- What it declares. -/
def scn (b : List UInt8) : Option (List UInt8) := fnd (prts b)
/-! What follows. -/
theorem dcl_take (b : List UInt8) : dcl (b.take 200) = dcl b := by
  unfold dcl; rw [List.take_take, Nat.min_self]
theorem prts_take (b : List UInt8) : prts (b.take 200) = prts b := by
  unfold prts; rw [dcl_take]
theorem upto_app : ∀ {l s : List UInt8} (y : List UInt8), upto l = some s → upto (l ++ y) = some s
  | [], s, y, h => by cases h
  | c :: t, s, y, h => by
    unfold upto at h
    show upto (c :: (t ++ y)) = some s
    unfold upto
    by_cases hc : c = 63 ∧ t.head? = some 62
    · rw [if_pos hc] at h
      have : (t ++ y).head? = some 62 := by rw [List.head?_append, hc.2]; rfl
      rw [if_pos ⟨hc.1, this⟩]; exact h
    · rw [if_neg hc] at h
      by_cases ht : t = []
      · subst ht; cases h
      · have : (t ++ y).head? = t.head? := by
          cases t with
          | nil => exact absurd rfl ht
          | cons d u => rfl
        rw [this, if_neg hc]
        cases hu : upto t with
        | none => rw [hu] at h; cases h
        | some s' => rw [hu] at h; rw [upto_app y hu]; exact h
theorem pre_app {p b : List UInt8} (y : List UInt8) (h : p.isPrefixOf b = true) : p.isPrefixOf (b ++ y) = true := by
  rw [List.isPrefixOf_iff_prefix] at h ⊢
  exact h.trans (List.prefix_append b y)
theorem pre_len {p b : List UInt8} (h : p.isPrefixOf b = true) : p.length ≤ b.length := by
  rw [List.isPrefixOf_iff_prefix] at h
  exact h.length_le
theorem ins_app {b s : List UInt8} (y : List UInt8) (h : ins b = some s) : ins (b ++ y) = some s := by
  unfold ins at h ⊢
  split at h
  case isTrue hc =>
    have h5 : [60, 63, 120, 109, 108].length ≤ b.length := pre_len hc.1
    have hd : (b ++ y).drop 5 = b.drop 5 ++ y := List.drop_append_of_le_length h5
    have hh : ((b ++ y).drop 5).head?.any wht = true := by
      rw [hd, List.head?_append]
      cases hx : (b.drop 5).head? with
      | none => rw [hx] at hc; exact absurd hc.2 (by simp)
      | some c => rw [hx] at hc; exact hc.2
    rw [if_pos ⟨pre_app y hc.1, hh⟩, hd]
    exact upto_app y h
  case isFalse hc => cases h
theorem dcl_app {b s : List UInt8} (y : List UInt8) (h : dcl b = some s) : dcl (b ++ y) = some s := by
  unfold dcl at h ⊢
  rw [List.take_append]
  exact ins_app _ h
theorem prts_app {b : List UInt8} (y : List UInt8) (h : prts b ≠ []) : prts (b ++ y) = prts b := by
  unfold prts at h ⊢
  cases hd : dcl b with
  | none => rw [hd] at h; exact absurd rfl h
  | some s => rw [dcl_app y hd]
theorem scn_app {b : List UInt8} (y : List UInt8) (h : prts b ≠ []) : scn (b ++ y) = scn b := by
  unfold scn; rw [prts_app y h]
theorem scn_none {b : List UInt8} (h : prts b = []) : scn b = none := by
  unfold scn; rw [h]; rfl
/-! Made of parts. -/
theorem tw_all {p : UInt8 → Bool} {x y : List UInt8} (h : ∀ c ∈ x, p c = true) (hy : y.head?.any p = false) : (x ++ y).takeWhile p = x ∧ (x ++ y).dropWhile p = y := by
  induction x with
  | nil =>
    cases y with
    | nil => exact ⟨rfl, rfl⟩
    | cons c t =>
      have hc : p c = false := by simpa using hy
      exact ⟨by simp [hc], by simp [hc]⟩
  | cons c t ih =>
    have hc := h c (by simp)
    obtain ⟨h1, h2⟩ := ih (fun d hd => h d (by simp [hd]))
    exact ⟨by simp [hc, h1], by simp [hc, h2]⟩
/-- A part as it is made. -/
def mk1 (p : Prt) : List UInt8 := 32 :: (p.1 ++ (61 :: 34 :: (p.2 ++ [34])))
def mk (l : List Prt) : List UInt8 := l.flatMap mk1
/-- Its name is of letters, its value has no quote. -/
def fit (p : Prt) : Prop := p.1 ≠ [] ∧ (∀ c ∈ p.1, ltr c = true) ∧ 34 ∉ p.2 ∧ 63 ∉ p.2
theorem ltr_wht {c : UInt8} (h : ltr c = true) : wht c = false := by
  unfold ltr at h
  rw [Bool.and_eq_true, decide_eq_true_eq, decide_eq_true_eq] at h
  have k : ∀ d : UInt8, d < 97 → (c == d) = false := by
    intro d hd
    rw [beq_eq_false_iff_ne]
    rintro rfl
    exact absurd hd (UInt8.not_lt.2 h.1)
  unfold wht
  rw [k 9 (by decide), k 10 (by decide), k 13 (by decide), k 32 (by decide)]; rfl
theorem prt_mk {p : Prt} (h : fit p) (r : List UInt8) : prt (mk1 p ++ r) = some (p, r) := by
  obtain ⟨h1, h2, h3, _⟩ := h
  have hl : mk1 p ++ r = [32] ++ (p.1 ++ (61 :: 34 :: (p.2 ++ 34 :: r))) := by simp [mk1]
  have e1 := tw_all (p := wht) (x := [32]) (y := p.1 ++ (61 :: 34 :: (p.2 ++ 34 :: r))) (by decide) (by
    cases hx : p.1 with
    | nil => exact absurd hx h1
    | cons c t =>
      have := ltr_wht (h2 c (by rw [hx]; simp))
      simpa using this)
  have e2 := tw_all (p := ltr) (x := p.1) (y := 61 :: 34 :: (p.2 ++ 34 :: r)) h2 rfl
  have e3 := tw_all (p := wht) (x := []) (y := 61 :: 34 :: (p.2 ++ 34 :: r)) (by simp) rfl
  have e4 := tw_all (p := wht) (x := []) (y := 34 :: (p.2 ++ 34 :: r)) (by simp) rfl
  have e5 := tw_all (p := fun c : UInt8 => c != 34) (x := p.2) (y := 34 :: r) (by
    intro c hc
    have : c ≠ 34 := fun e => h3 (e ▸ hc)
    simpa using this) rfl
  simp only [List.nil_append] at e3 e4
  unfold prt
  rw [hl, e1.1, e1.2, e2.1, e2.2, e3.2, if_neg (by simp [h1])]
  rw [if_pos (show (61 :: 34 :: (p.2 ++ 34 :: r) : List UInt8).head? = some 61 from rfl)]
  show qvl p.1 ((34 :: (p.2 ++ 34 :: r)).dropWhile wht) = _
  rw [e4.2]
  show (if ((34 : UInt8) = 34 ∨ (34 : UInt8) = 39) ∧ (34 : UInt8) ∈ p.2 ++ 34 :: r then some ((p.1, (p.2 ++ 34 :: r).takeWhile (· != 34)), ((p.2 ++ 34 :: r).dropWhile (· != 34)).tail) else none) = _
  rw [if_pos ⟨.inl rfl, by simp⟩, e5.1, e5.2]
  rfl
theorem pts_nil : pts [] = [] := pts_none rfl
theorem pts_mk : ∀ {l : List Prt}, (∀ p ∈ l, fit p) → pts (mk l) = l
  | [], _ => pts_nil
  | p :: l, h => by
    have : mk (p :: l) = mk1 p ++ mk l := by simp [mk]
    rw [this, pts_some (prt_mk (h p (by simp)) (mk l))]
    show p :: pts (mk l) = p :: l
    rw [pts_mk (fun q hq => h q (by simp [hq]))]
theorem pts_blank : pts [32] = [] := pts_none rfl
theorem upto_at : ∀ {m : List UInt8} (x : List UInt8), 63 ∉ m → upto (m ++ 63 :: 62 :: x) = some m
  | [], x, _ => rfl
  | c :: m, x, h => by
    have hc : ¬ c = 63 := fun e => h (by simp [e])
    show upto (c :: (m ++ 63 :: 62 :: x)) = _
    unfold upto
    rw [if_neg (fun hh => hc hh.1), upto_at x (fun hm => h (by simp [hm]))]
    rfl
def frontX : List UInt8 := [60, 63, 120, 109, 108]
theorem dcl_made {m : List UInt8} (x : List UInt8) (hw : m.head?.any wht = true) (h : 63 ∉ m) (hl : m.length ≤ 193) : dcl (frontX ++ m ++ 63 :: 62 :: x) = some m := by
  have e : (frontX ++ m ++ 63 :: 62 :: x).take 200 = frontX ++ (m ++ 63 :: 62 :: x.take (193 - m.length)) := by
    have : frontX ++ m ++ 63 :: 62 :: x = (frontX ++ (m ++ [63, 62])) ++ x := by simp
    rw [this, List.take_append]
    have h1 : (frontX ++ (m ++ [63, 62])).length = m.length + 7 := by simp [frontX]
    rw [List.take_of_length_le (by omega), h1]
    have : 200 - (m.length + 7) = 193 - m.length := by omega
    rw [this]; simp
  unfold dcl
  rw [e]
  unfold ins
  have hd : (frontX ++ (m ++ 63 :: 62 :: x.take (193 - m.length))).drop 5 = m ++ 63 :: 62 :: x.take (193 - m.length) := rfl
  rw [hd, if_pos ⟨rfl, by
    rw [List.head?_append]
    cases hx : m.head? with
    | none => rw [hx] at hw; exact absurd hw (by simp)
    | some c => rw [hx] at hw; exact hw⟩]
  exact upto_at _ h
/-- A declaration that is made of parts tells just them. -/
theorem prts_made {l : List Prt} (x : List UInt8) (hf : ∀ p ∈ l, fit p) (hl : (mk l).length ≤ 193) : prts (frontX ++ (if l = [] then [32] else mk l) ++ 63 :: 62 :: x) = l := by
  by_cases h0 : l = []
  · subst h0
    unfold prts
    rw [if_pos rfl, dcl_made (m := [32]) x rfl (by decide) (by decide)]
    exact pts_blank
  · unfold prts
    have hm : 63 ∉ mk l := by
      intro hm
      obtain ⟨p, hp, hm⟩ := List.mem_flatMap.1 hm
      obtain ⟨_, h2, _, h4⟩ := hf p hp
      simp only [mk1, List.mem_cons, List.mem_append, List.not_mem_nil, or_false] at hm
      rcases hm with hm | hm | hm | hm | hm | hm
      · cases hm
      · have := h2 63 hm; cases this
      · cases hm
      · cases hm
      · exact h4 hm
      · cases hm
    have hh : (mk l).head?.any wht = true := by
      cases l with
      | nil => exact absurd rfl h0
      | cons p l => rfl
    rw [if_neg h0, dcl_made (m := mk l) x hh hm hl]
    exact pts_mk hf
/-! Never two of them together. -/
theorem dcl_front {b s : List UInt8} (h : dcl b = some s) : frontX.isPrefixOf b = true := by
  unfold dcl ins at h
  split at h
  case isTrue hc =>
    have := hc.1
    rw [List.isPrefixOf_iff_prefix] at this ⊢
    exact this.trans (List.take_prefix _ _)
  case isFalse => cases h
theorem prts_front {b : List UInt8} (h : prts b ≠ []) : frontX.isPrefixOf b = true := by
  unfold prts at h
  cases hd : dcl b with
  | none => rw [hd] at h; exact absurd rfl h
  | some s => exact dcl_front hd
theorem front_two {b : List UInt8} (h : frontX.isPrefixOf b = true) : mrk b = none ∧ shp b = none := by
  rw [List.isPrefixOf_iff_prefix] at h
  obtain ⟨t, rfl⟩ := h
  exact ⟨rfl, rfl⟩
theorem mrk_shp {b : List UInt8} {m : Nat × Nat} (h : mrk b = some m) : shp b = none := by
  match b with
  | [] => cases h
  | c :: t =>
    by_cases h1 : c = 60
    · subst h1; cases h
    · by_cases h2 : c = 0
      · subst h2; cases h
      · have e1 : ([60, 0, 63, 0] : List UInt8).isPrefixOf (c :: t) = false := by simp [List.isPrefixOf, Ne.symm h1]
        have e2 : ([0, 60, 0, 63] : List UInt8).isPrefixOf (c :: t) = false := by simp [List.isPrefixOf, Ne.symm h2]
        unfold shp
        rw [e1, e2]; rfl
theorem mrk_len {b : List UInt8} : mrkN b ≤ b.length := by
  unfold mrkN mrk
  split
  · rename_i h; exact pre_len h
  · split
    · rename_i h; exact pre_len h
    · split
      · rename_i h; exact pre_len h
      · exact Nat.zero_le _
theorem mrk_pos {b : List UInt8} : (mrk b).isSome = decide (0 < mrkN b) := by
  unfold mrkN mrk
  repeat' split
  all_goals rfl
theorem cut_len (b : List UInt8) : (cut b).length = b.length - mrkN b := by
  unfold cut; rw [List.length_drop]
theorem cut_none {b : List UInt8} (h : mrk b = none) : cut b = b := by
  unfold cut mrkN; rw [h]; rfl
/-- How many of the three are there: one at most. -/
theorem apart (b : List UInt8) : (if (mrk b).isSome then 1 else 0) + (if (shp b).isSome then 1 else 0) + (if prts b ≠ [] then 1 else 0) ≤ 1 := by
  by_cases h : prts b = []
  · cases hm : mrk b with
    | none =>
      rw [if_neg (show ¬ prts b ≠ [] from fun hh => hh h), if_neg (show ¬ (none : Option (Nat × Nat)).isSome = true by decide)]
      split <;> omega
    | some m =>
      rw [if_neg (show ¬ prts b ≠ [] from fun hh => hh h), mrk_shp hm]
      simp
  · obtain ⟨h1, h2⟩ := front_two (prts_front h)
    rw [h1, h2, if_pos h]; simp
/-- Where bytes of a kind that begin at k end. -/
def endW (p : UInt8 → Bool) (l : List UInt8) (k : Nat) : Nat := k + ((l.drop k).takeWhile p).length
theorem endW_out {p : UInt8 → Bool} {l : List UInt8} {k : Nat} (h : l.length ≤ k) : endW p l k = k := by unfold endW; rw [List.drop_eq_nil_of_le h]; rfl
theorem endW_go {p : UInt8 → Bool} {l : List UInt8} {k : Nat} (h : k < l.length) (hp : p l[k] = true) : endW p l k = endW p l (k + 1) := by
  unfold endW; rw [List.drop_eq_getElem_cons h, List.takeWhile_cons, if_pos hp]; simp; omega
theorem endW_stop {p : UInt8 → Bool} {l : List UInt8} {k : Nat} (h : k < l.length) (hp : p l[k] = false) : endW p l k = k := by
  unfold endW; rw [List.drop_eq_getElem_cons h, List.takeWhile_cons, if_neg (by simp [hp])]; rfl
theorem endW_ge (p : UInt8 → Bool) (l : List UInt8) (k : Nat) : k ≤ endW p l k := Nat.le_add_right _ _
theorem endW_le {p : UInt8 → Bool} {l : List UInt8} {k : Nat} (h : k ≤ l.length) : endW p l k ≤ l.length := by
  unfold endW
  have := (List.takeWhile_sublist p (l := l.drop k)).length_le
  rw [List.length_drop] at this; omega
theorem drop_take (p : UInt8 → Bool) (l : List UInt8) : l.drop (l.takeWhile p).length = l.dropWhile p := by
  induction l with
  | nil => rfl
  | cons a t ih =>
    rw [List.takeWhile_cons, List.dropWhile_cons]
    by_cases h : p a = true
    · rw [if_pos h, if_pos h]; simpa using ih
    · rw [if_neg h, if_neg h]; rfl
theorem take_take (p : UInt8 → Bool) (l : List UInt8) : l.take (l.takeWhile p).length = l.takeWhile p := by
  induction l with
  | nil => rfl
  | cons a t ih =>
    rw [List.takeWhile_cons]
    by_cases h : p a = true
    · rw [if_pos h]; simpa using ih
    · rw [if_neg h]; rfl
theorem drop_end (p : UInt8 → Bool) (l : List UInt8) (k : Nat) : l.drop (endW p l k) = (l.drop k).dropWhile p := by
  unfold endW; rw [← List.drop_drop, drop_take]
theorem slice_end (p : UInt8 → Bool) (l : List UInt8) (k : Nat) : (l.drop k).take (endW p l k - k) = (l.drop k).takeWhile p := by
  unfold endW; rw [Nat.add_sub_cancel_left, take_take]
theorem tw_nil {p : UInt8 → Bool} {l : List UInt8} {a : Nat} : (l.drop a).takeWhile p = [] ↔ endW p l a = a := by
  unfold endW
  constructor
  · intro h; rw [h]; rfl
  · intro h; exact List.eq_nil_of_length_eq_zero (by omega)
theorem endW_at {p : UInt8 → Bool} {l : List UInt8} {k : Nat} (h : endW p l k < l.length) : p l[endW p l k] = false := by
  have h1 := List.head?_dropWhile_not p (l.drop k)
  rw [← drop_end, List.head?_drop, List.getElem?_eq_getElem h] at h1
  simpa using h1
theorem endW_mem {p : UInt8 → Bool} {l : List UInt8} {k : Nat} (hk : k ≤ l.length) : endW p l k < l.length ↔ ∃ c ∈ l.drop k, p c = false := by
  constructor
  · intro h
    refine ⟨l[endW p l k], ?_, endW_at h⟩
    have : l[endW p l k] ∈ l.drop (endW p l k) := by rw [List.drop_eq_getElem_cons h]; exact List.mem_cons_self
    rw [drop_end] at this
    exact (List.dropWhile_sublist p).subset this
  · rintro ⟨c, hc, hp⟩
    have h0 := endW_le (p := p) hk
    rcases Nat.lt_or_ge (endW p l k) l.length with h | h
    · exact h
    · exfalso
      have e : (l.drop k).dropWhile p = [] := by rw [← drop_end, List.drop_eq_nil_of_le h]
      have e2 := List.takeWhile_append_dropWhile (p := p) (l := l.drop k)
      rw [e, List.append_nil] at e2
      rw [← e2] at hc
      have := List.all_takeWhile (p := p) (l := l.drop k)
      rw [List.all_eq_true] at this
      rw [this c hc] at hp; cases hp
/-- A part, by its places. -/
theorem prt_idx {l : List UInt8} {a k t e v : Nat} (hk : endW wht l a = k) (ht : endW ltr l k = t) (he : endW wht l t = e) (hv : endW wht l (e + 1) = v) :
    prt (l.drop a) = if k = a ∨ t = k then none else if l[e]? = some 61 then qvl ((l.drop k).take (t - k)) (l.drop v) else none := by
  unfold prt
  have ek : (l.drop a).dropWhile wht = l.drop k := by rw [← drop_end, hk]
  have et : (l.drop k).dropWhile ltr = l.drop t := by rw [← drop_end, ht]
  have ee : (l.drop t).dropWhile wht = l.drop e := by rw [← drop_end, he]
  have ev : (l.drop (e + 1)).dropWhile wht = l.drop v := by rw [← drop_end, hv]
  have en : (l.drop k).takeWhile ltr = (l.drop k).take (t - k) := by rw [← ht, slice_end]
  have c1 : ((l.drop a).takeWhile wht = []) ↔ k = a := by rw [tw_nil, hk]
  have c2 : ((l.drop k).takeWhile ltr = []) ↔ t = k := by rw [tw_nil, ht]
  rw [ek, et, ee, List.tail_drop, ev, List.head?_drop]
  by_cases h : k = a ∨ t = k
  · rw [if_pos h, if_pos (h.imp c1.2 c2.2)]
  · rw [if_neg h, if_neg (fun hh => h (hh.imp c1.1 c2.1)), en]
theorem qvl_out {n l : List UInt8} {v : Nat} (h : l.length ≤ v) : qvl n (l.drop v) = none := by rw [List.drop_eq_nil_of_le h]; rfl
theorem qvl_bad {n l : List UInt8} {v : Nat} (h : v < l.length) (h1 : l[v] ≠ 34) (h2 : l[v] ≠ 39) : qvl n (l.drop v) = none := by
  rw [List.drop_eq_getElem_cons h, qvl_cons, if_neg (fun hh => hh.1.elim h1 h2)]
/-- A value, by its places. -/
theorem qvl_idx {n l : List UInt8} {v i : Nat} (h : v < l.length) (hq : l[v] = 34 ∨ l[v] = 39) (hi : endW (· != l[v]) l (v + 1) = i) :
    qvl n (l.drop v) = if i < l.length then some ((n, (l.drop (v + 1)).take (i - (v + 1))), l.drop (i + 1)) else none := by
  rw [List.drop_eq_getElem_cons h, qvl_cons]
  have hm : i < l.length ↔ l[v] ∈ l.drop (v + 1) := by
    rw [← hi, endW_mem h]
    constructor
    · rintro ⟨c, hc, he⟩
      have : c = l[v] := by simpa using he
      exact this ▸ hc
    · intro hc; exact ⟨l[v], hc, by simp⟩
  by_cases hh : i < l.length
  · rw [if_pos hh, if_pos ⟨hq, hm.1 hh⟩, ← slice_end, ← drop_end, List.tail_drop, hi]
  · rw [if_neg hh, if_neg (fun x => hh (hm.2 x.2))]
/-! What stands ahead of the first "?>", by its places. -/
theorem upto_hit {l : List UInt8} {i : Nat} (h : i + 1 < l.length) (h1 : l[i] = 63) (h2 : l[i + 1] = 62) : upto (l.drop i) = some [] := by
  rw [List.drop_eq_getElem_cons (show i < l.length by omega)]
  unfold upto
  rw [if_pos ⟨h1, by rw [List.head?_drop, List.getElem?_eq_getElem h, h2]⟩]
theorem upto_miss {l : List UInt8} {i : Nat} (h : i + 1 < l.length) (hn : ¬(l[i] = 63 ∧ l[i + 1] = 62)) : upto (l.drop i) = (upto (l.drop (i + 1))).map (l[i] :: ·) := by
  rw [List.drop_eq_getElem_cons (show i < l.length by omega)]
  rw [upto, if_neg (by
    rintro ⟨h1, h2⟩
    rw [List.head?_drop, List.getElem?_eq_getElem h] at h2
    exact hn ⟨h1, by simpa using h2⟩)]
theorem upto_out {l : List UInt8} {i : Nat} (h : l.length ≤ i + 1) : upto (l.drop i) = none := by
  rcases Nat.lt_or_ge i l.length with h1 | h1
  · have : l.drop (i + 1) = [] := List.drop_eq_nil_of_le h
    rw [List.drop_eq_getElem_cons h1, upto, this, if_neg (fun hh => by cases hh.2)]
    rfl
  · rw [List.drop_eq_nil_of_le h1]; rfl
/-- From a place on nothing was found up to another one. -/
def Miss (l : List UInt8) (a i : Nat) : Prop := upto (l.drop a) = (upto (l.drop i)).map ((l.drop a).take (i - a) ++ ·)
theorem Miss.start (l : List UInt8) (a : Nat) : Miss l a a := by
  unfold Miss
  rw [Nat.sub_self]
  cases upto (l.drop a) <;> rfl
theorem Miss.step {l : List UInt8} {a i : Nat} (h : Miss l a i) (ha : a ≤ i) (hi : i + 1 < l.length) (hn : ¬(l[i] = 63 ∧ l[i + 1] = 62)) : Miss l a (i + 1) := by
  unfold Miss at h ⊢
  rw [h, upto_miss hi hn]
  have e : (l.drop a).take (i + 1 - a) = (l.drop a).take (i - a) ++ [l[i]] := by
    have e1 : i + 1 - a = i - a + 1 := by omega
    have e2 : (l.drop a)[i - a]? = some l[i] := by
      rw [List.getElem?_drop, show a + (i - a) = i by omega, List.getElem?_eq_getElem (show i < l.length by omega)]
    rw [e1, List.take_add_one, e2]; rfl
  rw [e]
  cases upto (l.drop (i + 1)) with
  | none => rfl
  | some s => simp
theorem Miss.hit {l : List UInt8} {a i : Nat} (h : Miss l a i) (hi : i + 1 < l.length) (h1 : l[i] = 63) (h2 : l[i + 1] = 62) : upto (l.drop a) = some ((l.drop a).take (i - a)) := by
  unfold Miss at h
  rw [h, upto_hit hi h1 h2]; simp
theorem Miss.out {l : List UInt8} {a i : Nat} (h : Miss l a i) (hi : l.length ≤ i + 1) : upto (l.drop a) = none := by
  unfold Miss at h
  rw [h, upto_out hi]; rfl
/-! The first part so called, by its place; parts one by one. -/
theorem fnd_hit {l : List Prt} {i : Nat} (h : i < l.length) (he : l[i].1 = enc8) : fnd (l.drop i) = some l[i].2 := by
  unfold fnd
  rw [List.drop_eq_getElem_cons h, List.find?_cons_of_pos (by simp [he])]; rfl
theorem fnd_miss {l : List Prt} {i : Nat} (h : i < l.length) (he : l[i].1 ≠ enc8) : fnd (l.drop i) = fnd (l.drop (i + 1)) := by
  unfold fnd
  rw [List.drop_eq_getElem_cons h, List.find?_cons_of_neg (by simp [he])]
theorem fnd_out {l : List Prt} {i : Nat} (h : l.length ≤ i) : fnd (l.drop i) = none := by
  rw [List.drop_eq_nil_of_le h]; rfl
/-- No more parts than bytes. -/
theorem pts_len (l : List UInt8) : (pts l).length ≤ l.length := by
  suffices ∀ n (l : List UInt8), l.length ≤ n → (pts l).length ≤ l.length from this _ l (Nat.le_refl _)
  intro n
  induction n with
  | zero =>
    intro l hl
    have : l = [] := List.eq_nil_of_length_eq_zero (by omega)
    subst this; rw [pts_nil]; simp
  | succ n ih =>
    intro l hl
    cases hp : prt l with
    | none => rw [pts_none hp]; simp
    | some p =>
      have h1 := prt_len hp
      have h2 := ih p.2 (by omega)
      rw [pts_some hp, List.length_cons]; omega
theorem ins_len {b s : List UInt8} (h : dcl b = some s) : s.length ≤ 200 := by
  have hu : ∀ (l s : List UInt8), upto l = some s → s.length ≤ l.length := by
    intro l
    induction l with
    | nil => intro s h; cases h
    | cons c t ih =>
      intro s h
      rw [upto] at h
      split at h
      · cases h; simp
      · cases hx : upto t with
        | none => rw [hx] at h; cases h
        | some s' =>
          rw [hx] at h; cases h
          have := ih s' hx
          simp; omega
  unfold dcl ins at h
  split at h
  case isTrue =>
    have := hu _ _ h
    rw [List.length_drop, List.length_take] at this; omega
  case isFalse => cases h
theorem prts_len (b : List UInt8) : (prts b).length ≤ 200 := by
  unfold prts
  cases hd : dcl b with
  | none => simp
  | some s => exact Nat.le_trans (pts_len s) (ins_len hd)
end Go.Proofs.YtdkfbikpadehdaaDoor.Dec
