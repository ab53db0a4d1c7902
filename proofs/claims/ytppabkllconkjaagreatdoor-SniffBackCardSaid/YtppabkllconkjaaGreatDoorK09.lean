/- Joined: QM, QD. -/
import Derived.BigQuiet
import Derived.Deep.AppendLies
import Derived.Deep.DeepCutAuto
import Derived.Deep.LoopGhost
import Derived.Deep.QuietTactic
import Derived.Deep.RegionHeld3
import Derived.Laws.AppendOwn
import Derived.Lib.Hide
import Derived.LoopN
import Derived.Maps.AppendAt
import Derived.OpenShut
import Derived.Outline
import Derived.ProofKit
import Derived.StillTailTactics
import Derived.Test.YtppabkllconkjaaGreatDoorRows
import Derived.WalkKit
import Derived.WalkMore
/- The mathematics of Content-Types: what is read, what is written; nothing of the program. -/
namespace Go.Proofs.YtppabkllconkjaaGreatDoor.Med
open Go.RowKit
set_option linter.unusedVariables false
set_option linter.unusedSimpArgs false
set_option maxRecDepth 100000
/-- A letter A to Z as a to z. -/
def lo (c : UInt8) : UInt8 := if 65 ≤ c ∧ c ≤ 90 then c + 32 else c
def lwr (l : List UInt8) : List UInt8 := l.map lo
/-- One of a token. -/
def sgn (c : UInt8) : Bool := (decide (65 ≤ c) && decide (c ≤ 90)) || (decide (97 ≤ c) && decide (c ≤ 122)) || (decide (48 ≤ c) && decide (c ≤ 57)) || [33, 35, 36, 37, 38, 39, 42, 43, 45, 46, 94, 95, 96, 124, 126].contains c
def blk (c : UInt8) : Bool := c == 32 || c == 9
/-- It may stand in a quoted text as it is. -/
def wth (c : UInt8) : Bool := c == 9 || (decide (32 ≤ c) && decide (c ≤ 126) && c != 34 && c != 92) || decide (128 ≤ c)
/-- It may stand behind a backslash. -/
def esc (c : UInt8) : Bool := c == 9 || (decide (32 ≤ c) && decide (c ≤ 126))
abbrev Par := List UInt8 × List UInt8
abbrev Med := List UInt8 × List Par
/-- A quoted text behind its first quote: what is meant, and the rest. -/
def qtd : List UInt8 → Option (List UInt8 × List UInt8)
  | [] => none
  | c :: t =>
    if c = 34 then some ([], t)
    else if c = 92 then
      match t with
      | [] => none
      | d :: u => if esc d then (qtd u).map fun p => (d :: p.1, p.2) else none
    else if wth c then (qtd t).map fun p => (c :: p.1, p.2) else none
/-- A value: a token or a quoted text. -/
def val (t : List UInt8) : Option (List UInt8 × List UInt8) :=
  if t.head? = some 34 then qtd t.tail
  else if t.takeWhile sgn = [] then none else some (t.takeWhile sgn, t.dropWhile sgn)
/-- A parameter, and the rest. -/
def prm (l : List UInt8) : Option (Par × List UInt8) :=
  if l.takeWhile sgn = [] then none
  else if (l.dropWhile sgn).head? = some 61 then (val (l.dropWhile sgn).tail).map fun p => ((lwr (l.takeWhile sgn), p.1), p.2)
  else none
theorem dropW_len (p : UInt8 → Bool) (l : List UInt8) : (l.dropWhile p).length ≤ l.length := (List.dropWhile_sublist p (l := l)).length_le
theorem qtd_len : ∀ {l : List UInt8} {p : List UInt8 × List UInt8}, qtd l = some p → p.2.length < l.length
  | [], p, h => by unfold qtd at h; cases h
  | c :: t, p, h => by
    unfold qtd at h
    split at h
    · cases h; simp
    · split at h
      · cases t with
        | nil => simp at h
        | cons d u =>
          simp only at h
          split at h
          · cases hq : qtd u with
            | none => rw [hq] at h; cases h
            | some q =>
              rw [hq] at h
              cases h
              have := qtd_len hq
              simp; omega
          · cases h
      · split at h
        · cases hq : qtd t with
          | none => rw [hq] at h; cases h
          | some q =>
            rw [hq] at h
            cases h
            have := qtd_len hq
            simp; omega
        · cases h
theorem val_len {l : List UInt8} {p : List UInt8 × List UInt8} (h : val l = some p) : p.2.length < l.length := by
  unfold val at h
  split at h
  · have := qtd_len h
    cases l with
    | nil => simp at this
    | cons a t => simp at this ⊢; omega
  · split at h
    · cases h
    · rename_i h1
      cases h
      have e := congrArg List.length (List.takeWhile_append_dropWhile (p := sgn) (l := l))
      rw [List.length_append] at e
      have := List.length_pos_iff.2 h1
      show (l.dropWhile sgn).length < l.length
      omega
theorem prm_len {l : List UInt8} {p : Par × List UInt8} (h : prm l = some p) : p.2.length < l.length := by
  unfold prm at h
  split at h
  · cases h
  · split at h
    · cases hv : val (l.dropWhile sgn).tail with
      | none => rw [hv] at h; cases h
      | some q =>
        rw [hv] at h
        cases h
        have h1 := val_len hv
        have h2 := dropW_len sgn l
        simp only [List.length_tail] at h1
        show q.2.length < l.length
        omega
    · cases h
/-- The parameters, blanks ahead cut off. -/
def rst (l : List UInt8) : Option (List Par) :=
  match l with
  | [] => some []
  | c :: t =>
    if c = 59 then
      if (t.dropWhile blk).head? = none ∨ (t.dropWhile blk).head? = some 59 then rst (t.dropWhile blk)
      else
        match hp : prm (t.dropWhile blk) with
        | none => none
        | some q => (rst (q.2.dropWhile blk)).map (q.1 :: ·)
    else none
termination_by l.length
decreasing_by
  · have := dropW_len blk t; simp; omega
  · have h1 := prm_len hp
    have h2 := dropW_len blk t
    have h3 := dropW_len blk q.2
    simp; omega
/-- A Content-Type. -/
def parse (s : List UInt8) : Option Med :=
  if (s.dropWhile blk).takeWhile sgn = [] then none
  else if ((s.dropWhile blk).dropWhile sgn).head? = some 47 then
    if (((s.dropWhile blk).dropWhile sgn).tail).takeWhile sgn = [] then none
    else (rst (((((s.dropWhile blk).dropWhile sgn).tail).dropWhile sgn).dropWhile blk)).map fun ps =>
      (lwr ((s.dropWhile blk).takeWhile sgn ++ 47 :: (((s.dropWhile blk).dropWhile sgn).tail).takeWhile sgn), ps)
  else none
/-- A token in lower case. -/
def nam (x : List UInt8) : Bool := !x.isEmpty && x.all sgn && lwr x == x
def typ (t : List UInt8) : Bool := (t.dropWhile sgn).head? == some 47 && nam (t.takeWhile sgn) && nam (t.dropWhile sgn).tail
def tok (v : List UInt8) : Bool := !v.isEmpty && v.all sgn
def mean (c : UInt8) : Bool := c == 34 || c == 92 || wth c
def parOk (p : Par) : Bool := nam p.1 && (tok p.2 || p.2.all mean)
def ok (m : Med) : Bool := typ m.1 && m.2.all parOk
theorem byte_all {P : UInt8 → Prop} (h : ∀ c : Fin 256, P (UInt8.ofNat c)) (c : UInt8) : P c := by
  have := h ⟨c.toNat, c.toNat_lt⟩
  simpa using this
theorem dropW_app {p : UInt8 → Bool} {a b : List UInt8} (ha : a.all p = true) (hb : ∀ c, b.head? = some c → p c = false) : (a ++ b).dropWhile p = b := by
  rw [List.dropWhile_append_of_pos (by simpa using ha)]
  cases b with
  | nil => simp
  | cons c t => rw [List.dropWhile_cons, if_neg (by simp [hb c rfl])]
theorem dropW_self {p : UInt8 → Bool} {b : List UInt8} (hb : ∀ c, b.head? = some c → p c = false) : b.dropWhile p = b := by
  have := dropW_app (p := p) (a := []) rfl hb
  simpa using this
theorem rst_nil : rst [] = some [] := by unfold rst; rfl
theorem rst_other {c : UInt8} {t : List UInt8} (h : c ≠ 59) : rst (c :: t) = none := by
  rw [rst.eq_def]; simp only; rw [if_neg h]
theorem rst_empty {t : List UInt8} (h : (t.dropWhile blk).head? = none ∨ (t.dropWhile blk).head? = some 59) : rst (59 :: t) = rst (t.dropWhile blk) := by
  rw [rst.eq_def]; simp only; rw [if_pos trivial, if_pos h]
theorem rst_bad {t : List UInt8} (h : ¬ ((t.dropWhile blk).head? = none ∨ (t.dropWhile blk).head? = some 59)) (hp : prm (t.dropWhile blk) = none) : rst (59 :: t) = none := by
  rw [rst.eq_def]; simp only; rw [if_pos trivial, if_neg h]
  split
  · rfl
  · rename_i q hq; rw [hp] at hq; cases hq
theorem rst_par {t : List UInt8} {q : Par × List UInt8} (h : ¬ ((t.dropWhile blk).head? = none ∨ (t.dropWhile blk).head? = some 59)) (hp : prm (t.dropWhile blk) = some q) : rst (59 :: t) = (rst (q.2.dropWhile blk)).map (q.1 :: ·) := by
  rw [rst.eq_def]; simp only; rw [if_pos trivial, if_neg h]
  split
  · rename_i hq; rw [hp] at hq; cases hq
  · rename_i q' hq; rw [hp] at hq; cases hq; rfl
/-! Blanks and empty parameters behind. -/
theorem qtd_34 (t : List UInt8) : qtd (34 :: t) = some ([], t) := by rw [qtd.eq_def]; rfl
theorem qtd_bs0 : qtd [92] = none := by rw [qtd.eq_def]; rfl
theorem qtd_bs (d : UInt8) (u : List UInt8) : qtd (92 :: d :: u) = if esc d then (qtd u).map fun p => (d :: p.1, p.2) else none := by
  rw [qtd.eq_def]; simp only; rw [if_neg (by decide), if_pos trivial]
theorem qtd_c {c : UInt8} (h34 : c ≠ 34) (h92 : c ≠ 92) (t : List UInt8) : qtd (c :: t) = if wth c then (qtd t).map fun p => (c :: p.1, p.2) else none := by
  rw [qtd.eq_def]; simp only; rw [if_neg h34, if_neg h92]
end Go.Proofs.YtppabkllconkjaaGreatDoor.Med
/- The mathematics of declarations: mark, shape, parts; nothing of the program. -/
namespace Go.Proofs.YtppabkllconkjaaGreatDoor.Dec
open Go.RowKit
set_option linter.unusedVariables false
set_option linter.unusedSimpArgs false
set_option maxRecDepth 100000
/-- White space. -/
def wht (c : UInt8) : Bool := c == 9 || c == 10 || c == 13 || c == 32
def ltr (c : UInt8) : Bool := decide (97 ≤ c) && decide (c ≤ 122)
abbrev Prt := List UInt8 × List UInt8
/-- The mark at the front: the encoding and how many bytes it has. -/
def mrk (l : List UInt8) : Option (Nat × Nat) :=
  if [239, 187, 191].isPrefixOf l then some (0, 3) else if [255, 254].isPrefixOf l then some (1, 2) else if [254, 255].isPrefixOf l then some (2, 2) else none
def mrkN (l : List UInt8) : Nat := ((mrk l).map (·.2)).getD 0
/-- Without its mark. -/
def cut (l : List UInt8) : List UInt8 := l.drop (mrkN l)
/-- The shape at the front. -/
def shp (l : List UInt8) : Option Nat :=
  if [60, 0, 63, 0].isPrefixOf l then some 1 else if [0, 60, 0, 63].isPrefixOf l then some 2 else none
/-- What stands ahead of the first "?>". -/
def upto : List UInt8 → Option (List UInt8)
  | [] => none
  | c :: t => if c = 63 ∧ t.head? = some 62 then some [] else (upto t).map (c :: ·)
/-- What stands between "<?xml" and "?>". -/
def ins (b : List UInt8) : Option (List UInt8) :=
  if [60, 63, 120, 109, 108].isPrefixOf b = true ∧ (b.drop 5).head?.any wht = true then upto (b.drop 5) else none
def dcl (b : List UInt8) : Option (List UInt8) := ins (b.take 200)
/-- A value in quotes. -/
def qvl (n : List UInt8) : List UInt8 → Option (Prt × List UInt8)
  | [] => none
  | q :: t => if (q = 34 ∨ q = 39) ∧ q ∈ t then some ((n, t.takeWhile (· != q)), (t.dropWhile (· != q)).tail) else none
/-- The part that stands at the front, and the rest. -/
def prt (l : List UInt8) : Option (Prt × List UInt8) :=
  if l.takeWhile wht = [] ∨ (l.dropWhile wht).takeWhile ltr = [] then none
  else if (((l.dropWhile wht).dropWhile ltr).dropWhile wht).head? = some 61 then qvl ((l.dropWhile wht).takeWhile ltr) ((((l.dropWhile wht).dropWhile ltr).dropWhile wht).tail.dropWhile wht)
  else none
theorem dw_len (p : UInt8 → Bool) (l : List UInt8) : (l.dropWhile p).length ≤ l.length := (List.dropWhile_sublist p (l := l)).length_le
theorem qvl_cons (n : List UInt8) (q : UInt8) (t : List UInt8) : qvl n (q :: t) = if (q = 34 ∨ q = 39) ∧ q ∈ t then some ((n, t.takeWhile (· != q)), (t.dropWhile (· != q)).tail) else none := rfl
theorem qvl_len {n l : List UInt8} {p : Prt × List UInt8} (h : qvl n l = some p) : p.2.length < l.length := by
  cases l with
  | nil => cases h
  | cons q t =>
    rw [qvl_cons] at h
    by_cases hc : (q = 34 ∨ q = 39) ∧ q ∈ t
    · rw [if_pos hc] at h
      cases h
      have h1 := dw_len (· != q) t
      show ((t.dropWhile (· != q)).tail).length < t.length + 1
      rw [List.length_tail]; omega
    · rw [if_neg hc] at h; cases h
theorem prt_len {l : List UInt8} {p : Prt × List UInt8} (h : prt l = some p) : p.2.length < l.length := by
  unfold prt at h
  split at h
  · cases h
  · split at h
    · have h1 := qvl_len h
      have h2 := dw_len wht ((((l.dropWhile wht).dropWhile ltr).dropWhile wht).tail)
      rw [List.length_tail] at h2
      have h3 := dw_len wht ((l.dropWhile wht).dropWhile ltr)
      have h4 := dw_len ltr (l.dropWhile wht)
      have h5 := dw_len wht l
      omega
    · cases h
/-- The parts, from the front on. -/
def pts (l : List UInt8) : List Prt :=
  match h : prt l with
  | none => []
  | some p => p.1 :: pts p.2
termination_by l.length
decreasing_by exact prt_len h
theorem pts_none {l : List UInt8} (h : prt l = none) : pts l = [] := by
  rw [pts]; split
  · rfl
  · rename_i h1; rw [h] at h1; cases h1
theorem pts_some {l : List UInt8} {p : Prt × List UInt8} (h : prt l = some p) : pts l = p.1 :: pts p.2 := by
  rw [pts]; split
  · rename_i h1; rw [h] at h1; cases h1
  · rename_i q h1; rw [h] at h1; cases h1; rfl
/-- The declaration's parts. -/
def prts (b : List UInt8) : List Prt := match dcl b with
  | none => []
  | some s => pts s
def enc8 : List UInt8 := [101, 110, 99, 111, 100, 105, 110, 103]
def fnd (l : List Prt) : Option (List UInt8) := (l.find? fun p => p.1 == enc8).map (·.2)
/-- What it declares. -/
def scn (b : List UInt8) : Option (List UInt8) := fnd (prts b)
/-! What follows. -/
theorem pre_len {p b : List UInt8} (h : p.isPrefixOf b = true) : p.length ≤ b.length := by
  rw [List.isPrefixOf_iff_prefix] at h
  exact h.length_le
/-! Made of parts. -/
/-- A part as it is made. -/
def mk1 (p : Prt) : List UInt8 := 32 :: (p.1 ++ (61 :: 34 :: (p.2 ++ [34])))
def mk (l : List Prt) : List UInt8 := l.flatMap mk1
theorem pts_nil : pts [] = [] := pts_none rfl
def frontX : List UInt8 := [60, 63, 120, 109, 108]
/-! Never two of them together. -/
theorem mrk_len {b : List UInt8} : mrkN b ≤ b.length := by
  unfold mrkN mrk
  split
  · rename_i h; exact pre_len h
  · split
    · rename_i h; exact pre_len h
    · split
      · rename_i h; exact pre_len h
      · exact Nat.zero_le _
/-- Where bytes of a kind that begin at k end. -/
def endW (p : UInt8 → Bool) (l : List UInt8) (k : Nat) : Nat := k + ((l.drop k).takeWhile p).length
theorem endW_out {p : UInt8 → Bool} {l : List UInt8} {k : Nat} (h : l.length ≤ k) : endW p l k = k := by unfold endW; rw [List.drop_eq_nil_of_le h]; rfl
theorem endW_go {p : UInt8 → Bool} {l : List UInt8} {k : Nat} (h : k < l.length) (hp : p l[k] = true) : endW p l k = endW p l (k + 1) := by
  unfold endW; rw [List.drop_eq_getElem_cons h, List.takeWhile_cons, if_pos hp]; simp; omega
theorem endW_stop {p : UInt8 → Bool} {l : List UInt8} {k : Nat} (h : k < l.length) (hp : p l[k] = false) : endW p l k = k := by
  unfold endW; rw [List.drop_eq_getElem_cons h, List.takeWhile_cons, if_neg (by simp [hp])]; rfl
theorem endW_ge (p : UInt8 → Bool) (l : List UInt8) (k : Nat) : k ≤ endW p l k := Nat.le_add_right _ _
theorem endW_le {p : UInt8 → Bool} {l : List UInt8} {k : Nat} (h : k ≤ l.length) : endW p l k ≤ l.length := by
  unfold endW
  have := (List.takeWhile_sublist p (l := l.drop k)).length_le
  rw [List.length_drop] at this; omega
theorem drop_take (p : UInt8 → Bool) (l : List UInt8) : l.drop (l.takeWhile p).length = l.dropWhile p := by
  induction l with
  | nil => rfl
  | cons a t ih =>
    rw [List.takeWhile_cons, List.dropWhile_cons]
    by_cases h : p a = true
    · rw [if_pos h, if_pos h]; simpa using ih
    · rw [if_neg h, if_neg h]; rfl
theorem take_take (p : UInt8 → Bool) (l : List UInt8) : l.take (l.takeWhile p).length = l.takeWhile p := by
  induction l with
  | nil => rfl
  | cons a t ih =>
    rw [List.takeWhile_cons]
    by_cases h : p a = true
    · rw [if_pos h]; simpa using ih
    · rw [if_neg h]; rfl
theorem drop_end (p : UInt8 → Bool) (l : List UInt8) (k : Nat) : l.drop (endW p l k) = (l.drop k).dropWhile p := by
  unfold endW; rw [← List.drop_drop, drop_take]
theorem slice_end (p : UInt8 → Bool) (l : List UInt8) (k : Nat) : (l.drop k).take (endW p l k - k) = (l.drop k).takeWhile p := by
  unfold endW; rw [Nat.add_sub_cancel_left, take_take]
theorem tw_nil {p : UInt8 → Bool} {l : List UInt8} {a : Nat} : (l.drop a).takeWhile p = [] ↔ endW p l a = a := by
  unfold endW
  constructor
  · intro h; rw [h]; rfl
  · intro h; exact List.eq_nil_of_length_eq_zero (by omega)
theorem endW_at {p : UInt8 → Bool} {l : List UInt8} {k : Nat} (h : endW p l k < l.length) : p l[endW p l k] = false := by
  have h1 := List.head?_dropWhile_not p (l.drop k)
  rw [← drop_end, List.head?_drop, List.getElem?_eq_getElem h] at h1
  simpa using h1
theorem endW_mem {p : UInt8 → Bool} {l : List UInt8} {k : Nat} (hk : k ≤ l.length) : endW p l k < l.length ↔ ∃ c ∈ l.drop k, p c = false := by
  constructor
  · intro h
    refine ⟨l[endW p l k], ?_, endW_at h⟩
    have : l[endW p l k] ∈ l.drop (endW p l k) := by rw [List.drop_eq_getElem_cons h]; exact List.mem_cons_self
    rw [drop_end] at this
    exact (List.dropWhile_sublist p).subset this
  · rintro ⟨c, hc, hp⟩
    have h0 := endW_le (p := p) hk
    rcases Nat.lt_or_ge (endW p l k) l.length with h | h
    · exact h
    · exfalso
      have e : (l.drop k).dropWhile p = [] := by rw [← drop_end, List.drop_eq_nil_of_le h]
      have e2 := List.takeWhile_append_dropWhile (p := p) (l := l.drop k)
      rw [e, List.append_nil] at e2
      rw [← e2] at hc
      have := List.all_takeWhile (p := p) (l := l.drop k)
      rw [List.all_eq_true] at this
      rw [this c hc] at hp; cases hp
/-- A part, by its places. -/
theorem prt_idx {l : List UInt8} {a k t e v : Nat} (hk : endW wht l a = k) (ht : endW ltr l k = t) (he : endW wht l t = e) (hv : endW wht l (e + 1) = v) :
    prt (l.drop a) = if k = a ∨ t = k then none else if l[e]? = some 61 then qvl ((l.drop k).take (t - k)) (l.drop v) else none := by
  unfold prt
  have ek : (l.drop a).dropWhile wht = l.drop k := by rw [← drop_end, hk]
  have et : (l.drop k).dropWhile ltr = l.drop t := by rw [← drop_end, ht]
  have ee : (l.drop t).dropWhile wht = l.drop e := by rw [← drop_end, he]
  have ev : (l.drop (e + 1)).dropWhile wht = l.drop v := by rw [← drop_end, hv]
  have en : (l.drop k).takeWhile ltr = (l.drop k).take (t - k) := by rw [← ht, slice_end]
  have c1 : ((l.drop a).takeWhile wht = []) ↔ k = a := by rw [tw_nil, hk]
  have c2 : ((l.drop k).takeWhile ltr = []) ↔ t = k := by rw [tw_nil, ht]
  rw [ek, et, ee, List.tail_drop, ev, List.head?_drop]
  by_cases h : k = a ∨ t = k
  · rw [if_pos h, if_pos (h.imp c1.2 c2.2)]
  · rw [if_neg h, if_neg (fun hh => h (hh.imp c1.1 c2.1)), en]
theorem qvl_out {n l : List UInt8} {v : Nat} (h : l.length ≤ v) : qvl n (l.drop v) = none := by rw [List.drop_eq_nil_of_le h]; rfl
theorem qvl_bad {n l : List UInt8} {v : Nat} (h : v < l.length) (h1 : l[v] ≠ 34) (h2 : l[v] ≠ 39) : qvl n (l.drop v) = none := by
  rw [List.drop_eq_getElem_cons h, qvl_cons, if_neg (fun hh => hh.1.elim h1 h2)]
/-- A value, by its places. -/
theorem qvl_idx {n l : List UInt8} {v i : Nat} (h : v < l.length) (hq : l[v] = 34 ∨ l[v] = 39) (hi : endW (· != l[v]) l (v + 1) = i) :
    qvl n (l.drop v) = if i < l.length then some ((n, (l.drop (v + 1)).take (i - (v + 1))), l.drop (i + 1)) else none := by
  rw [List.drop_eq_getElem_cons h, qvl_cons]
  have hm : i < l.length ↔ l[v] ∈ l.drop (v + 1) := by
    rw [← hi, endW_mem h]
    constructor
    · rintro ⟨c, hc, he⟩
      have : c = l[v] := by simpa using he
      exact this ▸ hc
    · intro hc; exact ⟨l[v], hc, by simp⟩
  by_cases hh : i < l.length
  · rw [if_pos hh, if_pos ⟨hq, hm.1 hh⟩, ← slice_end, ← drop_end, List.tail_drop, hi]
  · rw [if_neg hh, if_neg (fun x => hh (hm.2 x.2))]
/-! What stands ahead of the first "?>", by its places. -/
theorem upto_hit {l : List UInt8} {i : Nat} (h : i + 1 < l.length) (h1 : l[i] = 63) (h2 : l[i + 1] = 62) : upto (l.drop i) = some [] := by
  rw [List.drop_eq_getElem_cons (show i < l.length by omega)]
  unfold upto
  rw [if_pos ⟨h1, by rw [List.head?_drop, List.getElem?_eq_getElem h, h2]⟩]
theorem upto_miss {l : List UInt8} {i : Nat} (h : i + 1 < l.length) (hn : ¬(l[i] = 63 ∧ l[i + 1] = 62)) : upto (l.drop i) = (upto (l.drop (i + 1))).map (l[i] :: ·) := by
  rw [List.drop_eq_getElem_cons (show i < l.length by omega)]
  rw [upto, if_neg (by
    rintro ⟨h1, h2⟩
    rw [List.head?_drop, List.getElem?_eq_getElem h] at h2
    exact hn ⟨h1, by simpa using h2⟩)]
theorem upto_out {l : List UInt8} {i : Nat} (h : l.length ≤ i + 1) : upto (l.drop i) = none := by
  rcases Nat.lt_or_ge i l.length with h1 | h1
  · have : l.drop (i + 1) = [] := List.drop_eq_nil_of_le h
    rw [List.drop_eq_getElem_cons h1, upto, this, if_neg (fun hh => by cases hh.2)]
    rfl
  · rw [List.drop_eq_nil_of_le h1]; rfl
/-- From a place on nothing was found up to another one. -/
def Miss (l : List UInt8) (a i : Nat) : Prop := upto (l.drop a) = (upto (l.drop i)).map ((l.drop a).take (i - a) ++ ·)
theorem Miss.start (l : List UInt8) (a : Nat) : Miss l a a := by
  unfold Miss
  rw [Nat.sub_self]
  cases upto (l.drop a) <;> rfl
theorem Miss.step {l : List UInt8} {a i : Nat} (h : Miss l a i) (ha : a ≤ i) (hi : i + 1 < l.length) (hn : ¬(l[i] = 63 ∧ l[i + 1] = 62)) : Miss l a (i + 1) := by
  unfold Miss at h ⊢
  rw [h, upto_miss hi hn]
  have e : (l.drop a).take (i + 1 - a) = (l.drop a).take (i - a) ++ [l[i]] := by
    have e1 : i + 1 - a = i - a + 1 := by omega
    have e2 : (l.drop a)[i - a]? = some l[i] := by
      rw [List.getElem?_drop, show a + (i - a) = i by omega, List.getElem?_eq_getElem (show i < l.length by omega)]
    rw [e1, List.take_add_one, e2]; rfl
  rw [e]
  cases upto (l.drop (i + 1)) with
  | none => rfl
  | some s => simp
theorem Miss.hit {l : List UInt8} {a i : Nat} (h : Miss l a i) (hi : i + 1 < l.length) (h1 : l[i] = 63) (h2 : l[i + 1] = 62) : upto (l.drop a) = some ((l.drop a).take (i - a)) := by
  unfold Miss at h
  rw [h, upto_hit hi h1 h2]; simp
theorem Miss.out {l : List UInt8} {a i : Nat} (h : Miss l a i) (hi : l.length ≤ i + 1) : upto (l.drop a) = none := by
  unfold Miss at h
  rw [h, upto_out hi]; rfl
/-! The first part so called, by its place; parts one by one. -/
theorem fnd_hit {l : List Prt} {i : Nat} (h : i < l.length) (he : l[i].1 = enc8) : fnd (l.drop i) = some l[i].2 := by
  unfold fnd
  rw [List.drop_eq_getElem_cons h, List.find?_cons_of_pos (by simp [he])]; rfl
theorem fnd_miss {l : List Prt} {i : Nat} (h : i < l.length) (he : l[i].1 ≠ enc8) : fnd (l.drop i) = fnd (l.drop (i + 1)) := by
  unfold fnd
  rw [List.drop_eq_getElem_cons h, List.find?_cons_of_neg (by simp [he])]
theorem fnd_out {l : List Prt} {i : Nat} (h : l.length ≤ i) : fnd (l.drop i) = none := by
  rw [List.drop_eq_nil_of_le h]; rfl
/-- No more parts than bytes. -/
theorem pts_len (l : List UInt8) : (pts l).length ≤ l.length := by
  suffices ∀ n (l : List UInt8), l.length ≤ n → (pts l).length ≤ l.length from this _ l (Nat.le_refl _)
  intro n
  induction n with
  | zero =>
    intro l hl
    have : l = [] := List.eq_nil_of_length_eq_zero (by omega)
    subst this; rw [pts_nil]; simp
  | succ n ih =>
    intro l hl
    cases hp : prt l with
    | none => rw [pts_none hp]; simp
    | some p =>
      have h1 := prt_len hp
      have h2 := ih p.2 (by omega)
      rw [pts_some hp, List.length_cons]; omega
theorem ins_len {b s : List UInt8} (h : dcl b = some s) : s.length ≤ 200 := by
  have hu : ∀ (l s : List UInt8), upto l = some s → s.length ≤ l.length := by
    intro l
    induction l with
    | nil => intro s h; cases h
    | cons c t ih =>
      intro s h
      rw [upto] at h
      split at h
      · cases h; simp
      · cases hx : upto t with
        | none => rw [hx] at h; cases h
        | some s' =>
          rw [hx] at h; cases h
          have := ih s' hx
          simp; omega
  unfold dcl ins at h
  split at h
  case isTrue =>
    have := hu _ _ h
    rw [List.length_drop, List.length_take] at this; omega
  case isFalse => cases h
theorem prts_len (b : List UInt8) : (prts b).length ≤ 200 := by
  unfold prts
  cases hd : dcl b with
  | none => simp
  | some s => exact Nat.le_trans (pts_len s) (ins_len hd)
end Go.Proofs.YtppabkllconkjaaGreatDoor.Dec
