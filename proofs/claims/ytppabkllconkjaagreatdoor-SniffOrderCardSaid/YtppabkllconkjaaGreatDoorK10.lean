/- Joined: MA, MAA. -/
import Derived.BigQuiet
import Derived.Deep.AppendLies
import Derived.Deep.DeepCutAuto
import Derived.Deep.LoopGhost
import Derived.Deep.QuietTactic
import Derived.Deep.RegionHeld3
import Derived.Laws.AppendOwn
import Derived.Lib.Hide
import Derived.LoopN
import Derived.Maps.AppendAt
import Derived.OpenShut
import Derived.Outline
import Derived.ProofKit
import Derived.StillTailTactics
import Derived.Test.YtppabkllconkjaaGreatDoorRows
import Derived.WalkKit
import Derived.WalkMore
import Derived.Test.YtppabkllconkjaaGreatDoorK09
/- The mathematics of the reader of Content-Types, place by place; nothing of the program. -/
namespace Go.Proofs.YtppabkllconkjaaGreatDoor.Med
open Go.RowKit
set_option linter.unusedVariables false
set_option linter.unusedSimpArgs false
set_option maxRecDepth 100000
/-- The kind of a byte, or of the end. -/
def knd : Option UInt8 → Nat
  | none => 0
  | some c => if c = 32 ∨ c = 9 then 1 else if c ≤ 32 ∨ c = 127 then 0 else if 65 ≤ c ∧ c ≤ 90 then 3
    else if (97 ≤ c ∧ c ≤ 122) ∨ (48 ≤ c ∧ c ≤ 57) ∨ [33, 35, 36, 37, 38, 39, 42, 43, 45, 46, 94, 95, 96, 124, 126].contains c = true then 2
    else if c = 34 ∨ c = 92 then 4 else if c < 128 then 5 else 6
def inS (k : Nat) (c : Option UInt8) : Bool := k.testBit (knd c)
theorem in12 (c : UInt8) : inS 12 (some c) = sgn c := by
  revert c; exact byte_all (by decide +kernel)
theorem in2 (c : UInt8) : inS 2 (some c) = blk c := by
  revert c; exact byte_all (by decide +kernel)
theorem in110 (c : UInt8) : inS 110 (some c) = wth c := by
  revert c; exact byte_all (by decide +kernel)
theorem in62 (c : UInt8) : inS 62 (some c) = esc c := by
  revert c; exact byte_all (by decide +kernel)
theorem in12n : inS 12 none = false := rfl
theorem in2n : inS 2 none = false := rfl
theorem in110n : inS 110 none = false := rfl
theorem in62n : inS 62 none = false := rfl
theorem in32_47 : inS 32 (some 47) = true := by decide
theorem knd_lt (c : Option UInt8) : knd c < 7 := by
  cases c with
  | none => decide
  | some c => unfold knd; repeat' split
              all_goals omega
/-- What was read: the type, the parameters, the word that is not over. -/
structure St where
  ty : List UInt8
  ps : List Par
  wd : List UInt8
/-- The last parameter's value. -/
def setL (v : List UInt8) : List Par → List Par
  | [] => []
  | [p] => [(p.1, v)]
  | p :: q :: t => p :: setL v (q :: t)
theorem setL_snoc (v : List UInt8) : ∀ (qs : List Par) (p : Par), setL v (qs ++ [p]) = qs ++ [(p.1, v)]
  | [], p => rfl
  | [q], p => rfl
  | q :: r :: t, p => by
    show q :: setL v ((r :: t) ++ [p]) = _
    rw [setL_snoc v (r :: t) p]; rfl
theorem setL_len (v : List UInt8) : ∀ qs : List Par, (setL v qs).length = qs.length
  | [] => rfl
  | [q] => rfl
  | q :: r :: t => by show (setL v (r :: t)).length + 1 = _; rw [setL_len v (r :: t)]; rfl
def vl (s : St) : St := ⟨s.ty, setL s.wd s.ps, []⟩
def kp (k pl : Nat) (c : Option UInt8) (s : St) : Nat × St := if inS k c = true then (pl, ⟨s.ty, s.ps, s.wd ++ c.toList⟩) else (0, s)
def beh (c : Option UInt8) : Nat := if c = none then 1 else if c = some 59 then 7 else if inS 2 c = true then 6 else 0
def stp (a : Nat) (c : Option UInt8) (s : St) : Nat × St :=
  match a with
  | 2 => if inS 2 c = true then (2, s) else kp 12 3 c s
  | 3 => if c = some 47 then kp 32 4 c s else kp 12 3 c s
  | 4 => kp 12 5 c s
  | 5 => if inS 12 c = true then kp 12 5 c s else (beh c, ⟨lwr s.wd, s.ps, []⟩)
  | 6 => (beh c, s)
  | 7 => if c = none then (1, s) else if c = some 59 ∨ inS 2 c = true then (7, s) else kp 12 8 c s
  | 8 => if c = some 61 then (9, ⟨s.ty, s.ps ++ [(lwr s.wd, [])], []⟩) else kp 12 8 c s
  | 9 => if c = some 34 then (11, s) else kp 12 10 c s
  | 10 => if inS 12 c = true then kp 12 10 c s else (beh c, vl s)
  | 11 => if c = some 34 then (6, vl s) else if c = some 92 then (12, s) else kp 110 11 c s
  | 12 => kp 62 11 c s
  | _ => (0, s)
def run : Nat → List UInt8 → St → Option Med
  | a, [], s => if (stp a none s).1 = 0 then none else if (stp a none s).1 = 1 then some ((stp a none s).2.ty, (stp a none s).2.ps) else none
  | a, c :: t, s => if (stp a (some c) s).1 = 0 then none else if (stp a (some c) s).1 = 1 then some ((stp a (some c) s).2.ty, (stp a (some c) s).2.ps) else run (stp a (some c) s).1 t (stp a (some c) s).2
theorem run_eq (a : Nat) (l : List UInt8) (s : St) : run a l s = if (stp a l.head? s).1 = 0 then none else if (stp a l.head? s).1 = 1 then some ((stp a l.head? s).2.ty, (stp a l.head? s).2.ps) else match l with
    | [] => none
    | _ :: t => run (stp a l.head? s).1 t (stp a l.head? s).2 := by
  cases l <;> rfl
theorem run_same {a b : Nat} {l : List UInt8} {s s' : St} (h : stp a l.head? s = stp b l.head? s') : run a l s = run b l s' := by
  rw [run_eq, run_eq b, h]
theorem run_on {a b : Nat} {c : UInt8} {t : List UInt8} {s s' : St} (h : stp a (some c) s = (b, s')) (h0 : b ≠ 0) (h1 : b ≠ 1) : run a (c :: t) s = run b t s' := by
  rw [run_eq]; simp only [List.head?_cons, h]; rw [if_neg h0, if_neg h1]
theorem run_bad {a : Nat} {l : List UInt8} {s : St} (h : (stp a l.head? s).1 = 0) : run a l s = none := by
  rw [run_eq, if_pos h]
theorem run_over {a : Nat} {l : List UInt8} {s s' : St} (h : stp a l.head? s = (1, s')) : run a l s = some (s'.ty, s'.ps) := by
  rw [run_eq, h]; rfl
theorem kp_yes {k pl : Nat} {c : UInt8} {s : St} (h : inS k (some c) = true) : kp k pl (some c) s = (pl, ⟨s.ty, s.ps, s.wd ++ [c]⟩) := by unfold kp; rw [if_pos h]; rfl
theorem kp_no {k pl : Nat} {c : Option UInt8} {s : St} (h : inS k c = false) : kp k pl c s = (0, s) := by unfold kp; rw [if_neg (by simp [h])]
theorem head_drop (p : UInt8 → Bool) (l : List UInt8) : ∀ c, (l.dropWhile p).head? = some c → p c = false := by
  intro c hc
  have h1 := List.head?_dropWhile_not p l
  rw [hc] at h1; simpa using h1
theorem run2 : ∀ (l : List UInt8) (s : St), run 2 l s = run 2 (l.dropWhile blk) s
  | [], s => rfl
  | c :: t, s => by
    rw [List.dropWhile_cons]
    by_cases h : blk c = true
    · rw [if_pos h, run_on (b := 2) (s' := s) (by simp [stp, in2, h]) (by decide) (by decide)]; exact run2 t s
    · rw [if_neg h]
theorem run3 : ∀ (l : List UInt8) (s : St), run 3 l s = if (l.dropWhile sgn).head? = some 47 then run 4 (l.dropWhile sgn).tail ⟨s.ty, s.ps, s.wd ++ l.takeWhile sgn ++ [47]⟩ else none
  | [], s => by
    rw [run_bad (by simp [stp, kp, in12n])]; rfl
  | c :: t, s => by
    by_cases h : sgn c = true
    · have h47 : c ≠ 47 := by rintro rfl; exact absurd h (by decide)
      rw [run_on (b := 3) (s' := ⟨s.ty, s.ps, s.wd ++ [c]⟩) (by simp [stp, h47, kp, in12, h]) (by decide) (by decide), run3 t, List.dropWhile_cons, if_pos h, List.takeWhile_cons, if_pos h]
      simp
    · rw [List.dropWhile_cons, if_neg h, List.takeWhile_cons, if_neg h]
      simp only [List.head?_cons, List.tail_cons, List.append_nil]
      by_cases h47 : c = 47
      · subst h47
        rw [if_pos rfl, run_on (b := 4) (s' := ⟨s.ty, s.ps, s.wd ++ [47]⟩) (by simp [stp, kp, in32_47]) (by decide) (by decide)]
      · rw [if_neg (by simpa using h47), run_bad (by simp [stp, h47, kp, in12, h])]
theorem run5 : ∀ (l : List UInt8) (s : St), run 5 l s = run 6 (l.dropWhile sgn) ⟨lwr (s.wd ++ l.takeWhile sgn), s.ps, []⟩
  | [], s => by
    refine run_same ?_
    simp [stp, in12n]
  | c :: t, s => by
    by_cases h : sgn c = true
    · rw [run_on (b := 5) (s' := ⟨s.ty, s.ps, s.wd ++ [c]⟩) (by simp [stp, kp, in12, h]) (by decide) (by decide), run5 t, List.dropWhile_cons, if_pos h, List.takeWhile_cons, if_pos h]
      simp
    · rw [List.dropWhile_cons, if_neg h, List.takeWhile_cons, if_neg h]
      refine run_same ?_
      simp [stp, in12, h]
theorem run6 : ∀ (l : List UInt8) (s : St), run 6 l s = run 6 (l.dropWhile blk) s
  | [], s => rfl
  | c :: t, s => by
    rw [List.dropWhile_cons]
    by_cases h : blk c = true
    · have h59 : c ≠ 59 := by rintro rfl; exact absurd h (by decide)
      rw [if_pos h, run_on (b := 6) (s' := s) (by simp [stp, beh, h59, in2, h]) (by decide) (by decide)]; exact run6 t s
    · rw [if_neg h]
theorem run7 : ∀ (l : List UInt8) (s : St), run 7 l s = run 7 (l.dropWhile blk) s
  | [], s => rfl
  | c :: t, s => by
    rw [List.dropWhile_cons]
    by_cases h : blk c = true
    · rw [if_pos h, run_on (b := 7) (s' := s) (by simp [stp, in2, h]) (by decide) (by decide)]; exact run7 t s
    · rw [if_neg h]
theorem run8 : ∀ (l : List UInt8) (s : St), run 8 l s = if (l.dropWhile sgn).head? = some 61 then run 9 (l.dropWhile sgn).tail ⟨s.ty, s.ps ++ [(lwr (s.wd ++ l.takeWhile sgn), [])], []⟩ else none
  | [], s => by
    rw [run_bad (by simp [stp, kp, in12n])]; rfl
  | c :: t, s => by
    by_cases h : sgn c = true
    · have h61 : c ≠ 61 := by rintro rfl; exact absurd h (by decide)
      rw [run_on (b := 8) (s' := ⟨s.ty, s.ps, s.wd ++ [c]⟩) (by simp [stp, h61, kp, in12, h]) (by decide) (by decide), run8 t, List.dropWhile_cons, if_pos h, List.takeWhile_cons, if_pos h]
      simp
    · rw [List.dropWhile_cons, if_neg h, List.takeWhile_cons, if_neg h]
      simp only [List.head?_cons, List.tail_cons, List.append_nil]
      by_cases h61 : c = 61
      · subst h61
        rw [if_pos rfl, run_on (b := 9) (s' := ⟨s.ty, s.ps ++ [(lwr s.wd, [])], []⟩) (by simp [stp]) (by decide) (by decide)]
      · rw [if_neg (by simpa using h61), run_bad (by simp [stp, h61, kp, in12, h])]
theorem run10 : ∀ (l : List UInt8) (s : St), run 10 l s = run 6 (l.dropWhile sgn) (vl ⟨s.ty, s.ps, s.wd ++ l.takeWhile sgn⟩)
  | [], s => by
    refine run_same ?_
    simp [stp, in12n]
  | c :: t, s => by
    by_cases h : sgn c = true
    · rw [run_on (b := 10) (s' := ⟨s.ty, s.ps, s.wd ++ [c]⟩) (by simp [stp, kp, in12, h]) (by decide) (by decide), run10 t, List.dropWhile_cons, if_pos h, List.takeWhile_cons, if_pos h]
      simp
    · rw [List.dropWhile_cons, if_neg h, List.takeWhile_cons, if_neg h]
      refine run_same ?_
      simp [stp, in12, h]
theorem run11 : ∀ (n : Nat) (l : List UInt8) (s : St), l.length ≤ n → run 11 l s = match qtd l with
    | none => none
    | some q => run 6 q.2 (vl ⟨s.ty, s.ps, s.wd ++ q.1⟩)
  | _, [], s, _ => by
    rw [run_bad (by simp [stp, kp, in110n])]
    unfold qtd; rfl
  | 0, c :: t, s, h => by simp at h
  | n + 1, c :: t, s, hn => by
    simp only [List.length_cons] at hn
    by_cases h34 : c = 34
    · subst h34
      rw [qtd_34, run_on (b := 6) (s' := vl s) (by simp [stp]) (by decide) (by decide)]
      simp
    · by_cases h92 : c = 92
      · subst h92
        rw [run_on (b := 12) (s' := s) (by simp [stp]) (by decide) (by decide)]
        cases t with
        | nil =>
          rw [qtd_bs0, run_bad (by simp [stp, kp, in62n])]
        | cons d u =>
          simp only [List.length_cons] at hn
          rw [qtd_bs]
          by_cases hd : esc d = true
          · rw [if_pos hd, run_on (b := 11) (s' := ⟨s.ty, s.ps, s.wd ++ [d]⟩) (by simp [stp, kp, in62, hd]) (by decide) (by decide), run11 n u _ (by omega)]
            cases qtd u with
            | none => rfl
            | some q => simp
          · rw [if_neg hd, run_bad (by simp [stp, kp, in62, hd])]
      · rw [qtd_c h34 h92]
        by_cases hw : wth c = true
        · rw [if_pos hw, run_on (b := 11) (s' := ⟨s.ty, s.ps, s.wd ++ [c]⟩) (by simp [stp, kp, in110, hw, h34, h92]) (by decide) (by decide), run11 n t _ (by omega)]
          cases qtd t with
          | none => rfl
          | some q => simp
        · rw [if_neg hw, run_bad (by simp [stp, kp, in110, hw, h34, h92])]
theorem run9 (l : List UInt8) (s : St) (h0 : s.wd = []) : run 9 l s = match val l with
    | none => none
    | some q => run 6 q.2 (vl ⟨s.ty, s.ps, q.1⟩) := by
  cases l with
  | nil =>
    rw [run_bad (by simp [stp, kp, in12n])]
    simp [val]
  | cons c t =>
    by_cases h34 : c = 34
    · subst h34
      rw [run_on (b := 11) (s' := s) (by simp [stp]) (by decide) (by decide), run11 _ t s (Nat.le_refl _)]
      unfold val
      rw [List.head?_cons, if_pos rfl, List.tail_cons, h0]
      simp
    · unfold val
      rw [List.head?_cons, if_neg (by simpa using h34)]
      by_cases h : sgn c = true
      · rw [run_on (b := 10) (s' := ⟨s.ty, s.ps, s.wd ++ [c]⟩) (by simp [stp, kp, in12, h, h34]) (by decide) (by decide), run10, if_neg (by rw [List.takeWhile_cons, if_pos h]; simp), List.takeWhile_cons, if_pos h, List.dropWhile_cons, if_pos h, h0]
        simp
      · rw [if_pos (by rw [List.takeWhile_cons, if_neg h]), run_bad (by simp [stp, kp, in12, h, h34])]
theorem run_rst : ∀ (n : Nat) (l : List UInt8) (s : St), l.length ≤ n → s.wd = [] → run 6 l s = (rst (l.dropWhile blk)).map fun q => (s.ty, s.ps ++ q)
  | n, l, s, hn, h0 => by
    rw [run6]
    cases hx : l.dropWhile blk with
    | nil => rw [run_over (s' := s) (by simp [stp, beh]), rst_nil]; simp
    | cons c t =>
      have hl := dropW_len blk l
      rw [hx, List.length_cons] at hl
      have hcb : blk c = false := head_drop blk l c (by rw [hx]; rfl)
      by_cases hc : c = 59
      · subst hc
        cases n with
        | zero => omega
        | succ n =>
        rw [run_on (b := 7) (s' := s) (by simp [stp, beh]) (by decide) (by decide), run7]
        cases hy : t.dropWhile blk with
        | nil =>
          rw [run_over (s' := s) (by simp [stp]), rst_empty (.inl (by rw [hy]; rfl)), hy, rst_nil]; simp
        | cons d v =>
          have hv := dropW_len blk t
          rw [hy, List.length_cons] at hv
          have hdb : blk d = false := head_drop blk t d (by rw [hy]; rfl)
          by_cases hd : d = 59
          · subst hd
            rw [rst_empty (.inr (by rw [hy]; rfl)), hy]
            have h6 := run_rst n (59 :: v) s (by simp; omega) h0
            rw [dropW_self (by intro c hc; cases hc; decide), run_on (b := 7) (s' := s) (by simp [stp, beh]) (by decide) (by decide)] at h6
            rw [run_on (b := 7) (s' := s) (by simp [stp]) (by decide) (by decide), h6]
          · have e2 : ¬ ((t.dropWhile blk).head? = none ∨ (t.dropWhile blk).head? = some 59) := by
              rw [hy, List.head?_cons]; rintro (e | e)
              · cases e
              · cases e; exact hd rfl
            by_cases hs : sgn d = true
            · rw [run_on (b := 8) (s' := ⟨s.ty, s.ps, s.wd ++ [d]⟩) (by simp [stp, kp, in12, in2, hs, hd, hdb]) (by decide) (by decide), run8]
              have hp : prm (d :: v) = if (v.dropWhile sgn).head? = some 61 then (val (v.dropWhile sgn).tail).map fun p => ((lwr (d :: v.takeWhile sgn), p.1), p.2) else none := by
                unfold prm
                rw [List.takeWhile_cons, if_pos hs, if_neg (by simp), List.dropWhile_cons, if_pos hs]
              by_cases h61 : (v.dropWhile sgn).head? = some 61
              · rw [if_pos h61] at hp
                rw [if_pos h61, run9 _ _ rfl]
                cases hv2 : val (v.dropWhile sgn).tail with
                | none =>
                  rw [hv2] at hp
                  rw [rst_bad e2 (by rw [hy]; exact hp)]; rfl
                | some q =>
                  rw [hv2] at hp
                  rw [rst_par (q := ((lwr (d :: v.takeWhile sgn), q.1), q.2)) e2 (by rw [hy]; exact hp)]
                  have hq := val_len hv2
                  have hdw := dropW_len sgn v
                  simp only [List.length_tail] at hq
                  simp only
                  rw [run_rst n q.2 _ (by omega) rfl]
                  simp only [vl, setL_snoc, h0, List.nil_append, List.cons_append, List.singleton_append, Option.map_map]
                  congr 1
                  funext r
                  simp
              · rw [if_neg h61] at hp
                rw [if_neg h61, rst_bad e2 (by rw [hy]; exact hp)]; rfl
            · rw [run_bad (by simp [stp, kp, in12, in2, hs, hd, hdb]), rst_bad e2 (by rw [hy]; unfold prm; rw [List.takeWhile_cons, if_neg hs, if_pos rfl])]; rfl
      · rw [rst_other hc, run_bad (by simp [stp, beh, hc, in2, hcb])]; rfl
/-- Place by place it is read as by definition. -/
theorem run_parse (l : List UInt8) : run 2 l ⟨[], [], []⟩ = parse l := by
  rw [run2]
  unfold parse
  cases hx : l.dropWhile blk with
  | nil => rw [run_bad (by simp [stp, kp, in2n, in12n])]; rfl
  | cons c t =>
    have hcb : blk c = false := head_drop blk l c (by rw [hx]; rfl)
    by_cases hs : sgn c = true
    · rw [run_on (b := 3) (s' := ⟨[], [], [c]⟩) (by simp [stp, kp, in12, in2, hs, hcb]) (by decide) (by decide), run3, List.takeWhile_cons, if_pos hs, List.dropWhile_cons, if_pos hs, if_neg (show ¬ (c :: t.takeWhile sgn = []) by simp)]
      by_cases h47 : (t.dropWhile sgn).head? = some 47
      · rw [if_pos h47, if_pos h47]
        cases hy : (t.dropWhile sgn).tail with
        | nil => rw [run_bad (by simp [stp, kp, in12n])]; rfl
        | cons d v =>
          by_cases hd : sgn d = true
          · rw [run_on (b := 5) (s' := ⟨[], [], [c] ++ t.takeWhile sgn ++ [47] ++ [d]⟩) (by simp [stp, kp, in12, hd]) (by decide) (by decide), run5, run_rst _ _ _ (Nat.le_refl _) rfl, List.takeWhile_cons, if_pos hd, List.dropWhile_cons, if_pos hd, if_neg (show ¬ (d :: v.takeWhile sgn = []) by simp)]
            simp
          · rw [run_bad (by simp [stp, kp, in12, hd]), if_pos (by rw [List.takeWhile_cons, if_neg hd])]
      · rw [if_neg h47, if_neg h47]
    · rw [run_bad (by simp [stp, kp, in12, in2, hs, hcb]), if_pos (by rw [List.takeWhile_cons, if_neg hs])]
/-- What goes on holds. -/
def Inv (a : Nat) (s : St) : Prop := 2 ≤ a ∧ a ≤ 12 ∧ (9 ≤ a → s.ps ≠ [])
theorem inv_start : Inv 2 ⟨[], [], []⟩ := ⟨by decide, by decide, by decide⟩
theorem setL_ne {v : List UInt8} {ps : List Par} (h : ps ≠ []) : setL v ps ≠ [] := by
  intro e
  have := setL_len v ps
  rw [e] at this
  exact h (List.eq_nil_of_length_eq_zero this.symm)
theorem stp_end {a : Nat} {s : St} (h : Inv a s) : (stp a none s).1 = 0 ∨ (stp a none s).1 = 1 := by
  obtain ⟨h1, h2, _⟩ := h
  have : a = 2 ∨ a = 3 ∨ a = 4 ∨ a = 5 ∨ a = 6 ∨ a = 7 ∨ a = 8 ∨ a = 9 ∨ a = 10 ∨ a = 11 ∨ a = 12 := by omega
  rcases this with rfl | rfl | rfl | rfl | rfl | rfl | rfl | rfl | rfl | rfl | rfl <;> simp [stp, kp, in2n, in12n, in110n, in62n, beh]
theorem stp_inv {a : Nat} {c : Option UInt8} {s : St} (h : Inv a s) (h0 : (stp a c s).1 ≠ 0) (h1' : (stp a c s).1 ≠ 1) : Inv (stp a c s).1 (stp a c s).2 := by
  obtain ⟨h1, h2, h3⟩ := h
  have hb : beh c ≠ 0 → beh c ≠ 1 → beh c = 6 ∨ beh c = 7 := by
    unfold beh; repeat' split
    all_goals simp
  have : a = 2 ∨ a = 3 ∨ a = 4 ∨ a = 5 ∨ a = 6 ∨ a = 7 ∨ a = 8 ∨ a = 9 ∨ a = 10 ∨ a = 11 ∨ a = 12 := by omega
  rcases this with rfl | rfl | rfl | rfl | rfl | rfl | rfl | rfl | rfl | rfl | rfl <;> revert h0 h1' <;> simp only [stp, kp] <;> (repeat' split) <;> intro h0 h1' <;> simp only [ne_eq] at h0 h1' <;> simp_all [Inv, vl] <;>
    first
    | (rcases hb with hb | hb <;> simp [hb]; done)
    | exact setL_ne h3
    | trivial
theorem stp_size (a : Nat) (c : Option UInt8) (s : St) : (stp a c s).2.wd.length ≤ s.wd.length + 1 ∧ (stp a c s).2.ps.length ≤ s.ps.length + 1 := by
  unfold stp
  split <;> simp only [kp] <;> (repeat' split) <;> first
    | (simp only [vl, setL_len, List.length_append, List.length_cons, List.length_nil]; omega)
    | (cases c <;> simp [vl, setL_len])
end Go.Proofs.YtppabkllconkjaaGreatDoor.Med
/- How long what is read and written can be; nothing of the program. -/
namespace Go.Proofs.YtppabkllconkjaaGreatDoor.Med
open Go.RowKit
set_option linter.unusedVariables false
set_option linter.unusedSimpArgs false
set_option maxRecDepth 100000
def sumP (ps : List Par) : Nat := (ps.map fun p => p.1.length + p.2.length).sum
/-- How many bytes a Content-Type holds. -/
def tot (m : Med) : Nat := m.1.length + sumP m.2
theorem sumP_cons (p : Par) (t : List Par) : sumP (p :: t) = p.1.length + p.2.length + sumP t := by simp [sumP]
theorem takeD (p : UInt8 → Bool) (l : List UInt8) : (l.takeWhile p).length + (l.dropWhile p).length = l.length := by
  have e := congrArg List.length (List.takeWhile_append_dropWhile (p := p) (l := l))
  rwa [List.length_append] at e
theorem lwr_len (l : List UInt8) : (lwr l).length = l.length := by simp [lwr]
theorem qtd_tot : ∀ (n : Nat) {l : List UInt8} {q : List UInt8 × List UInt8}, l.length ≤ n → qtd l = some q → q.1.length + q.2.length ≤ l.length
  | _, [], q, _, h => by unfold qtd at h; cases h
  | 0, c :: t, q, hn, h => by simp at hn
  | n + 1, c :: t, q, hn, h => by
    simp only [List.length_cons] at hn
    by_cases h34 : c = 34
    · subst h34; rw [qtd_34] at h; cases h; simp
    by_cases h92 : c = 92
    · subst h92
      cases t with
      | nil => rw [qtd_bs0] at h; cases h
      | cons d u =>
        simp only [List.length_cons] at hn
        rw [qtd_bs] at h
        split at h
        · cases hq : qtd u with
          | none => rw [hq] at h; cases h
          | some q2 =>
            rw [hq] at h; cases h
            have := qtd_tot n (by omega) hq
            simp; omega
        · cases h
    · rw [qtd_c h34 h92] at h
      split at h
      · cases hq : qtd t with
        | none => rw [hq] at h; cases h
        | some q2 =>
          rw [hq] at h; cases h
          have := qtd_tot n (by omega) hq
          simp; omega
      · cases h
theorem val_tot {l : List UInt8} {q : List UInt8 × List UInt8} (h : val l = some q) : q.1.length + q.2.length ≤ l.length := by
  unfold val at h
  split at h
  · have := qtd_tot _ (Nat.le_refl _) h
    rw [List.length_tail] at this; omega
  · split at h
    · cases h
    · cases h
      exact Nat.le_of_eq (takeD sgn l)
theorem prm_tot {l : List UInt8} {q : Par × List UInt8} (h : prm l = some q) : q.1.1.length + q.1.2.length + q.2.length + 1 ≤ l.length := by
  unfold prm at h
  split at h
  · cases h
  · split at h
    · rename_i h61
      cases hv : val (l.dropWhile sgn).tail with
      | none => rw [hv] at h; cases h
      | some q2 =>
        rw [hv] at h; cases h
        have h1 := val_tot hv
        have h2 := takeD sgn l
        have h3 : 0 < (l.dropWhile sgn).length := by
          cases hx : l.dropWhile sgn with
          | nil => rw [hx] at h61; cases h61
          | cons a t => simp
        rw [List.length_tail] at h1
        show (lwr (l.takeWhile sgn)).length + q2.1.length + q2.2.length + 1 ≤ _
        rw [lwr_len]; omega
    · cases h
theorem rst_tot : ∀ (n : Nat) {l : List UInt8} {ps : List Par}, l.length ≤ n → rst l = some ps → sumP ps ≤ l.length ∧ ps.length ≤ l.length
  | _, [], ps, _, h => by rw [rst_nil] at h; cases h; simp [sumP]
  | 0, c :: t, ps, hn, h => by simp at hn
  | n + 1, c :: t, ps, hn, h => by
    by_cases hc : c = 59
    · subst hc
      have hd := dropW_len blk t
      simp only [List.length_cons] at hn ⊢
      by_cases he : (t.dropWhile blk).head? = none ∨ (t.dropWhile blk).head? = some 59
      · rw [rst_empty he] at h
        have := rst_tot n (by omega) h
        omega
      · cases hp : prm (t.dropWhile blk) with
        | none => rw [rst_bad he hp] at h; cases h
        | some q =>
          rw [rst_par he hp] at h
          have h1 := prm_tot hp
          have h2 := dropW_len blk q.2
          cases hr : rst (q.2.dropWhile blk) with
          | none => rw [hr] at h; cases h
          | some rs =>
            rw [hr] at h
            cases h
            have := rst_tot n (by omega) hr
            show sumP (q.1 :: rs) ≤ _ ∧ rs.length + 1 ≤ _
            rw [sumP_cons]; omega
    · rw [rst_other hc] at h; cases h
theorem parse_tot {s : List UInt8} {m : Med} (h : parse s = some m) : tot m ≤ s.length ∧ m.2.length ≤ s.length := by
  unfold parse at h
  split at h
  · cases h
  · split at h
    · rename_i h47
      split at h
      · cases h
      · cases hr : rst ((((s.dropWhile blk).dropWhile sgn).tail.dropWhile sgn).dropWhile blk) with
        | none => rw [hr] at h; cases h
        | some ps =>
          rw [hr] at h
          cases h
          have h1 := rst_tot _ (Nat.le_refl _) hr
          have h2 := dropW_len blk s
          have h3 := takeD sgn (s.dropWhile blk)
          have h4 := takeD sgn ((s.dropWhile blk).dropWhile sgn).tail
          have h5 := dropW_len blk (((s.dropWhile blk).dropWhile sgn).tail.dropWhile sgn)
          have h6 : 0 < ((s.dropWhile blk).dropWhile sgn).length := by
            cases hx : (s.dropWhile blk).dropWhile sgn with
            | nil => rw [hx] at h47; cases h47
            | cons a t => simp
          rw [List.length_tail] at h4
          show (lwr _).length + sumP ps ≤ _ ∧ ps.length ≤ _
          rw [lwr_len, List.length_append, List.length_cons]
          omega
    · cases h
theorem medOf_tot (s : List UInt8) : tot ((parse s).getD ([], [])) ≤ s.length ∧ ((parse s).getD ([], [])).2.length ≤ s.length := by
  cases h : parse s with
  | none => simp [tot, sumP]
  | some m => exact parse_tot h
end Go.Proofs.YtppabkllconkjaaGreatDoor.Med
