/- The mathematics of layer 10: the table, what a scalar is made of, what two are the whole of; nothing of the program. -/
import Derived.Test.YtdifocahmephjaaRows
namespace Go.Proofs.Ytdifocahmephjaa.Tab
set_option linter.unusedVariables false
set_option linter.unusedSimpArgs false
set_option maxRecDepth 100000
/-- A whole, its first, its second (nought: none). -/
abbrev Pr := Int × Int × Int
def rowsT : List (Int × List Int) := [(768, [65, 192, 69, 200, 73, 204, 79, 210, 85, 217, 97, 224, 101, 232, 105, 236, 111, 242, 117, 249]), (769, [65, 193, 69, 201, 73, 205, 79, 211, 85, 218, 89, 221, 97, 225, 101, 233, 105, 237, 111, 243, 117, 250, 121, 253, 234, 7871, 252, 472]), (770, [65, 194, 69, 202, 73, 206, 79, 212, 85, 219, 97, 226, 101, 234, 105, 238, 111, 244, 117, 251, 7865, 7879]), (771, [65, 195, 78, 209, 79, 213, 97, 227, 110, 241, 111, 245]), (772, [252, 470]), (774, [1048, 1049, 1080, 1081]), (776, [65, 196, 69, 203, 73, 207, 79, 214, 85, 220, 97, 228, 101, 235, 105, 239, 111, 246, 117, 252, 121, 255, 1045, 1025, 1077, 1105]), (778, [65, 197, 97, 229]), (780, [67, 268, 83, 352, 90, 381, 99, 269, 115, 353, 122, 382]), (803, [101, 7865]), (807, [67, 199, 99, 231])]
def dbls : List Int := [832, 768, 833, 769, 8486, 937, 8490, 75, 8491, 197]
/-- A pair in its place, wholes rising. -/
def putP (l : List Pr) (p : Pr) : List Pr := l.takeWhile (fun q => decide (q.1 < p.1)) ++ p :: l.dropWhile (fun q => decide (q.1 < p.1))
def rowP (m : Int) : List Int → List Pr → List Pr
  | a :: b :: t, acc => rowP m t (putP acc (b, a, m))
  | _, acc => acc
def dblP : List Int → List Pr
  | a :: b :: t => (a, b, 0) :: dblP t
  | _ => []
def prs : List Pr := [(192, 65, 768), (193, 65, 769), (194, 65, 770), (195, 65, 771), (196, 65, 776), (197, 65, 778), (199, 67, 807), (200, 69, 768), (201, 69, 769), (202, 69, 770), (203, 69, 776), (204, 73, 768), (205, 73, 769), (206, 73, 770), (207, 73, 776), (209, 78, 771), (210, 79, 768), (211, 79, 769), (212, 79, 770), (213, 79, 771), (214, 79, 776), (217, 85, 768), (218, 85, 769), (219, 85, 770), (220, 85, 776), (221, 89, 769), (224, 97, 768), (225, 97, 769), (226, 97, 770), (227, 97, 771), (228, 97, 776), (229, 97, 778), (231, 99, 807), (232, 101, 768), (233, 101, 769), (234, 101, 770), (235, 101, 776), (236, 105, 768), (237, 105, 769), (238, 105, 770), (239, 105, 776), (241, 110, 771), (242, 111, 768), (243, 111, 769), (244, 111, 770), (245, 111, 771), (246, 111, 776), (249, 117, 768), (250, 117, 769), (251, 117, 770), (252, 117, 776), (253, 121, 769), (255, 121, 776), (268, 67, 780), (269, 99, 780), (352, 83, 780), (353, 115, 780), (381, 90, 780), (382, 122, 780), (470, 252, 772), (472, 252, 769), (1025, 1045, 776), (1049, 1048, 774), (1081, 1080, 774), (1105, 1077, 776), (7865, 101, 803), (7871, 234, 769), (7879, 7865, 770), (832, 768, 0), (833, 769, 0), (8486, 937, 0), (8490, 75, 0), (8491, 197, 0)]
theorem prs_def : (rowsT.foldl (fun acc r => rowP r.1 r.2 acc) []) ++ dblP dbls = prs := by decide +kernel
def cls (r : Int) : Int :=
  if (768 ≤ r ∧ r ≤ 788) ∨ r = 832 ∨ r = 833 then 230 else if r = 789 then 232 else if (790 ≤ r ∧ r ≤ 793) ∨ (803 ≤ r ∧ r ≤ 806) then 220
  else if r = 795 then 216 else if r = 807 ∨ r = 808 then 202 else if r = 824 then 1 else if r = 837 then 240 else 0
def mrkT (r : Int) : Bool := cls r != 0
def han (r : Int) : Bool := decide (44032 ≤ r ∧ r < 55204)
def made (r : Int) : Int × Int × Bool :=
  if han r = true then (if 0 < (r - 44032) % 28 then (r - (r - 44032) % 28, 4519 + (r - 44032) % 28, true) else (4352 + (r - 44032) / 28 / 21, 4449 + (r - 44032) / 28 % 21, true))
  else match prs.find? (fun p => p.1 == r) with
    | some p => (p.2.1, p.2.2, true)
    | none => (0, 0, false)
def whole (f s : Int) : Int × Bool :=
  if 4352 ≤ f ∧ f < 4371 ∧ 4449 ≤ s ∧ s < 4470 then (44032 + ((f - 4352) * 21 + s - 4449) * 28, true)
  else if han f = true ∧ (f - 44032) % 28 = 0 ∧ 4519 < s ∧ s < 4547 then (f + s - 4519, true)
  else match prs.find? (fun p => p.2.1 == f && p.2.2 == s && p.2.2 != 0) with
    | some p => (p.1, true)
    | none => (0, false)
theorem han_iff {r : Int} : han r = true ↔ 44032 ≤ r ∧ r < 55204 := by simp [han]
theorem prs_whole : ∀ p ∈ prs, han p.1 = false ∧ prs.find? (fun q => q.1 == p.1) = some p := by decide +kernel
theorem prs_two : ∀ p ∈ prs, p.2.2 ≠ 0 → whole p.2.1 p.2.2 = (p.1, true) := by decide +kernel
theorem prs_apart : ∀ p ∈ prs, p.2.1 ≠ p.1 ∧ ¬ (4352 ≤ p.1 ∧ p.1 < 4371) := by decide +kernel
theorem made_at {p : Pr} (h : p ∈ prs) : made p.1 = (p.2.1, p.2.2, true) := by
  obtain ⟨h1, h2⟩ := prs_whole p h
  unfold made
  rw [if_neg (by rw [h1]; decide), h2]
/-- What is told of a scalar that is made of something. -/
theorem made_cases {r a b : Int} (h : made r = (a, b, true)) : (han r = true ∧ 0 < (r - 44032) % 28 ∧ a = r - (r - 44032) % 28 ∧ b = 4519 + (r - 44032) % 28) ∨
    (han r = true ∧ (r - 44032) % 28 = 0 ∧ a = 4352 + (r - 44032) / 28 / 21 ∧ b = 4449 + (r - 44032) / 28 % 21) ∨ (han r = false ∧ (r, a, b) ∈ prs) := by
  unfold made at h
  cases hh : han r with
  | true =>
    rw [if_pos hh] at h
    by_cases ht : 0 < (r - 44032) % 28
    · rw [if_pos ht] at h
      simp only [Prod.mk.injEq, and_true] at h
      exact .inl ⟨rfl, ht, h.1.symm, h.2.symm⟩
    · rw [if_neg ht] at h
      simp only [Prod.mk.injEq, and_true] at h
      exact .inr (.inl ⟨rfl, by omega, h.1.symm, h.2.symm⟩)
  | false =>
    rw [if_neg (by rw [hh]; decide)] at h
    cases hf : prs.find? (fun p => p.1 == r) with
    | none => rw [hf] at h; simp at h
    | some p =>
      rw [hf] at h
      simp only [Prod.mk.injEq, and_true] at h
      have h1 := List.find?_some hf
      have h2 := List.mem_of_find?_eq_some hf
      have h3 : p.1 = r := by simpa using h1
      obtain ⟨p1, p2, p3⟩ := p
      simp only at h h3
      obtain ⟨rfl, rfl⟩ := h
      subst h3
      exact .inr (.inr ⟨rfl, h2⟩)
theorem whole_hangul {f s : Int} (h1 : han f = true) (h2 : (f - 44032) % 28 = 0) (h3 : 4519 < s) (h4 : s < 4547) : whole f s = (f + s - 4519, true) := by
  have := han_iff.1 h1
  unfold whole
  rw [if_neg (by omega), if_pos ⟨h1, h2, h3, h4⟩]
theorem whole_jamo {f s : Int} (h1 : 4352 ≤ f) (h2 : f < 4371) (h3 : 4449 ≤ s) (h4 : s < 4470) : whole f s = (44032 + ((f - 4352) * 21 + s - 4449) * 28, true) := by
  unfold whole
  rw [if_pos ⟨h1, h2, h3, h4⟩]
/-- What is made of two is the whole of just these. -/
theorem made_whole {r a b : Int} (h : made r = (a, b, true)) (hb : b ≠ 0) : whole a b = (r, true) := by
  rcases made_cases h with ⟨h1, h2, rfl, rfl⟩ | ⟨h1, h2, rfl, rfl⟩ | ⟨h1, h2⟩
  · have := han_iff.1 h1
    rw [whole_hangul (han_iff.2 (by omega)) (by omega) (by omega) (by omega)]
    congr 1
    omega
  · have := han_iff.1 h1
    rw [whole_jamo (by omega) (by omega) (by omega) (by omega)]
    congr 1
    omega
  · exact prs_two _ h2 hb
/-- What is the whole of two is made of them. -/
theorem whole_made {f s w : Int} (h : whole f s = (w, true)) : made w = (f, s, true) ∧ s ≠ 0 := by
  unfold whole at h
  split at h
  · rename_i hc
    simp only [Prod.mk.injEq, and_true] at h
    obtain ⟨h1, h2, h3, h4⟩ := hc
    have hh : han w = true := han_iff.2 (by omega)
    unfold made
    rw [if_pos hh, if_neg (by omega)]
    refine ⟨?_, by omega⟩
    simp only [Prod.mk.injEq, and_true]
    constructor <;> omega
  · split at h
    · rename_i hc
      simp only [Prod.mk.injEq, and_true] at h
      obtain ⟨h1, h2, h3, h4⟩ := hc
      have h5 := han_iff.1 h1
      have hh : han w = true := han_iff.2 (by omega)
      unfold made
      rw [if_pos hh, if_pos (by omega)]
      refine ⟨?_, by omega⟩
      simp only [Prod.mk.injEq, and_true]
      constructor <;> omega
    · cases hf : prs.find? (fun p => p.2.1 == f && p.2.2 == s && p.2.2 != 0) with
      | none => rw [hf] at h; simp at h
      | some p =>
        rw [hf] at h
        simp only [Prod.mk.injEq, and_true] at h
        have h1 := List.find?_some hf
        have h2 := List.mem_of_find?_eq_some hf
        simp only [Bool.and_eq_true, beq_iff_eq, bne_iff_ne, ne_eq] at h1
        obtain ⟨⟨e1, e2⟩, e3⟩ := h1
        subst h
        rw [made_at h2, e1, e2]
        exact ⟨rfl, by rw [← e2]; exact e3⟩
/-- No double is a whole of itself. -/
theorem made_apart {r a b : Int} (h : made r = (a, b, true)) : a ≠ r := by
  rcases made_cases h with ⟨h1, h2, rfl, rfl⟩ | ⟨h1, h2, rfl, rfl⟩ | ⟨h1, h2⟩
  · omega
  · have := han_iff.1 h1
    omega
  · exact (prs_apart _ h2).1
/-- What something is made of ends: the law's own walk. -/
def ends : Nat → Int → Bool
  | 0, _ => false
  | n + 1, r => if (made r).2.2 = true then
      (if r < 65 ∨ (made r).1 < 65 ∨ ((made r).2.1 ≠ 0 ∧ (made r).2.1 < 768) ∨ (han r = false ∧ (made r).2.1 ≠ 0 ∧ (mrkT (made r).2.1 = false ∨ mrkT (made r).1 = true)) then false else ends n (made r).1)
      else true
theorem ends_no {n : Nat} {r : Int} (h : (made r).2.2 = false) : ends (n + 1) r = true := by
  unfold ends
  rw [if_neg (by rw [h]; decide)]
theorem ends_prs : ∀ p ∈ prs, ends 5 p.1 = true := by decide +kernel
theorem made_jamo {r : Int} (h : 4352 ≤ r ∧ r < 4371) : (made r).2.2 = false := by
  unfold made
  have hh : ¬ han r = true := fun e => by have := han_iff.1 e; omega
  rw [if_neg hh]
  cases hf : prs.find? (fun p => p.1 == r) with
  | none => rfl
  | some p =>
    exfalso
    have h1 := List.find?_some hf
    have h2 := List.mem_of_find?_eq_some hf
    have h3 : p.1 = r := by simpa using h1
    exact (prs_apart p h2).2 (by rw [h3]; exact h)
theorem ends_two {n : Nat} {r : Int} (h : han r = true) (h0 : (r - 44032) % 28 = 0) : ends (n + 2) r = true := by
  have hr := han_iff.1 h
  have hm : made r = (4352 + (r - 44032) / 28 / 21, 4449 + (r - 44032) / 28 % 21, true) := by
    unfold made; rw [if_pos h, if_neg (by omega)]
  unfold ends
  rw [hm, if_pos rfl, if_neg (by rw [h]; simp only [Bool.true_eq_false, false_and, or_false]; omega)]
  exact ends_no (made_jamo (by dsimp only; omega))
theorem ends_all (r : Int) : ends 5 r = true := by
  cases hm : (made r).2.2 with
  | false => exact ends_no hm
  | true =>
    obtain ⟨a, b, o, hab⟩ : ∃ a b o, made r = (a, b, o) := ⟨_, _, _, rfl⟩
    rw [hab] at hm
    dsimp only at hm
    subst hm
    rcases made_cases hab with ⟨h1, h2, rfl, rfl⟩ | ⟨h1, h2, _, _⟩ | ⟨h1, h2⟩
    · have hr := han_iff.1 h1
      unfold ends
      rw [hab, if_pos rfl, if_neg (by rw [h1]; simp only [Bool.true_eq_false, false_and, or_false]; omega)]
      exact ends_two (n := 2) (han_iff.2 (by dsimp only; omega)) (by dsimp only; omega)
    · exact ends_two (n := 3) h1 h2
    · exact ends_prs _ h2
/-- What wakes asks for. -/
theorem wk_made1 : made 7879 = (7865, 770, true) := by decide +kernel
theorem wk_made2 : made 44033 = (44032, 4520, true) := by decide +kernel
theorem wk_cls : cls 769 = 230 := by decide
end Go.Proofs.Ytdifocahmephjaa.Tab
