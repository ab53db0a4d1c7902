/- The three encodings of single bytes, as plain mathematics; nothing of the program. -/
import Derived.Test.YtgahaehnlbkihaaDoorRows
namespace Go.Proofs.YtgahaehnlbkihaaDoor
set_option linter.unusedVariables false
set_option linter.unusedSimpArgs false
def w52 : List Int := [8364, 129, 8218, 402, 8222, 8230, 8224, 8225, 710, 8240, 352, 8249, 338, 141, 381, 143, 144, 8216, 8217, 8220, 8221, 8226, 8211, 8212, 732, 8482, 353, 8250, 339, 157, 382, 376]
def scW (b : Nat) : Int := if 128 ≤ b ∧ b < 160 then w52.getD (b - 128) 0 else b
def sc5 (b : Nat) : Int := if b < 161 ∨ b = 173 then b else if b = 240 then 8470 else if b = 253 then 167 else b - 160 + 1024
def sc15 (b : Nat) : Int := if b = 164 then 8364 else if b = 166 then 352 else if b = 168 then 353 else if b = 180 then 381 else if b = 184 then 382 else if b = 188 then 338 else if b = 189 then 339 else if b = 190 then 376 else b
/-- A byte's scalar. -/
def scE (e : Int) (b : Nat) : Int := if e = 3 then scW b else if e = 4 then sc5 b else if e = 5 then sc15 b else 0
/-- Is it one of the three? -/
def isE (e : Int) : Bool := e == 3 || e == 4 || e == 5
theorem isE_iff {e : Int} : isE e = true ↔ e = 3 ∨ e = 4 ∨ e = 5 := by simp [isE, or_assoc]
theorem isE_no {e : Int} : isE e = false ↔ ¬ e = 3 ∧ ¬ e = 4 ∧ ¬ e = 5 := by simp [isE, and_assoc]
/-- All scalars, by bytes. -/
def tbl (e : Int) : List Int := if isE e = true then (List.range 256).map (scE e) else []
/-- The first byte at which a scalar stands. -/
def look (f : Nat → Int) (n : Nat) (r : Int) : Option Nat := (List.range n).find? fun b => f b == r
def bf (e : Int) (r : Int) : Option Nat := if isE e = true then look (scE e) 256 r else none
theorem look_zero (f : Nat → Int) (r : Int) : look f 0 r = none := rfl
theorem look_succ (f : Nat → Int) (n : Nat) (r : Int) : look f (n + 1) r = if (look f n r).isSome = true then look f n r else if f n = r then some n else none := by
  unfold look
  rw [List.range_succ, List.find?_append]
  cases h : List.find? (fun b => f b == r) (List.range n) with
  | some x => simp
  | none =>
    by_cases h2 : f n = r
    · simp [h2]
    · simp [h2]
theorem look_some {f : Nat → Int} {n : Nat} {r : Int} {b : Nat} (h : look f n r = some b) : b < n ∧ f b = r := by
  unfold look at h
  have h1 := List.find?_some h
  have h2 := List.mem_of_find?_eq_some h
  simp at h1 h2
  exact ⟨h2, h1⟩
theorem look_none {f : Nat → Int} {n : Nat} {r : Int} : look f n r = none ↔ ∀ b, b < n → f b ≠ r := by
  unfold look
  simp
theorem look_first {f : Nat → Int} {n m : Nat} {r : Int} (hm : m < n) (h0 : ∀ b, b < m → f b ≠ r) (h : f m = r) : look f n r = some m := by
  cases h1 : look f n r with
  | none => exact absurd h (look_none.1 h1 m hm)
  | some x =>
    obtain ⟨hx, hfx⟩ := look_some h1
    rcases Nat.lt_trichotomy x m with hlt | rfl | hgt
    · exact absurd hfx (h0 x hlt)
    · rfl
    · exfalso
      unfold look at h1
      rw [List.find?_eq_some_iff_append] at h1
      obtain ⟨_, pre, post, hab, hall⟩ := h1
      have hl : pre.length = x := by
        have e1 : (List.range n)[pre.length]? = some x := by rw [hab]; simp
        rw [List.getElem?_range (by
          have := congrArg List.length hab
          simp at this; omega)] at e1
        simpa using e1
      have hmem : m ∈ pre := by
        have e2 : (List.range n)[m]? = some m := List.getElem?_range hm
        rw [hab, List.getElem?_append_left (by omega)] at e2
        exact List.mem_of_getElem? e2
      have := hall m hmem
      simp at this
      exact this h
/-- A run of bytes and their scalars. -/
def scR : List (Int × Int × Int) → Int → Int
  | [], b => b
  | (f, s, n) :: t, b => if 0 ≤ b - f ∧ b - f < n then s + (b - f) else scR t b
def r5 : List (Int × Int × Int) := [(161, 1025, 12), (174, 1038, 2), (176, 1040, 64), (240, 8470, 1), (241, 1105, 12), (253, 167, 1), (254, 1118, 2)]
def r15 : List (Int × Int × Int) := [(164, 8364, 1), (166, 352, 1), (168, 353, 1), (180, 381, 1), (184, 382, 1), (188, 338, 2), (190, 376, 1)]
theorem scR_5 : ∀ b : Nat, b < 256 → scR r5 (b : Int) = sc5 b := by decide +kernel
theorem scR_15 : ∀ b : Nat, b < 256 → scR r15 (b : Int) = sc15 b := by decide +kernel
theorem sc_bd : ∀ e ∈ [(3 : Int), 4, 5], ∀ b : Nat, b < 256 → 0 ≤ scE e b ∧ scE e b < 55296 := by decide +kernel
/-- In each encoding no scalar has two bytes. -/
theorem bf_sc : ∀ e ∈ [(3 : Int), 4, 5], ∀ b : Nat, b < 256 → bf e (scE e b) = some b := by decide +kernel
theorem isE_mem {e : Int} (h : isE e = true) : e ∈ [(3 : Int), 4, 5] := by
  rcases isE_iff.1 h with rfl | rfl | rfl <;> simp
theorem bf_of {e : Int} (h : isE e = true) {b : Nat} (hb : b < 256) : bf e (scE e b) = some b := bf_sc e (isE_mem h) b hb
theorem sc_inj {e : Int} (h : isE e = true) {a b : Nat} (ha : a < 256) (hb : b < 256) : scE e a = scE e b ↔ a = b := by
  constructor
  · intro hs
    have h1 := bf_of h ha
    rw [hs, bf_of h hb] at h1
    exact (Option.some.inj h1).symm
  · rintro rfl; rfl
theorem sc_ascii : ∀ e ∈ [(3 : Int), 4, 5], ∀ b : Nat, b < 256 → (b < 128 → scE e b = b) ∧ (scE e b < 128 → scE e b = b) := by decide +kernel
end Go.Proofs.YtgahaehnlbkihaaDoor
