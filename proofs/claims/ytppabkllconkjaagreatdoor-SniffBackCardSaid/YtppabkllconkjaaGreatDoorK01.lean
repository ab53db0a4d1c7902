/- Joined: BM, BL, BC, BR, BA, BB, WU, WE. -/
import Derived.BigQuiet
import Derived.Deep.AppendLies
import Derived.Deep.DeepCutAuto
import Derived.Deep.LoopGhost
import Derived.Deep.QuietTactic
import Derived.Deep.RegionHeld3
import Derived.Laws.AppendOwn
import Derived.Laws.BytesArg
import Derived.Laws.IdiomStrings
import Derived.Lib.Hide
import Derived.LoopN
import Derived.Maps.AppendAt
import Derived.OpenShut
import Derived.Outline
import Derived.ProofKit
import Derived.StillTailTactics
import Derived.Test.YtppabkllconkjaaGreatDoorRows
import Derived.WalkKit
import Derived.WalkMore
/- The bytes of scalar values, as plain mathematics: decoding one scalar or wrong part, the parts of a text, texts of scalars; nothing of the program. -/
namespace Go.Proofs.YtppabkllconkjaaGreatDoor.U
set_option linter.unusedVariables false
set_option linter.unusedSimpArgs false
set_option maxRecDepth 100000
def isB (r : Int) : Bool := decide (0 ≤ r ∧ r ≤ 1114111 ∧ (r < 55296 ∨ 57343 < r))
theorem isB_iff {r : Int} : isB r = true ↔ 0 ≤ r ∧ r ≤ 1114111 ∧ (r < 55296 ∨ 57343 < r) := by simp [isB]
theorem isB_no {r : Int} : isB r = false ↔ ¬ (0 ≤ r ∧ r ≤ 1114111 ∧ (r < 55296 ∨ 57343 < r)) := by
  rw [← isB_iff]; simp
def lenF (r : Int) : Int := if isB r = true then (if r < 128 then 1 else if r < 2048 then 2 else if r < 65536 then 3 else 4) else 0
def by8 (n : Int) : UInt8 := UInt8.ofNat n.toNat
theorem by8_val {n : Int} (h0 : 0 ≤ n) (h1 : n < 256) : ((by8 n).toNat : Int) = n := by
  unfold by8
  rw [UInt8.toNat_ofNat']
  omega
theorem by8_of {b : UInt8} {n : Int} (h : (b.toNat : Int) = n) : by8 n = b := by
  unfold by8
  subst h
  simp
theorem u8_lt (b : UInt8) : (b.toNat : Int) < 256 := by have := b.toNat_lt; omega
def enc (r : Int) : List UInt8 :=
  if isB r = true then
    if r < 128 then [by8 r]
    else if r < 2048 then [by8 (192 + r / 64), by8 (128 + r % 64)]
    else if r < 65536 then [by8 (224 + r / 4096), by8 (128 + r / 64 % 64), by8 (128 + r % 64)]
    else [by8 (240 + r / 262144), by8 (128 + r / 4096 % 64), by8 (128 + r / 64 % 64), by8 (128 + r % 64)]
  else []
theorem enc1 {r : Int} (h : isB r = true) (h1 : r < 128) : enc r = [by8 r] := by
  unfold enc; rw [if_pos h, if_pos h1]
theorem enc2 {r : Int} (h : isB r = true) (h0 : 128 ≤ r) (h1 : r < 2048) : enc r = [by8 (192 + r / 64), by8 (128 + r % 64)] := by
  unfold enc; rw [if_pos h, if_neg (by omega), if_pos h1]
theorem enc3 {r : Int} (h : isB r = true) (h0 : 2048 ≤ r) (h1 : r < 65536) : enc r = [by8 (224 + r / 4096), by8 (128 + r / 64 % 64), by8 (128 + r % 64)] := by
  unfold enc; rw [if_pos h, if_neg (by omega), if_neg (by omega), if_pos h1]
theorem enc4 {r : Int} (h : isB r = true) (h0 : 65536 ≤ r) : enc r = [by8 (240 + r / 262144), by8 (128 + r / 4096 % 64), by8 (128 + r / 64 % 64), by8 (128 + r % 64)] := by
  unfold enc; rw [if_pos h, if_neg (by omega), if_neg (by omega), if_neg (by omega)]
theorem lenF1 {r : Int} (h : isB r = true) (h1 : r < 128) : lenF r = 1 := by
  unfold lenF; rw [if_pos h, if_pos h1]
theorem lenF2 {r : Int} (h : isB r = true) (h0 : 128 ≤ r) (h1 : r < 2048) : lenF r = 2 := by
  unfold lenF; rw [if_pos h, if_neg (by omega), if_pos h1]
theorem lenF3 {r : Int} (h : isB r = true) (h0 : 2048 ≤ r) (h1 : r < 65536) : lenF r = 3 := by
  unfold lenF; rw [if_pos h, if_neg (by omega), if_neg (by omega), if_pos h1]
theorem lenF4 {r : Int} (h : isB r = true) (h0 : 65536 ≤ r) : lenF r = 4 := by
  unfold lenF; rw [if_pos h, if_neg (by omega), if_neg (by omega), if_neg (by omega)]
theorem lenF0 {r : Int} (h : isB r = false) : lenF r = 0 := by
  unfold lenF; rw [if_neg (by simp [h])]
theorem enc0 {r : Int} (h : isB r = false) : enc r = [] := by
  unfold enc; rw [if_neg (by simp [h])]
theorem isB_cases {r : Int} (h : isB r = true) : (0 ≤ r ∧ r < 128) ∨ (128 ≤ r ∧ r < 2048) ∨ (2048 ≤ r ∧ r < 65536 ∧ (r < 55296 ∨ 57343 < r)) ∨ (65536 ≤ r ∧ r ≤ 1114111) := by
  have := isB_iff.1 h; omega
theorem enc_len (r : Int) : ((enc r).length : Int) = lenF r := by
  cases h : isB r
  · rw [enc0 h, lenF0 h]; rfl
  · rcases isB_cases h with ⟨a, b⟩ | ⟨a, b⟩ | ⟨a, b, _⟩ | ⟨a, b⟩
    · rw [enc1 h b, lenF1 h b]; rfl
    · rw [enc2 h a b, lenF2 h a b]; rfl
    · rw [enc3 h a b, lenF3 h a b]; rfl
    · rw [enc4 h a, lenF4 h a]; rfl
theorem enc_pos {r : Int} (h : isB r = true) : 1 ≤ (enc r).length := by
  have := enc_len r
  rcases isB_cases h with ⟨a, b⟩ | ⟨a, b⟩ | ⟨a, b, _⟩ | ⟨a, b⟩
  · rw [lenF1 h b] at this; omega
  · rw [lenF2 h a b] at this; omega
  · rw [lenF3 h a b] at this; omega
  · rw [lenF4 h a] at this; omega
theorem enc_le (r : Int) : (enc r).length ≤ 4 := by
  have := enc_len r
  cases h : isB r
  · rw [lenF0 h] at this; omega
  · rcases isB_cases h with ⟨a, b⟩ | ⟨a, b⟩ | ⟨a, b, _⟩ | ⟨a, b⟩
    · rw [lenF1 h b] at this; omega
    · rw [lenF2 h a b] at this; omega
    · rw [lenF3 h a b] at this; omega
    · rw [lenF4 h a] at this; omega
/-- What a first byte says: how many follow (below 0: it is none), the least and the greatest of the next one, its bits. -/
def ldN (c : Int) : Int := if c < 128 then 0 else if c < 194 then -1 else if c < 224 then 1 else if c < 240 then 2 else if c < 245 then 3 else -1
def ldLo (c : Int) : Int := if c = 224 then 160 else if c = 240 then 144 else 128
def ldHi (c : Int) : Int := if c = 237 then 159 else if c = 244 then 143 else 191
def ldR (c : Int) : Int := if c < 128 then c else if c < 224 then c - 192 else if c < 240 then c - 224 else c - 240
def goD : Nat → List UInt8 → Nat → Int → Int → Int → Int × Nat
  | 0, _, i, r, _, _ => (r, i)
  | _ + 1, [], i, _, _, _ => (-1, i)
  | k + 1, b :: t, i, r, lo, hi => if lo ≤ (b.toNat : Int) ∧ (b.toNat : Int) ≤ hi then goD k t (i + 1) (r * 64 + ((b.toNat : Int) - 128)) 128 191 else (-1, i)
/-- The scalar, or -1, whose bytes stand at a text's front, and how many bytes it, or the wrong part, has. -/
def dec : List UInt8 → Int × Nat
  | [] => (-1, 1)
  | c :: t => if ldN c.toNat < 0 then (-1, 1) else goD (ldN c.toNat).toNat t 1 (ldR c.toNat) (ldLo c.toNat) (ldHi c.toNat)
theorem ld_lohi (c : Int) : 128 ≤ ldLo c ∧ ldHi c ≤ 191 := by
  unfold ldLo ldHi
  constructor
  · split
    · omega
    · split <;> omega
  · split
    · omega
    · split <;> omega
theorem ldN_le (c : Int) : ldN c ≤ 3 := by
  unfold ldN; repeat' split
  all_goals omega
theorem goD_pos : ∀ (k : Nat) (t : List UInt8) (i : Nat) (r lo hi : Int), i ≤ (goD k t i r lo hi).2 ∧ (goD k t i r lo hi).2 ≤ i + k ∧ (goD k t i r lo hi).2 ≤ i + t.length
  | 0, t, i, r, lo, hi => by simp [goD]
  | k + 1, [], i, r, lo, hi => by simp [goD]
  | k + 1, b :: t, i, r, lo, hi => by
    simp only [goD, List.length_cons]
    split
    · have := goD_pos k t (i + 1) (r * 64 + ((b.toNat : Int) - 128)) 128 191
      omega
    · simp
theorem dec_pos (l : List UInt8) : 1 ≤ (dec l).2 := by
  cases l with
  | nil => simp [dec]
  | cons c t =>
    simp only [dec]
    split
    · simp
    · exact (goD_pos _ _ _ _ _ _).1
theorem dec_le {l : List UInt8} (h : l ≠ []) : (dec l).2 ≤ l.length := by
  cases l with
  | nil => exact absurd rfl h
  | cons c t =>
    simp only [dec, List.length_cons]
    split
    · simp
    · have := (goD_pos (ldN c.toNat).toNat t 1 (ldR c.toNat) (ldLo c.toNat) (ldHi c.toNat)).2.2
      omega
theorem dec_le4 (l : List UInt8) : (dec l).2 ≤ 4 := by
  cases l with
  | nil => simp [dec]
  | cons c t =>
    simp only [dec]
    split
    · simp
    · have := (goD_pos (ldN c.toNat).toNat t 1 (ldR c.toNat) (ldLo c.toNat) (ldHi c.toNat)).2.1
      have := ldN_le c.toNat
      omega
theorem dec_enc {r : Int} (h : isB r = true) (t : List UInt8) : dec (enc r ++ t) = (r, (enc r).length) := by
  rcases isB_cases h with ⟨a, a'⟩ | ⟨a, a'⟩ | ⟨a, a', a2⟩ | ⟨a, a'⟩
  · rw [enc1 h a']
    simp only [List.cons_append, List.nil_append, dec]
    rw [by8_val (by omega) (by omega)]
    have e : ldN r = 0 := by unfold ldN; rw [if_pos a']
    have e2 : ldR r = r := by unfold ldR; rw [if_pos a']
    rw [e, e2, if_neg (by omega)]
    simp [goD]
  · rw [enc2 h a a']
    simp only [List.cons_append, List.nil_append, dec]
    rw [by8_val (by omega) (by omega)]
    have e : ldN (192 + r / 64) = 1 := by unfold ldN; rw [if_neg (by omega), if_neg (by omega), if_pos (by omega)]
    have e2 : ldR (192 + r / 64) = r / 64 := by unfold ldR; rw [if_neg (by omega), if_pos (by omega)]; omega
    have e3 : ldLo (192 + r / 64) = 128 := by unfold ldLo; rw [if_neg (by omega), if_neg (by omega)]
    have e4 : ldHi (192 + r / 64) = 191 := by unfold ldHi; rw [if_neg (by omega), if_neg (by omega)]
    rw [e, e2, e3, e4, if_neg (by omega)]
    simp only [Int.reduceToNat, goD]
    rw [by8_val (by omega) (by omega), if_pos (by omega)]
    simp; omega
  · rw [enc3 h a a']
    simp only [List.cons_append, List.nil_append, dec]
    rw [by8_val (by omega) (by omega)]
    have e : ldN (224 + r / 4096) = 2 := by unfold ldN; rw [if_neg (by omega), if_neg (by omega), if_neg (by omega), if_pos (by omega)]
    have e2 : ldR (224 + r / 4096) = r / 4096 := by unfold ldR; rw [if_neg (by omega), if_neg (by omega), if_pos (by omega)]; omega
    have e3 : ldLo (224 + r / 4096) ≤ 128 + r / 64 % 64 := by
      unfold ldLo; split
      · omega
      · rw [if_neg (by omega)]; omega
    have e4 : 128 + r / 64 % 64 ≤ ldHi (224 + r / 4096) := by
      unfold ldHi; split
      · omega
      · rw [if_neg (by omega)]; omega
    rw [e, e2, if_neg (by omega)]
    simp only [Int.reduceToNat, goD]
    rw [by8_val (by omega) (by omega), if_pos ⟨e3, e4⟩]
    rw [by8_val (by omega) (by omega), if_pos (by omega)]
    simp; omega
  · rw [enc4 h a]
    simp only [List.cons_append, List.nil_append, dec]
    rw [by8_val (by omega) (by omega)]
    have e : ldN (240 + r / 262144) = 3 := by unfold ldN; rw [if_neg (by omega), if_neg (by omega), if_neg (by omega), if_neg (by omega), if_pos (by omega)]
    have e2 : ldR (240 + r / 262144) = r / 262144 := by unfold ldR; rw [if_neg (by omega), if_neg (by omega), if_neg (by omega)]; omega
    have e3 : ldLo (240 + r / 262144) ≤ 128 + r / 4096 % 64 := by
      unfold ldLo; rw [if_neg (by omega)]; split <;> omega
    have e4 : 128 + r / 4096 % 64 ≤ ldHi (240 + r / 262144) := by
      unfold ldHi; rw [if_neg (by omega)]; split <;> omega
    rw [e, e2, if_neg (by omega)]
    simp only [Int.reduceToNat, goD]
    rw [by8_val (by omega) (by omega), if_pos ⟨e3, e4⟩]
    rw [by8_val (by omega) (by omega), if_pos (by omega)]
    rw [by8_val (by omega) (by omega), if_pos (by omega)]
    simp; omega
theorem goD1 (b : UInt8) (t : List UInt8) (i : Nat) (r lo hi : Int) (n : Nat) (x : Int) (hx : x ≠ -1) (k : Nat) (h : goD (k + 1) (b :: t) i r lo hi = (x, n)) :
    lo ≤ (b.toNat : Int) ∧ (b.toNat : Int) ≤ hi ∧ goD k t (i + 1) (r * 64 + ((b.toNat : Int) - 128)) 128 191 = (x, n) := by
  simp only [goD] at h
  split at h
  · rename_i h'
    exact ⟨h'.1, h'.2, h⟩
  · simp at h; omega
theorem goD2 (t : List UInt8) (i : Nat) (r lo hi : Int) (n : Nat) (x : Int) (hx : x ≠ -1) (k : Nat) (h : goD (k + 1) t i r lo hi = (x, n)) :
    ∃ b t', t = b :: t' ∧ lo ≤ (b.toNat : Int) ∧ (b.toNat : Int) ≤ hi ∧ goD k t' (i + 1) (r * 64 + ((b.toNat : Int) - 128)) 128 191 = (x, n) := by
  cases t with
  | nil => simp [goD] at h; omega
  | cons b t' => exact ⟨b, t', rfl, goD1 b t' i r lo hi n x hx k h⟩
/-- A scalar that is told stands there with its own bytes. -/
theorem dec_ok {l : List UInt8} {r : Int} {n : Nat} (h : dec l = (r, n)) (hr : r ≠ -1) : isB r = true ∧ n = (enc r).length ∧ l = enc r ++ l.drop n := by
  cases l with
  | nil => simp [dec] at h; omega
  | cons c t =>
    have hc := u8_lt c
    simp only [dec] at h
    split at h
    · simp at h; omega
    · rename_i hn
      generalize hC : (c.toNat : Int) = C at *
      have hC0 : 0 ≤ C := by omega
      by_cases c1 : C < 128
      · have e : ldN C = 0 := by unfold ldN; rw [if_pos c1]
        have e2 : ldR C = C := by unfold ldR; rw [if_pos c1]
        rw [e, e2] at h
        simp [goD] at h
        obtain ⟨rfl, rfl⟩ := h
        have hb : isB C = true := isB_iff.2 (by omega)
        rw [enc1 hb c1, by8_of hC]
        exact ⟨hb, rfl, by simp⟩
      by_cases c2 : C < 224
      · have c2' : 194 ≤ C := by
          by_cases g : C < 194
          · exact absurd (by unfold ldN; rw [if_neg c1, if_pos g]; omega) hn
          · omega
        have e : ldN C = 1 := by unfold ldN; rw [if_neg c1, if_neg (by omega), if_pos c2]
        have e2 : ldR C = C - 192 := by unfold ldR; rw [if_neg c1, if_pos c2]
        have e3 := ld_lohi C
        rw [e, e2] at h
        obtain ⟨b1, t1, rfl, l1, m1, h⟩ := goD2 _ _ _ _ _ _ _ hr 0 h
        simp [goD] at h
        obtain ⟨rfl, rfl⟩ := h
        have hb : isB ((C - 192) * 64 + ((b1.toNat : Int) - 128)) = true := isB_iff.2 (by omega)
        rw [enc2 hb (by omega) (by omega), by8_of (b := c) (by omega), by8_of (b := b1) (by omega)]
        exact ⟨hb, rfl, by simp⟩
      by_cases c3 : C < 240
      · have e : ldN C = 2 := by unfold ldN; rw [if_neg c1, if_neg (by omega), if_neg (by omega), if_pos c3]
        have e2 : ldR C = C - 224 := by unfold ldR; rw [if_neg c1, if_neg c2, if_pos c3]
        rw [e, e2] at h
        obtain ⟨b1, t1, rfl, l1, m1, h⟩ := goD2 _ _ _ _ _ _ _ hr 1 h
        obtain ⟨b2, t2, rfl, l2, m2, h⟩ := goD2 _ _ _ _ _ _ _ hr 0 h
        have e3 : 128 ≤ (b1.toNat : Int) ∧ (b1.toNat : Int) ≤ 191 ∧ (C = 224 → 160 ≤ (b1.toNat : Int)) ∧ (C = 237 → (b1.toNat : Int) ≤ 159) := by
          have := ld_lohi C
          refine ⟨by omega, by omega, fun g => ?_, fun g => ?_⟩
          · unfold ldLo at l1; rw [if_pos g] at l1; exact l1
          · unfold ldHi at m1; rw [if_pos g] at m1; exact m1
        obtain ⟨f1, f2, f3, f4⟩ := e3
        simp [goD] at h
        obtain ⟨rfl, rfl⟩ := h
        have hb : isB (((C - 224) * 64 + ((b1.toNat : Int) - 128)) * 64 + ((b2.toNat : Int) - 128)) = true := isB_iff.2 (by omega)
        rw [enc3 hb (by omega) (by omega), by8_of (b := c) (by omega), by8_of (b := b1) (by omega), by8_of (b := b2) (by omega)]
        exact ⟨hb, rfl, by simp⟩
      by_cases c4 : C < 245
      · have e : ldN C = 3 := by unfold ldN; rw [if_neg c1, if_neg (by omega), if_neg (by omega), if_neg (by omega), if_pos c4]
        have e2 : ldR C = C - 240 := by unfold ldR; rw [if_neg c1, if_neg c2, if_neg c3]
        rw [e, e2] at h
        obtain ⟨b1, t1, rfl, l1, m1, h⟩ := goD2 _ _ _ _ _ _ _ hr 2 h
        obtain ⟨b2, t2, rfl, l2, m2, h⟩ := goD2 _ _ _ _ _ _ _ hr 1 h
        obtain ⟨b3, t3, rfl, l3, m3, h⟩ := goD2 _ _ _ _ _ _ _ hr 0 h
        have e3 : 128 ≤ (b1.toNat : Int) ∧ (b1.toNat : Int) ≤ 191 ∧ (C = 240 → 144 ≤ (b1.toNat : Int)) ∧ (C = 244 → (b1.toNat : Int) ≤ 143) := by
          have := ld_lohi C
          refine ⟨by omega, by omega, fun g => ?_, fun g => ?_⟩
          · unfold ldLo at l1; rw [if_neg (by omega), if_pos g] at l1; exact l1
          · unfold ldHi at m1; rw [if_neg (by omega), if_pos g] at m1; exact m1
        obtain ⟨f1, f2, f3, f4⟩ := e3
        simp [goD] at h
        obtain ⟨rfl, rfl⟩ := h
        have hb : isB ((((C - 240) * 64 + ((b1.toNat : Int) - 128)) * 64 + ((b2.toNat : Int) - 128)) * 64 + ((b3.toNat : Int) - 128)) = true := isB_iff.2 (by omega)
        rw [enc4 hb (by omega), by8_of (b := c) (by omega), by8_of (b := b1) (by omega), by8_of (b := b2) (by omega), by8_of (b := b3) (by omega)]
        exact ⟨hb, rfl, by simp⟩
      · exact absurd (by unfold ldN; rw [if_neg c1, if_neg (by omega), if_neg (by omega), if_neg (by omega), if_neg (by omega)]; omega) hn
theorem dec_cases (l : List UInt8) : (dec l).1 = -1 ∨ isB (dec l).1 = true := by
  by_cases h : (dec l).1 = -1
  · exact .inl h
  · exact .inr (dec_ok (l := l) rfl h).1
/-- The parts of a text, one behind the other: the scalar, or -1, and how many bytes. -/
def parts : Nat → List UInt8 → List (Int × Nat)
  | 0, _ => []
  | _ + 1, [] => []
  | f + 1, c :: t => dec (c :: t) :: parts f ((c :: t).drop (dec (c :: t)).2)
theorem parts_succ (f : Nat) (c : UInt8) (t : List UInt8) : parts (f + 1) (c :: t) = dec (c :: t) :: parts f ((c :: t).drop (dec (c :: t)).2) := rfl
theorem parts_fuel (f : Nat) : ∀ l : List UInt8, l.length ≤ f → parts f l = parts l.length l := by
  induction f using Nat.strongRecOn with
  | ind f ih =>
    intro l h
    match l with
    | [] => cases f <;> rfl
    | c :: t =>
      match f with
      | 0 => simp at h
      | f + 1 =>
        have hp := dec_pos (c :: t)
        rw [List.length_cons, parts_succ, parts_succ]
        generalize (dec (c :: t)).2 = n at *
        simp only [List.length_cons] at h
        have hd : ((c :: t).drop n).length ≤ t.length := by rw [List.length_drop, List.length_cons]; omega
        rw [ih f (by omega) _ (by omega), ih t.length (by omega) _ hd]
def prt (l : List UInt8) : List (Int × Nat) := parts l.length l
theorem prt_nil : prt [] = [] := rfl
theorem prt_cons {l : List UInt8} (h : l ≠ []) : prt l = dec l :: prt (l.drop (dec l).2) := by
  cases l with
  | nil => exact absurd rfl h
  | cons c t =>
    have hp := dec_pos (c :: t)
    unfold prt
    rw [List.length_cons, parts_succ]
    generalize (dec (c :: t)).2 = n at *
    rw [parts_fuel t.length _ (by rw [List.length_drop, List.length_cons]; omega)]
theorem drop_lt {l : List UInt8} (h : l ≠ []) : (l.drop (dec l).2).length < l.length := by
  have := dec_pos l
  have := List.length_pos_iff.2 h
  rw [List.length_drop]; omega
def okB (l : List UInt8) : Bool := (prt l).all fun p => p.1 != -1
def scl (l : List UInt8) : List Int := (prt l).map (·.1)
def fixR (r : Int) : Int := if r = -1 then 65533 else r
def encs (xs : List Int) : List UInt8 := xs.flatMap enc
def loose (l : List UInt8) : List UInt8 := encs ((scl l).map fixR)
def wrg : List (Int × Nat) → Nat → Int
  | [], _ => -1
  | p :: t, at' => if p.1 = -1 then (at' : Int) else wrg t (at' + p.2)
def allB (xs : List Int) : Bool := xs.all isB
theorem allB_cons (x : Int) (xs : List Int) : allB (x :: xs) = true ↔ isB x = true ∧ allB xs = true := by simp [allB]
theorem encs_cons (x : Int) (xs : List Int) : encs (x :: xs) = enc x ++ encs xs := by simp [encs]
theorem encs_app (xs ys : List Int) : encs (xs ++ ys) = encs xs ++ encs ys := by simp [encs]
theorem allB_app (xs ys : List Int) : allB (xs ++ ys) = true ↔ allB xs = true ∧ allB ys = true := by simp [allB]
def withLen (xs : List Int) : List (Int × Nat) := xs.map fun r => (r, (enc r).length)
theorem enc_ne {r : Int} (h : isB r = true) (t : List UInt8) : enc r ++ t ≠ [] := by
  have := enc_pos h
  intro e
  have := congrArg List.length e
  simp at this
  simp [this.1] at *
theorem prt_enc {r : Int} (h : isB r = true) (t : List UInt8) : prt (enc r ++ t) = (r, (enc r).length) :: prt t := by
  rw [prt_cons (enc_ne h t), dec_enc h t]
  simp
theorem prt_encs : ∀ (xs : List Int), allB xs = true → ∀ t : List UInt8, prt (encs xs ++ t) = withLen xs ++ prt t
  | [], _, t => by simp [encs, withLen]
  | x :: xs, h, t => by
    obtain ⟨h1, h2⟩ := (allB_cons x xs).1 h
    rw [encs_cons, List.append_assoc, prt_enc h1, prt_encs xs h2 t]
    simp [withLen]
theorem prt_encs' {xs : List Int} (h : allB xs = true) : prt (encs xs) = withLen xs := by
  have := prt_encs xs h []
  simpa [prt_nil] using this
theorem isB_ne {r : Int} (h : isB r = true) : r ≠ -1 := by
  intro e; subst e; simp [isB] at h
theorem withLen_all {xs : List Int} (h : allB xs = true) : (withLen xs).all (fun p => p.1 != -1) = true := by
  simp only [withLen, List.all_map, List.all_eq_true, allB] at *
  intro r hr
  simpa using isB_ne (h r hr)
theorem ok_encs {xs : List Int} (h : allB xs = true) : okB (encs xs) = true := by
  unfold okB; rw [prt_encs' h]; exact withLen_all h
theorem scl_encs {xs : List Int} (h : allB xs = true) : scl (encs xs) = xs := by
  unfold scl; rw [prt_encs' h]
  simp [withLen, Function.comp_def]
theorem scl_nil : scl [] = [] := rfl
theorem scl_cons {l : List UInt8} (h : l ≠ []) : scl l = (dec l).1 :: scl (l.drop (dec l).2) := by
  unfold scl; rw [prt_cons h]; rfl
theorem scl_cases (n : Nat) : ∀ l : List UInt8, l.length ≤ n → ∀ r ∈ scl l, r = -1 ∨ isB r = true := by
  induction n with
  | zero =>
    intro l h
    rw [List.eq_nil_of_length_eq_zero (Nat.le_zero.1 h)]
    simp [scl_nil]
  | succ n ih =>
    intro l h
    by_cases hne : l = []
    · subst hne; simp [scl_nil]
    rw [scl_cons hne]
    intro r hr
    rcases List.mem_cons.1 hr with rfl | hr
    · exact dec_cases _
    · exact ih _ (by have := drop_lt hne; omega) r hr
theorem fix_all (l : List UInt8) : allB ((scl l).map fixR) = true := by
  simp only [allB, List.all_map, List.all_eq_true, Function.comp]
  intro r hr
  unfold fixR
  rcases scl_cases l.length l (Nat.le_refl _) r hr with rfl | h
  · decide
  · rw [if_neg (isB_ne h)]; exact h
/-- Right text is what its scalars make. -/
theorem ok_back (n : Nat) : ∀ l : List UInt8, l.length ≤ n → okB l = true → allB (scl l) = true ∧ encs (scl l) = l := by
  induction n with
  | zero =>
    intro l h _
    rw [List.eq_nil_of_length_eq_zero (Nat.le_zero.1 h)]
    simp [scl_nil, allB, encs]
  | succ n ih =>
    intro l h hok
    by_cases hne : l = []
    · subst hne; simp [scl_nil, allB, encs]
    unfold okB at hok
    rw [prt_cons hne] at hok
    simp only [List.all_cons, Bool.and_eq_true, bne_iff_ne, ne_eq] at hok
    obtain ⟨h1, h2⟩ := hok
    obtain ⟨i1, i2⟩ := ih _ (by have := drop_lt hne; omega) h2
    obtain ⟨j1, j2, j3⟩ := dec_ok (l := l) rfl h1
    rw [scl_cons hne, encs_cons, i2]
    exact ⟨(allB_cons _ _).2 ⟨j1, i1⟩, j3.symm⟩
theorem fix_id : ∀ {xs : List Int}, allB xs = true → xs.map fixR = xs
  | [], _ => rfl
  | x :: xs, h => by
    obtain ⟨h1, h2⟩ := (allB_cons x xs).1 h
    simp only [List.map_cons]
    rw [fix_id h2]
    unfold fixR
    rw [if_neg (isB_ne h1)]
theorem loose_ok {l : List UInt8} (h : okB l = true) : loose l = l := by
  obtain ⟨h1, h2⟩ := ok_back _ l (Nat.le_refl _) h
  unfold loose
  rw [fix_id h1, h2]
theorem loose_right (l : List UInt8) : okB (loose l) = true := ok_encs (fix_all l)
theorem wrg_all : ∀ {ps : List (Int × Nat)} {a : Nat}, wrg ps a = -1 ↔ (ps.all fun p => p.1 != -1) = true
  | [], a => by simp [wrg]
  | p :: t, a => by
    simp only [wrg, List.all_cons, Bool.and_eq_true, bne_iff_ne, ne_eq]
    by_cases h : p.1 = -1
    · rw [if_pos h]
      constructor
      · intro e; omega
      · intro e; exact absurd h e.1
    · rw [if_neg h, wrg_all (ps := t)]
      simp [h]
theorem wrg_ok {l : List UInt8} : wrg (prt l) 0 = -1 ↔ okB l = true := wrg_all
theorem wrg_bad {p : Int × Nat} (h : p.1 = -1) (t : List (Int × Nat)) (a : Nat) : wrg (p :: t) a = a := by
  simp only [wrg]; rw [if_pos h]
theorem wrg_good {p : Int × Nat} (h : ¬ p.1 = -1) (t : List (Int × Nat)) (a : Nat) : wrg (p :: t) a = wrg t (a + p.2) := by
  simp only [wrg]; rw [if_neg h]
theorem wrg_shift : ∀ (ps : List (Int × Nat)) (a d : Nat), (wrg ps a = -1 ∧ wrg ps (a + d) = -1) ∨ (0 ≤ wrg ps a ∧ wrg ps (a + d) = wrg ps a + d)
  | [], a, d => by simp [wrg]
  | p :: t, a, d => by
    by_cases h : p.1 = -1
    · rw [wrg_bad h, wrg_bad h]; right; omega
    · rw [wrg_good h, wrg_good h]
      have := wrg_shift t (a + p.2) d
      rw [show a + d + p.2 = a + p.2 + d by omega]
      exact this
end Go.Proofs.YtppabkllconkjaaGreatDoor.U
/- General lemmas on blocks of cells and the tables of package utf8; nothing else of the program. -/
namespace Go.Proofs.YtppabkllconkjaaGreatDoor.U
open Go.RowKit
set_option linter.unusedVariables false
set_option linter.unusedSimpArgs false
set_option maxRecDepth 100000
/-- Block b of the world is a row of cells of its own, none of them frozen. -/
def Blk (w : World) (b : Nat) (xs : Array Value) (T : TypeId) : Prop := w.heap[b]? = some (.cells xs T (0, 0))
namespace Blk
variable {w w' W : World} {b : Nat} {xs ys : Array Value} {T : TypeId}
theorem lt (h : Blk w b xs T) : b < w.heap.size := by
  unfold Blk at h
  exact (Array.getElem?_eq_some_iff.1 h).1
theorem new (w : World) (xs : Array Value) (T : TypeId) : Blk (w.alloc (.cells xs T)) w.heap.size xs T := by
  unfold Blk World.alloc; simp
theorem alloc (h : Blk w b xs T) (o : Obj) : Blk (w.alloc o) b xs T := by
  unfold Blk at *
  rw [Below.heap_alloc _ _ _ (Blk.lt h)]; exact h
theorem below (h : Blk W b xs T) (hb : Below W.heap.size W w) : Blk w b xs T := by
  unfold Blk at *
  rw [hb.block _ (Blk.lt h)]; exact h
theorem drew (h : Blk w b xs T) : Blk w.drew b xs T := h
theorem drewN (h : Blk w b xs T) (n : Nat) : Blk (w.drewN n) b xs T := h
theorem set {o : Nat} {v : Value} (h : Blk w b xs T) (hy : ys = xs.setIfInBounds o v) : Blk (w.setCell ⟨b, o, none⟩ v) b ys T := by
  unfold Blk at *
  simp [World.setCell, Array.getElem?_modify, h, hy]
theorem cell (h : Blk w b xs T) (o : Nat) : w.cell? ⟨b, o, none⟩ = xs[o]? := by
  unfold Blk at h
  simp [World.cell?, h]
end Blk
theorem below_call {a w1 w2 : World} (h : Below a.heap.size a w1) (hb : Below w1.heap.size w1 w2) : Below a.heap.size a w2 := h.trans (hb.mono h.size)
theorem below_draws {B : Nat} {a w : World} (h : Below B a w) (n : Nat) : Below B a (w.drewN n) := h.trans ⟨rfl, rfl, rfl, Nat.le_refl _, fun _ _ => rfl⟩
def RetI (n : Int) (w : World) (e : Ending) (w' : World) : Prop := e = .returned (.int .i64 n) ∧ Below w.heap.size w w'
def RetB (n : Bool) (w : World) (e : Ending) (w' : World) : Prop := e = .returned (.bool n) ∧ Below w.heap.size w w'
def limF (o : Nat) : Int := if o = 0 then 0 else if o = 1 then 128 else if o = 2 then 2048 else if o = 3 then 65536 else 1114112
def mrkF (o : Nat) : Int := if o = 0 then 0 else if o = 1 then 0 else if o = 2 then 192 else if o = 3 then 224 else 240
def szF (o : Nat) : Int := if o < 12 then 1 else if o < 14 then 2 else if o = 14 then 3 else 4
/-- The three tables of package utf8 read as the program's text lays them. -/
structure Gl (w : World) : Prop where
  size : 6 < w.heap.size
  lim : ∀ o, o < 5 → w.cell? ⟨5, o, none⟩ = some (.int .i64 (limF o))
  mrk : ∀ o, o < 5 → w.cell? ⟨0, o, none⟩ = some (.int .u8 (mrkF o))
  len : ∀ o, o < 16 → w.cell? ⟨4, o, none⟩ = some (.int .i64 (szF o))
namespace Gl
variable {w w' W : World}
theorem below (h : Gl w) {B : Nat} (hB : 6 < B) (hb : Below B w w') : Gl w' :=
  ⟨by have := hb.size; have := h.size; omega,
   fun o ho => (hb.cell (p := ⟨5, o, none⟩) (by show 5 < B; omega)).trans (h.lim o ho),
   fun o ho => (hb.cell (p := ⟨0, o, none⟩) (by show 0 < B; omega)).trans (h.mrk o ho),
   fun o ho => (hb.cell (p := ⟨4, o, none⟩) (by show 4 < B; omega)).trans (h.len o ho)⟩
theorem below' (h : Gl w) (hb : Below w.heap.size w w') : Gl w' := h.below h.size hb
theorem alloc (h : Gl w) (o : Obj) : Gl (w.alloc o) := h.below' ((Below.refl _ _).alloc (Nat.le_refl _) _)
theorem drew (h : Gl w) : Gl w.drew := h.below' ((Below.refl _ _).drew)
theorem drewN (h : Gl w) (n : Nat) : Gl (w.drewN n) := h.below' ⟨rfl, rfl, rfl, Nat.le_refl _, fun _ _ => rfl⟩
theorem set (h : Gl w) {a : Addr} (ha : 6 < a.block) (v : Value) : Gl (w.setCell a v) := h.below (B := 6 + 1) (by omega) ((Below.refl (6 + 1) _).setCell (by omega) _)
theorem lim4 (h : Gl w) : w.cell? ⟨5, 4, none⟩ = some (.int .i64 1114112) := h.lim 4 (by omega)
theorem lim1 (h : Gl w) : w.cell? ⟨5, 1, none⟩ = some (.int .i64 128) := h.lim 1 (by omega)
theorem lim2 (h : Gl w) : w.cell? ⟨5, 2, none⟩ = some (.int .i64 2048) := h.lim 2 (by omega)
theorem lim3 (h : Gl w) : w.cell? ⟨5, 3, none⟩ = some (.int .i64 65536) := h.lim 3 (by omega)
end Gl
end Go.Proofs.YtppabkllconkjaaGreatDoor.U
/- The contracts of utf8.Is, Len, begins, read, Next and of the document's own Is, Len, Put, lead, part, Next. -/
namespace Go.Proofs.YtppabkllconkjaaGreatDoor.U
open Go.RowKit
set_option linter.unusedVariables false
set_option linter.unusedSimpArgs false
set_option maxRecDepth 100000
theorem ret_int {k : IntKind} {a b : Int} (h : a = b) : Ending.returned (.int k a) = .returned (.int k b) := by rw [h]
theorem ret_bool {a b : Bool} (h : a = b) : Ending.returned (.bool a) = .returned (.bool b) := by rw [h]
theorem is_any (r : Int) (w : World) (hg : Gl w) :
    Calls Tryz.prog 160 #[.int .i64 r] w fun e w' => e = .returned (.bool (isB r)) ∧ w = w' := by
  have g4 := hg.lim4
  clear hg
  by_cases h0 : 0 ≤ r
  · by_cases h1 : r < 1114112
    · have hb : Hid ((r / 2048 != 27) = isB r) := Lib.hid (by
        rw [Bool.eq_iff_iff, isB_iff]; simp only [bne_iff_ne, ne_eq]; omega)
      go_enter Tryz.func160, Tryz.ntmps160
      go_wp2
      go_ret
      exact ⟨ret_bool hb.out, rfl⟩
    · have hb : Hid (false = isB r) := Lib.hid (by symm; rw [isB_no]; omega)
      have hd : decide (r < 1114112) = false := by simpa using h1
      go_enter Tryz.func160, Tryz.ntmps160
      go_wp2
      go_ret
      exact ⟨ret_bool hb.out, rfl⟩
  · have hb : Hid (false = isB r) := Lib.hid (by symm; rw [isB_no]; omega)
    have hd : decide (0 ≤ r) = false := by simpa using h0
    go_enter Tryz.func160, Tryz.ntmps160
    go_wp2
    go_ret
    exact ⟨ret_bool hb.out, rfl⟩
theorem is_yes (r : Int) (w : World) (hg : Gl w) (h : isB r = true) :
    Calls Tryz.prog 160 #[.int .i64 r] w fun e w' => e = .returned (.bool true) ∧ w = w' := by
  have := is_any r w hg; rwa [h] at this
theorem is_no (r : Int) (w : World) (hg : Gl w) (h : isB r = false) :
    Calls Tryz.prog 160 #[.int .i64 r] w fun e w' => e = .returned (.bool false) ∧ w = w' := by
  have := is_any r w hg; rwa [h] at this
theorem len_no (r : Int) (w : World) (hg : Gl w) (h : isB r = false) :
    Calls Tryz.prog 157 #[.int .i64 r] w fun e w' => e = .returned (.int .i64 (lenF r)) ∧ w = w' := by
  rw [lenF0 h]
  have H := Lib.hid h; clear h
  go_enter Tryz.func157, Tryz.ntmps157
  go_wp2_with (go_at_call 160; refine (is_no _ _ (by assumption) H.out).mono ?_; rintro e w' ⟨rfl, rfl⟩)
  go_ret
  exact ⟨rfl, rfl⟩
theorem len_yes (r : Int) (w : World) (hg : Gl w) (h : isB r = true) :
    Calls Tryz.prog 157 #[.int .i64 r] w fun e w' => e = .returned (.int .i64 (lenF r)) ∧ w = w' := by
  have g1 := hg.lim1
  have g2 := hg.lim2
  have g3 := hg.lim3
  have g4 := hg.lim4
  have hc := isB_cases h
  have hl : ∃ n, n = lenF r := ⟨_, rfl⟩
  obtain ⟨n, hn⟩ := hl
  rw [← hn]
  rcases hc with ⟨a, b⟩ | ⟨a, b⟩ | ⟨a, b, c⟩ | ⟨a, b⟩
  · rw [lenF1 h b] at hn
    subst hn
    have H := Lib.hid h; clear h
    go_enter Tryz.func157, Tryz.ntmps157
    go_wp2_with (go_at_call 160; refine (is_yes _ _ (by assumption) H.out).mono ?_; rintro e w' ⟨rfl, rfl⟩)
    refine wp_loop_rounds 1 ?_; rw [rounds_succ]
    go_wp2_with fail
    go_ret
    exact ⟨rfl, rfl⟩
  · rw [lenF2 h a b] at hn
    subst hn
    have H := Lib.hid h; clear h
    go_enter Tryz.func157, Tryz.ntmps157
    go_wp2_with (go_at_call 160; refine (is_yes _ _ (by assumption) H.out).mono ?_; rintro e w' ⟨rfl, rfl⟩)
    refine wp_loop_rounds 2 ?_; rw [rounds_succ]
    go_wp2_with fail
    rw [rounds_succ]
    go_wp2_with fail
    go_ret
    exact ⟨rfl, rfl⟩
  · rw [lenF3 h a b] at hn
    subst hn
    have H := Lib.hid h; clear h
    go_enter Tryz.func157, Tryz.ntmps157
    go_wp2_with (go_at_call 160; refine (is_yes _ _ (by assumption) H.out).mono ?_; rintro e w' ⟨rfl, rfl⟩)
    refine wp_loop_rounds 3 ?_; rw [rounds_succ]
    go_wp2_with fail
    rw [rounds_succ]
    go_wp2_with fail
    rw [rounds_succ]
    go_wp2_with fail
    go_ret
    exact ⟨rfl, rfl⟩
  · rw [lenF4 h a] at hn
    subst hn
    have H := Lib.hid h; clear h
    go_enter Tryz.func157, Tryz.ntmps157
    go_wp2_with (go_at_call 160; refine (is_yes _ _ (by assumption) H.out).mono ?_; rintro e w' ⟨rfl, rfl⟩)
    refine wp_loop_rounds 4 ?_; rw [rounds_succ]
    go_wp2_with fail
    rw [rounds_succ]
    go_wp2_with fail
    rw [rounds_succ]
    go_wp2_with fail
    rw [rounds_succ]
    go_wp2_with fail
    go_ret
    exact ⟨rfl, rfl⟩
theorem len_any (r : Int) (w : World) (hg : Gl w) :
    Calls Tryz.prog 157 #[.int .i64 r] w fun e w' => e = .returned (.int .i64 (lenF r)) ∧ w = w' := by
  cases h : isB r
  · exact len_no r w hg h
  · exact len_yes r w hg h
theorem wraps_i64 (n : Int) (h₀ : 0 ≤ n) (h₁ : n < 2 ^ 40) : IntKind.i64.wrap n = n := by rw [IntKind.wrap_i64]; omega
theorem or6 (x y : Int) (hx₀ : 0 ≤ x) (hx : x % 64 = 0) (hx₁ : x < 1099511627776) (h₀ : 0 ≤ y) (h₁ : y < 64) : bits .or .i64 x y = x + y :=
  bits_join .i64 40 (by decide) wraps_i64 6 x y hx₀ hx (by omega) h₀ (by omega) (by omega)
theorem or12 (x y : Int) (hx₀ : 0 ≤ x) (hx : x % 4096 = 0) (hx₁ : x < 1099511627776) (h₀ : 0 ≤ y) (h₁ : y < 4096) : bits .or .i64 x y = x + y :=
  bits_join .i64 40 (by decide) wraps_i64 12 x y hx₀ hx (by omega) h₀ (by omega) (by omega)
theorem or18 (x y : Int) (hx₀ : 0 ≤ x) (hx : x % 262144 = 0) (hx₁ : x < 1099511627776) (h₀ : 0 ≤ y) (h₁ : y < 262144) : bits .or .i64 x y = x + y :=
  bits_join .i64 40 (by decide) wraps_i64 18 x y hx₀ hx (by omega) h₀ (by omega) (by omega)
theorem or0 (x : Int) (hx₀ : 0 ≤ x) (hx₁ : x < 1099511627776) : bits .or .i64 x 0 = x := by
  have := bits_join .i64 40 (by decide) wraps_i64 0 x 0 hx₀ (by simp [Int.emod_one]) (by omega) (by omega) (by omega) (by omega)
  simpa using this
theorem lenF_1 {x : Int} : lenF x = 1 ↔ 0 ≤ x ∧ x < 128 := by
  cases h : isB x
  · rw [lenF0 h]; have := isB_no.1 h; omega
  · rcases isB_cases h with ⟨a, b⟩ | ⟨a, b⟩ | ⟨a, b, c⟩ | ⟨a, b⟩
    · rw [lenF1 h b]; omega
    · rw [lenF2 h a b]; omega
    · rw [lenF3 h a b]; omega
    · rw [lenF4 h a]; omega
theorem lenF_2 {x : Int} : lenF x = 2 ↔ 128 ≤ x ∧ x < 2048 := by
  cases h : isB x
  · rw [lenF0 h]; have := isB_no.1 h; omega
  · rcases isB_cases h with ⟨a, b⟩ | ⟨a, b⟩ | ⟨a, b, c⟩ | ⟨a, b⟩
    · rw [lenF1 h b]; omega
    · rw [lenF2 h a b]; omega
    · rw [lenF3 h a b]; omega
    · rw [lenF4 h a]; omega
theorem lenF_3 {x : Int} : lenF x = 3 ↔ 2048 ≤ x ∧ x < 65536 ∧ (x < 55296 ∨ 57343 < x) := by
  cases h : isB x
  · rw [lenF0 h]; have := isB_no.1 h; omega
  · rcases isB_cases h with ⟨a, b⟩ | ⟨a, b⟩ | ⟨a, b, c⟩ | ⟨a, b⟩
    · rw [lenF1 h b]; omega
    · rw [lenF2 h a b]; omega
    · rw [lenF3 h a b]; omega
    · rw [lenF4 h a]; omega
theorem lenF_4 {x : Int} : lenF x = 4 ↔ 65536 ≤ x ∧ x ≤ 1114111 := by
  cases h : isB x
  · rw [lenF0 h]; have := isB_no.1 h; omega
  · rcases isB_cases h with ⟨a, b⟩ | ⟨a, b⟩ | ⟨a, b, c⟩ | ⟨a, b⟩
    · rw [lenF1 h b]; omega
    · rw [lenF2 h a b]; omega
    · rw [lenF3 h a b]; omega
    · rw [lenF4 h a]; omega
def begB (r n z : Int) : Bool := lenF (r * 64 ^ (z - n).toNat) == z || lenF (r * 64 ^ (z - n).toNat + (64 ^ (z - n).toNat - 1)) == z
theorem begins_11 (r : Int) (w : World) (hg : Gl w) (h0 : 0 ≤ r) (h1 : r < 2097152) :
    Calls Tryz.prog 178 #[.int .i64 r, .int .i64 1, .int .i64 1] w fun e w' => e = .returned (.bool (begB r 1 1)) ∧ w = w' := by
  have hb : begB r 1 1 = (lenF r == 1 || lenF r == 1) := by
    unfold begB
    rw [show ((1 : Int) - 1).toNat = 0 from rfl]
    simp
  rw [hb]
  clear hb
  have hor : bits .or .i64 r 0 = r := or0 r (by omega) (by omega)
  by_cases hl : lenF r = 1
  · go_enter Tryz.func178, Tryz.ntmps178
    go_wp2_with (go_at_call 157; refine (len_any _ _ (by assumption)).mono ?_; rintro e w' ⟨rfl, rfl⟩)
    go_ret
    exact ⟨ret_bool (by simp [hl]), rfl⟩
  · have hf : (lenF r == 1) = false := by simpa using hl
    go_enter Tryz.func178, Tryz.ntmps178
    go_wp2_with (go_at_call 157; refine (len_any _ _ (by assumption)).mono ?_; rintro e w' ⟨rfl, rfl⟩)
    go_ret
    exact ⟨ret_bool (by simp [hl]), rfl⟩
theorem begins_12 (r : Int) (w : World) (hg : Gl w) (h0 : 0 ≤ r) (h1 : r < 2097152) :
    Calls Tryz.prog 178 #[.int .i64 r, .int .i64 1, .int .i64 2] w fun e w' => e = .returned (.bool (begB r 1 2)) ∧ w = w' := by
  have hb : begB r 1 2 = (lenF (r * 64) == 2 || lenF (r * 64 + 63) == 2) := by
    unfold begB
    rw [show ((2 : Int) - 1).toNat = 1 from rfl]
    simp
  rw [hb]
  clear hb
  have hor : bits .or .i64 (r * 64) 63 = r * 64 + 63 := or6 (r * 64) 63 (by omega) (by omega) (by omega) (by omega) (by omega)
  by_cases hl : lenF (r * 64) = 2
  · go_enter Tryz.func178, Tryz.ntmps178
    go_wp2_with (go_at_call 157; refine (len_any _ _ (by assumption)).mono ?_; rintro e w' ⟨rfl, rfl⟩)
    go_ret
    exact ⟨ret_bool (by simp [hl]), rfl⟩
  · have hf : (lenF (r * 64) == 2) = false := by simpa using hl
    go_enter Tryz.func178, Tryz.ntmps178
    go_wp2_with (go_at_call 157; refine (len_any _ _ (by assumption)).mono ?_; rintro e w' ⟨rfl, rfl⟩)
    go_ret
    exact ⟨ret_bool (by simp [hl]), rfl⟩
theorem begins_22 (r : Int) (w : World) (hg : Gl w) (h0 : 0 ≤ r) (h1 : r < 2097152) :
    Calls Tryz.prog 178 #[.int .i64 r, .int .i64 2, .int .i64 2] w fun e w' => e = .returned (.bool (begB r 2 2)) ∧ w = w' := by
  have hb : begB r 2 2 = (lenF r == 2 || lenF r == 2) := by
    unfold begB
    rw [show ((2 : Int) - 2).toNat = 0 from rfl]
    simp
  rw [hb]
  clear hb
  have hor : bits .or .i64 r 0 = r := or0 r (by omega) (by omega)
  by_cases hl : lenF r = 2
  · go_enter Tryz.func178, Tryz.ntmps178
    go_wp2_with (go_at_call 157; refine (len_any _ _ (by assumption)).mono ?_; rintro e w' ⟨rfl, rfl⟩)
    go_ret
    exact ⟨ret_bool (by simp [hl]), rfl⟩
  · have hf : (lenF r == 2) = false := by simpa using hl
    go_enter Tryz.func178, Tryz.ntmps178
    go_wp2_with (go_at_call 157; refine (len_any _ _ (by assumption)).mono ?_; rintro e w' ⟨rfl, rfl⟩)
    go_ret
    exact ⟨ret_bool (by simp [hl]), rfl⟩
theorem begins_13 (r : Int) (w : World) (hg : Gl w) (h0 : 0 ≤ r) (h1 : r < 2097152) :
    Calls Tryz.prog 178 #[.int .i64 r, .int .i64 1, .int .i64 3] w fun e w' => e = .returned (.bool (begB r 1 3)) ∧ w = w' := by
  have hb : begB r 1 3 = (lenF (r * 4096) == 3 || lenF (r * 4096 + 4095) == 3) := by
    unfold begB
    rw [show ((3 : Int) - 1).toNat = 2 from rfl]
    simp
  rw [hb]
  clear hb
  have hor : bits .or .i64 (r * 4096) 4095 = r * 4096 + 4095 := or12 (r * 4096) 4095 (by omega) (by omega) (by omega) (by omega) (by omega)
  by_cases hl : lenF (r * 4096) = 3
  · go_enter Tryz.func178, Tryz.ntmps178
    go_wp2_with (go_at_call 157; refine (len_any _ _ (by assumption)).mono ?_; rintro e w' ⟨rfl, rfl⟩)
    go_ret
    exact ⟨ret_bool (by simp [hl]), rfl⟩
  · have hf : (lenF (r * 4096) == 3) = false := by simpa using hl
    go_enter Tryz.func178, Tryz.ntmps178
    go_wp2_with (go_at_call 157; refine (len_any _ _ (by assumption)).mono ?_; rintro e w' ⟨rfl, rfl⟩)
    go_ret
    exact ⟨ret_bool (by simp [hl]), rfl⟩
theorem begins_23 (r : Int) (w : World) (hg : Gl w) (h0 : 0 ≤ r) (h1 : r < 2097152) :
    Calls Tryz.prog 178 #[.int .i64 r, .int .i64 2, .int .i64 3] w fun e w' => e = .returned (.bool (begB r 2 3)) ∧ w = w' := by
  have hb : begB r 2 3 = (lenF (r * 64) == 3 || lenF (r * 64 + 63) == 3) := by
    unfold begB
    rw [show ((3 : Int) - 2).toNat = 1 from rfl]
    simp
  rw [hb]
  clear hb
  have hor : bits .or .i64 (r * 64) 63 = r * 64 + 63 := or6 (r * 64) 63 (by omega) (by omega) (by omega) (by omega) (by omega)
  by_cases hl : lenF (r * 64) = 3
  · go_enter Tryz.func178, Tryz.ntmps178
    go_wp2_with (go_at_call 157; refine (len_any _ _ (by assumption)).mono ?_; rintro e w' ⟨rfl, rfl⟩)
    go_ret
    exact ⟨ret_bool (by simp [hl]), rfl⟩
  · have hf : (lenF (r * 64) == 3) = false := by simpa using hl
    go_enter Tryz.func178, Tryz.ntmps178
    go_wp2_with (go_at_call 157; refine (len_any _ _ (by assumption)).mono ?_; rintro e w' ⟨rfl, rfl⟩)
    go_ret
    exact ⟨ret_bool (by simp [hl]), rfl⟩
theorem begins_33 (r : Int) (w : World) (hg : Gl w) (h0 : 0 ≤ r) (h1 : r < 2097152) :
    Calls Tryz.prog 178 #[.int .i64 r, .int .i64 3, .int .i64 3] w fun e w' => e = .returned (.bool (begB r 3 3)) ∧ w = w' := by
  have hb : begB r 3 3 = (lenF r == 3 || lenF r == 3) := by
    unfold begB
    rw [show ((3 : Int) - 3).toNat = 0 from rfl]
    simp
  rw [hb]
  clear hb
  have hor : bits .or .i64 r 0 = r := or0 r (by omega) (by omega)
  by_cases hl : lenF r = 3
  · go_enter Tryz.func178, Tryz.ntmps178
    go_wp2_with (go_at_call 157; refine (len_any _ _ (by assumption)).mono ?_; rintro e w' ⟨rfl, rfl⟩)
    go_ret
    exact ⟨ret_bool (by simp [hl]), rfl⟩
  · have hf : (lenF r == 3) = false := by simpa using hl
    go_enter Tryz.func178, Tryz.ntmps178
    go_wp2_with (go_at_call 157; refine (len_any _ _ (by assumption)).mono ?_; rintro e w' ⟨rfl, rfl⟩)
    go_ret
    exact ⟨ret_bool (by simp [hl]), rfl⟩
theorem begins_14 (r : Int) (w : World) (hg : Gl w) (h0 : 0 ≤ r) (h1 : r < 2097152) :
    Calls Tryz.prog 178 #[.int .i64 r, .int .i64 1, .int .i64 4] w fun e w' => e = .returned (.bool (begB r 1 4)) ∧ w = w' := by
  have hb : begB r 1 4 = (lenF (r * 262144) == 4 || lenF (r * 262144 + 262143) == 4) := by
    unfold begB
    rw [show ((4 : Int) - 1).toNat = 3 from rfl]
    simp
  rw [hb]
  clear hb
  have hor : bits .or .i64 (r * 262144) 262143 = r * 262144 + 262143 := or18 (r * 262144) 262143 (by omega) (by omega) (by omega) (by omega) (by omega)
  by_cases hl : lenF (r * 262144) = 4
  · go_enter Tryz.func178, Tryz.ntmps178
    go_wp2_with (go_at_call 157; refine (len_any _ _ (by assumption)).mono ?_; rintro e w' ⟨rfl, rfl⟩)
    go_ret
    exact ⟨ret_bool (by simp [hl]), rfl⟩
  · have hf : (lenF (r * 262144) == 4) = false := by simpa using hl
    go_enter Tryz.func178, Tryz.ntmps178
    go_wp2_with (go_at_call 157; refine (len_any _ _ (by assumption)).mono ?_; rintro e w' ⟨rfl, rfl⟩)
    go_ret
    exact ⟨ret_bool (by simp [hl]), rfl⟩
theorem begins_24 (r : Int) (w : World) (hg : Gl w) (h0 : 0 ≤ r) (h1 : r < 2097152) :
    Calls Tryz.prog 178 #[.int .i64 r, .int .i64 2, .int .i64 4] w fun e w' => e = .returned (.bool (begB r 2 4)) ∧ w = w' := by
  have hb : begB r 2 4 = (lenF (r * 4096) == 4 || lenF (r * 4096 + 4095) == 4) := by
    unfold begB
    rw [show ((4 : Int) - 2).toNat = 2 from rfl]
    simp
  rw [hb]
  clear hb
  have hor : bits .or .i64 (r * 4096) 4095 = r * 4096 + 4095 := or12 (r * 4096) 4095 (by omega) (by omega) (by omega) (by omega) (by omega)
  by_cases hl : lenF (r * 4096) = 4
  · go_enter Tryz.func178, Tryz.ntmps178
    go_wp2_with (go_at_call 157; refine (len_any _ _ (by assumption)).mono ?_; rintro e w' ⟨rfl, rfl⟩)
    go_ret
    exact ⟨ret_bool (by simp [hl]), rfl⟩
  · have hf : (lenF (r * 4096) == 4) = false := by simpa using hl
    go_enter Tryz.func178, Tryz.ntmps178
    go_wp2_with (go_at_call 157; refine (len_any _ _ (by assumption)).mono ?_; rintro e w' ⟨rfl, rfl⟩)
    go_ret
    exact ⟨ret_bool (by simp [hl]), rfl⟩
theorem begins_34 (r : Int) (w : World) (hg : Gl w) (h0 : 0 ≤ r) (h1 : r < 2097152) :
    Calls Tryz.prog 178 #[.int .i64 r, .int .i64 3, .int .i64 4] w fun e w' => e = .returned (.bool (begB r 3 4)) ∧ w = w' := by
  have hb : begB r 3 4 = (lenF (r * 64) == 4 || lenF (r * 64 + 63) == 4) := by
    unfold begB
    rw [show ((4 : Int) - 3).toNat = 1 from rfl]
    simp
  rw [hb]
  clear hb
  have hor : bits .or .i64 (r * 64) 63 = r * 64 + 63 := or6 (r * 64) 63 (by omega) (by omega) (by omega) (by omega) (by omega)
  by_cases hl : lenF (r * 64) = 4
  · go_enter Tryz.func178, Tryz.ntmps178
    go_wp2_with (go_at_call 157; refine (len_any _ _ (by assumption)).mono ?_; rintro e w' ⟨rfl, rfl⟩)
    go_ret
    exact ⟨ret_bool (by simp [hl]), rfl⟩
  · have hf : (lenF (r * 64) == 4) = false := by simpa using hl
    go_enter Tryz.func178, Tryz.ntmps178
    go_wp2_with (go_at_call 157; refine (len_any _ _ (by assumption)).mono ?_; rintro e w' ⟨rfl, rfl⟩)
    go_ret
    exact ⟨ret_bool (by simp [hl]), rfl⟩
theorem begins_44 (r : Int) (w : World) (hg : Gl w) (h0 : 0 ≤ r) (h1 : r < 2097152) :
    Calls Tryz.prog 178 #[.int .i64 r, .int .i64 4, .int .i64 4] w fun e w' => e = .returned (.bool (begB r 4 4)) ∧ w = w' := by
  have hb : begB r 4 4 = (lenF r == 4 || lenF r == 4) := by
    unfold begB
    rw [show ((4 : Int) - 4).toNat = 0 from rfl]
    simp
  rw [hb]
  clear hb
  have hor : bits .or .i64 r 0 = r := or0 r (by omega) (by omega)
  by_cases hl : lenF r = 4
  · go_enter Tryz.func178, Tryz.ntmps178
    go_wp2_with (go_at_call 157; refine (len_any _ _ (by assumption)).mono ?_; rintro e w' ⟨rfl, rfl⟩)
    go_ret
    exact ⟨ret_bool (by simp [hl]), rfl⟩
  · have hf : (lenF r == 4) = false := by simpa using hl
    go_enter Tryz.func178, Tryz.ntmps178
    go_wp2_with (go_at_call 157; refine (len_any _ _ (by assumption)).mono ?_; rintro e w' ⟨rfl, rfl⟩)
    go_ret
    exact ⟨ret_bool (by simp [hl]), rfl⟩
theorem begins_any (r n z : Int) (w : World) (hg : Gl w) (h0 : 0 ≤ r) (h1 : r < 2097152) (hn : 1 ≤ n) (hnz : n ≤ z) (hz : z ≤ 4) :
    Calls Tryz.prog 178 #[.int .i64 r, .int .i64 n, .int .i64 z] w fun e w' => e = .returned (.bool (begB r n z)) ∧ w = w' := by
  have hc : (n = 1 ∧ z = 1) ∨ (n = 1 ∧ z = 2) ∨ (n = 2 ∧ z = 2) ∨ (n = 1 ∧ z = 3) ∨ (n = 2 ∧ z = 3) ∨ (n = 3 ∧ z = 3) ∨ (n = 1 ∧ z = 4) ∨ (n = 2 ∧ z = 4) ∨ (n = 3 ∧ z = 4) ∨ (n = 4 ∧ z = 4) := by omega
  rcases hc with ⟨rfl, rfl⟩ | ⟨rfl, rfl⟩ | ⟨rfl, rfl⟩ | ⟨rfl, rfl⟩ | ⟨rfl, rfl⟩ | ⟨rfl, rfl⟩ | ⟨rfl, rfl⟩ | ⟨rfl, rfl⟩ | ⟨rfl, rfl⟩ | ⟨rfl, rfl⟩
  · exact begins_11 r w hg h0 h1
  · exact begins_12 r w hg h0 h1
  · exact begins_22 r w hg h0 h1
  · exact begins_13 r w hg h0 h1
  · exact begins_23 r w hg h0 h1
  · exact begins_33 r w hg h0 h1
  · exact begins_14 r w hg h0 h1
  · exact begins_24 r w hg h0 h1
  · exact begins_34 r w hg h0 h1
  · exact begins_44 r w hg h0 h1
theorem begins_yes (r n z : Int) (w : World) (hg : Gl w) (h0 : 0 ≤ r) (h1 : r < 2097152) (hn : 1 ≤ n) (hnz : n ≤ z) (hz : z ≤ 4) (h : begB r n z = true) :
    Calls Tryz.prog 178 #[.int .i64 r, .int .i64 n, .int .i64 z] w fun e w' => e = .returned (.bool true) ∧ w = w' := by
  have := begins_any r n z w hg h0 h1 hn hnz hz; rwa [h] at this
theorem begins_no (r n z : Int) (w : World) (hg : Gl w) (h0 : 0 ≤ r) (h1 : r < 2097152) (hn : 1 ≤ n) (hnz : n ≤ z) (hz : z ≤ 4) (h : begB r n z = false) :
    Calls Tryz.prog 178 #[.int .i64 r, .int .i64 n, .int .i64 z] w fun e w' => e = .returned (.bool false) ∧ w = w' := by
  have := begins_any r n z w hg h0 h1 hn hnz hz; rwa [h] at this
end Go.Proofs.YtppabkllconkjaaGreatDoor.U
/- The contracts of utf8.read and Next. -/
namespace Go.Proofs.YtppabkllconkjaaGreatDoor.U
open Go.RowKit
set_option linter.unusedVariables false
set_option linter.unusedSimpArgs false
set_option maxRecDepth 100000
theorem nx128 : ∀ a < 256, 128 ≤ a → a < 192 → a ^^^ 128 = a - 128 := by decide +kernel
theorem nx192 : ∀ a < 256, 192 ≤ a → a ^^^ 192 = a - 192 := by decide +kernel
theorem nx224 : ∀ a < 256, 224 ≤ a → a ^^^ 224 = a - 224 := by decide +kernel
theorem nx240 : ∀ a < 256, 240 ≤ a → a ^^^ 240 = a - 240 := by decide +kernel
theorem xor_128 (a : Nat) (h0 : 128 ≤ a) (h1 : a < 192) : bits .xor .u8 (a : Int) 128 = (a : Int) - 128 := by
  have := u8_xor_nat a 128 (by omega) (by omega)
  rw [nx128 a (by omega) h0 h1] at this
  exact this.trans (by omega)
theorem xor_0 (a : Nat) (h1 : a < 256) : bits .xor .u8 (a : Int) 0 = (a : Int) := by
  have := u8_xor_nat a 0 (by omega) (by omega)
  rw [Nat.xor_zero] at this
  exact this
theorem xor_192 (a : Nat) (h0 : 192 ≤ a) (h1 : a < 256) : bits .xor .u8 (a : Int) 192 = (a : Int) - 192 := by
  have := u8_xor_nat a 192 (by omega) (by omega)
  rw [nx192 a (by omega) h0] at this
  exact this.trans (by omega)
theorem xor_224 (a : Nat) (h0 : 224 ≤ a) (h1 : a < 256) : bits .xor .u8 (a : Int) 224 = (a : Int) - 224 := by
  have := u8_xor_nat a 224 (by omega) (by omega)
  rw [nx224 a (by omega) h0] at this
  exact this.trans (by omega)
theorem xor_240 (a : Nat) (h0 : 240 ≤ a) (h1 : a < 256) : bits .xor .u8 (a : Int) 240 = (a : Int) - 240 := by
  have := u8_xor_nat a 240 (by omega) (by omega)
  rw [nx240 a (by omega) h0] at this
  exact this.trans (by omega)
/-- The state of utf8.read behind k rounds: what has been read may begin a scalar of z bytes. -/
def V (z k : Nat) (r lo hi : Int) : Prop :=
  (z = 1 ∧ k = 1) ∨
  (z = 2 ∧ k = 1 ∧ lo = 128 ∧ hi = 191 ∧ 2 ≤ r ∧ r < 32) ∨ (z = 2 ∧ k = 2) ∨
  (z = 3 ∧ k = 1 ∧ 0 ≤ r ∧ r < 16 ∧ (r = 0 ∧ lo = 160 ∨ r ≠ 0 ∧ lo = 128) ∧ (r = 13 ∧ hi = 159 ∨ r ≠ 13 ∧ hi = 191)) ∨
  (z = 3 ∧ k = 2 ∧ lo = 128 ∧ hi = 191 ∧ 32 ≤ r ∧ r < 1024 ∧ (r < 864 ∨ 895 < r)) ∨ (z = 3 ∧ k = 3) ∨
  (z = 4 ∧ k = 1 ∧ 0 ≤ r ∧ r ≤ 4 ∧ (r = 0 ∧ lo = 144 ∨ r ≠ 0 ∧ lo = 128) ∧ (r = 4 ∧ hi = 143 ∨ r ≠ 4 ∧ hi = 191)) ∨
  (z = 4 ∧ k = 2 ∧ lo = 128 ∧ hi = 191 ∧ 16 ≤ r ∧ r < 272) ∨
  (z = 4 ∧ k = 3 ∧ lo = 128 ∧ hi = 191 ∧ 1024 ≤ r ∧ r < 17408) ∨ (z = 4 ∧ k = 4)
theorem V_bd {z k : Nat} {r lo hi : Int} (h : V z k r lo hi) (hk : k < z) : 0 ≤ r ∧ r < 32768 ∧ 128 ≤ lo ∧ hi ≤ 191 := by
  unfold V at h; omega
theorem V_next {z k : Nat} {r lo hi b : Int} (h : V z k r lo hi) (hk : k < z) (h0 : lo ≤ b) (h1 : b ≤ hi) : V z (k + 1) (r * 64 + (b - 128)) 128 191 := by
  unfold V at h
  rcases h with ⟨rfl, rfl⟩ | ⟨rfl, rfl, rfl, rfl, h⟩ | ⟨rfl, rfl⟩ | ⟨rfl, rfl, h⟩ | ⟨rfl, rfl, rfl, rfl, h⟩ | ⟨rfl, rfl⟩ | ⟨rfl, rfl, h⟩ | ⟨rfl, rfl, rfl, rfl, h⟩ | ⟨rfl, rfl, rfl, rfl, h⟩ | ⟨rfl, rfl⟩
  · omega
  · exact .inr (.inr (.inl ⟨rfl, rfl⟩))
  · omega
  · exact .inr (.inr (.inr (.inr (.inl ⟨rfl, rfl, rfl, rfl, by omega⟩))))
  · exact .inr (.inr (.inr (.inr (.inr (.inl ⟨rfl, rfl⟩)))))
  · omega
  · exact .inr (.inr (.inr (.inr (.inr (.inr (.inr (.inl ⟨rfl, rfl, rfl, rfl, by omega⟩)))))))
  · exact .inr (.inr (.inr (.inr (.inr (.inr (.inr (.inr (.inl ⟨rfl, rfl, rfl, rfl, by omega⟩))))))))
  · exact .inr (.inr (.inr (.inr (.inr (.inr (.inr (.inr (.inr ⟨rfl, rfl⟩))))))))
  · omega
theorem begB_iff (x : Int) (n z : Int) (d : Nat) (hd : (z - n).toNat = d) : begB x n z = true ↔ lenF (x * 64 ^ d) = z ∨ lenF (x * 64 ^ d + (64 ^ d - 1)) = z := by
  subst hd
  simp [begB]
theorem V_beg {z k : Nat} {r lo hi b : Int} (h : V z k r lo hi) (hk : k < z) (h0 : 128 ≤ b) (h1 : b ≤ 191) :
    begB (r * 64 + (b - 128)) ((k : Int) + 1) (z : Int) = true ↔ lo ≤ b ∧ b ≤ hi := by
  unfold V at h
  rcases h with ⟨rfl, rfl⟩ | ⟨rfl, rfl, rfl, rfl, h⟩ | ⟨rfl, rfl⟩ | ⟨rfl, rfl, h⟩ | ⟨rfl, rfl, rfl, rfl, h⟩ | ⟨rfl, rfl⟩ | ⟨rfl, rfl, h⟩ | ⟨rfl, rfl, rfl, rfl, h⟩ | ⟨rfl, rfl, rfl, rfl, h⟩ | ⟨rfl, rfl⟩
  · omega
  · rw [begB_iff _ _ _ 0 rfl]; show (lenF _ = 2 ∨ lenF _ = 2) ↔ _; rw [lenF_2, lenF_2]; omega
  · omega
  · rw [begB_iff _ _ _ 1 rfl]; show (lenF _ = 3 ∨ lenF _ = 3) ↔ _; rw [lenF_3, lenF_3]; omega
  · rw [begB_iff _ _ _ 0 rfl]; show (lenF _ = 3 ∨ lenF _ = 3) ↔ _; rw [lenF_3, lenF_3]; omega
  · omega
  · rw [begB_iff _ _ _ 2 rfl]; show (lenF _ = 4 ∨ lenF _ = 4) ↔ _; rw [lenF_4, lenF_4]; omega
  · rw [begB_iff _ _ _ 1 rfl]; show (lenF _ = 4 ∨ lenF _ = 4) ↔ _; rw [lenF_4, lenF_4]; omega
  · rw [begB_iff _ _ _ 0 rfl]; show (lenF _ = 4 ∨ lenF _ = 4) ↔ _; rw [lenF_4, lenF_4]; omega
  · omega
def szN (c : Nat) : Nat := if c < 192 then 1 else if c < 224 then 2 else if c < 240 then 3 else 4
theorem szF_of {c : Nat} (h : c < 256) : szF (c / 16) = (szN c : Nat) := by
  unfold szF szN
  by_cases h1 : c < 192
  · rw [if_pos (by omega), if_pos h1]; rfl
  by_cases h2 : c < 224
  · rw [if_neg (by omega), if_pos (by omega), if_neg h1, if_pos h2]; rfl
  by_cases h3 : c < 240
  · rw [if_neg (by omega), if_neg (by omega), if_pos (by omega), if_neg h1, if_neg h2, if_pos h3]; rfl
  · rw [if_neg (by omega), if_neg (by omega), if_neg (by omega), if_neg h1, if_neg h2, if_neg h3]; rfl
theorem szN_bd (c : Nat) : 1 ≤ szN c ∧ szN c ≤ 4 := by
  unfold szN; repeat' split
  all_goals omega
/-- What the first byte leaves: its bits without the mark of its length. -/
theorem first_of {c : Nat} (h : c < 256) : ∃ x : Int, bits .xor .u8 (c : Int) (mrkF (szN c)) = x ∧ 0 ≤ x ∧ x < 192 ∧
    (0 ≤ ldN c → begB x 1 (szN c : Nat) = true ∧ x = ldR c ∧ (ldN c).toNat = szN c - 1 ∧ V (szN c) 1 (ldR c) (ldLo c) (ldHi c)) ∧
    (ldN c < 0 → begB x 1 (szN c : Nat) = false) := by
  have hz : ∀ {b : Bool} {p : Prop}, (b = true ↔ p) → ¬ p → b = false := fun {b} {p} h1 h2 => by
    cases b
    · rfl
    · exact absurd (h1.1 rfl) h2
  by_cases h1 : c < 192
  · have e : szN c = 1 := by unfold szN; rw [if_pos h1]
    rw [e]
    refine ⟨c, xor_0 c h, by omega, by omega, fun hl => ?_, fun hl => ?_⟩
    · have hc : c < 128 := by
        by_cases g : c < 128
        · exact g
        · unfold ldN at hl; rw [if_neg (by omega), if_pos (by omega)] at hl; omega
      have e2 : ldR c = c := by unfold ldR; rw [if_pos (by omega)]
      have e3 : ldN c = 0 := by unfold ldN; rw [if_pos (by omega)]
      refine ⟨?_, e2.symm, by rw [e3]; rfl, .inl ⟨rfl, rfl⟩⟩
      rw [begB_iff _ _ _ 0 rfl]; show (lenF _ = 1 ∨ lenF _ = 1); rw [lenF_1, lenF_1]; omega
    · have hc : ¬ c < 128 := by
        intro g
        unfold ldN at hl; rw [if_pos (by omega)] at hl; omega
      refine hz (begB_iff _ _ _ 0 rfl) ?_; show ¬ (lenF _ = 1 ∨ lenF _ = 1); rw [lenF_1, lenF_1]; omega
  by_cases h2 : c < 224
  · have e : szN c = 2 := by unfold szN; rw [if_neg h1, if_pos h2]
    rw [e]
    refine ⟨(c : Int) - 192, xor_192 c (by omega) h, by omega, by omega, fun hl => ?_, fun hl => ?_⟩
    · have hc : ¬ c < 194 := by
        intro g
        unfold ldN at hl; rw [if_neg (by omega), if_pos (by omega)] at hl; omega
      have e2 : ldR c = c - 192 := by unfold ldR; rw [if_neg (by omega), if_pos (by omega)]
      have e3 : ldN c = 1 := by unfold ldN; rw [if_neg (by omega), if_neg (by omega), if_pos (by omega)]
      have e4 : ldLo c = 128 := by unfold ldLo; rw [if_neg (by omega), if_neg (by omega)]
      have e5 : ldHi c = 191 := by unfold ldHi; rw [if_neg (by omega), if_neg (by omega)]
      refine ⟨?_, e2.symm, by rw [e3]; rfl, .inr (.inl ⟨rfl, rfl, e4, e5, by omega, by omega⟩)⟩
      rw [begB_iff _ _ _ 1 rfl]; show (lenF _ = 2 ∨ lenF _ = 2); rw [lenF_2, lenF_2]; omega
    · have hc : c < 194 := by
        by_cases g : c < 194
        · exact g
        · unfold ldN at hl; rw [if_neg (by omega), if_neg (by omega), if_pos (by omega)] at hl; omega
      refine hz (begB_iff _ _ _ 1 rfl) ?_; show ¬ (lenF _ = 2 ∨ lenF _ = 2); rw [lenF_2, lenF_2]; omega
  by_cases h3 : c < 240
  · have e : szN c = 3 := by unfold szN; rw [if_neg h1, if_neg h2, if_pos h3]
    rw [e]
    refine ⟨(c : Int) - 224, xor_224 c (by omega) h, by omega, by omega, fun hl => ?_, fun hl => ?_⟩
    · have e2 : ldR c = c - 224 := by unfold ldR; rw [if_neg (by omega), if_neg (by omega), if_pos (by omega)]
      have e3 : ldN c = 2 := by unfold ldN; rw [if_neg (by omega), if_neg (by omega), if_neg (by omega), if_pos (by omega)]
      have e4 : ldR c = 0 ∧ ldLo c = 160 ∨ ldR c ≠ 0 ∧ ldLo c = 128 := by
        rw [e2]; unfold ldLo
        by_cases g : (c : Int) = 224
        · rw [if_pos g]; omega
        · rw [if_neg g, if_neg (by omega)]; omega
      have e5 : ldR c = 13 ∧ ldHi c = 159 ∨ ldR c ≠ 13 ∧ ldHi c = 191 := by
        rw [e2]; unfold ldHi
        by_cases g : (c : Int) = 237
        · rw [if_pos g]; omega
        · rw [if_neg g, if_neg (by omega)]; omega
      refine ⟨?_, e2.symm, by rw [e3]; rfl, .inr (.inr (.inr (.inl ⟨rfl, rfl, by omega, by omega, e4, e5⟩)))⟩
      rw [begB_iff _ _ _ 2 rfl]; show (lenF _ = 3 ∨ lenF _ = 3); rw [lenF_3, lenF_3]; omega
    · unfold ldN at hl; rw [if_neg (by omega), if_neg (by omega), if_neg (by omega), if_pos (by omega)] at hl; omega
  · have e : szN c = 4 := by unfold szN; rw [if_neg h1, if_neg h2, if_neg h3]
    rw [e]
    refine ⟨(c : Int) - 240, xor_240 c (by omega) h, by omega, by omega, fun hl => ?_, fun hl => ?_⟩
    · have hc : c < 245 := by
        by_cases g : c < 245
        · exact g
        · unfold ldN at hl; rw [if_neg (by omega), if_neg (by omega), if_neg (by omega), if_neg (by omega), if_neg (by omega)] at hl; omega
      have e2 : ldR c = c - 240 := by unfold ldR; rw [if_neg (by omega), if_neg (by omega), if_neg (by omega)]
      have e3 : ldN c = 3 := by unfold ldN; rw [if_neg (by omega), if_neg (by omega), if_neg (by omega), if_neg (by omega), if_pos (by omega)]
      have e4 : ldR c = 0 ∧ ldLo c = 144 ∨ ldR c ≠ 0 ∧ ldLo c = 128 := by
        rw [e2]; unfold ldLo
        by_cases g : (c : Int) = 240
        · rw [if_neg (by omega), if_pos g]; omega
        · rw [if_neg (by omega), if_neg g]; omega
      have e5 : ldR c = 4 ∧ ldHi c = 143 ∨ ldR c ≠ 4 ∧ ldHi c = 191 := by
        rw [e2]; unfold ldHi
        by_cases g : (c : Int) = 244
        · rw [if_neg (by omega), if_pos g]; omega
        · rw [if_neg (by omega), if_neg g]; omega
      refine ⟨?_, e2.symm, by rw [e3]; rfl, .inr (.inr (.inr (.inr (.inr (.inr (.inl ⟨rfl, rfl, by omega, by omega, e4, e5⟩))))))⟩
      rw [begB_iff _ _ _ 3 rfl]; show (lenF _ = 4 ∨ lenF _ = 4); rw [lenF_4, lenF_4]; omega
    · have hc : ¬ c < 245 := by
        intro g
        unfold ldN at hl; rw [if_neg (by omega), if_neg (by omega), if_neg (by omega), if_neg (by omega), if_pos (by omega)] at hl; omega
      refine hz (begB_iff _ _ _ 3 rfl) ?_; show ¬ (lenF _ = 4 ∨ lenF _ = 4); rw [lenF_4, lenF_4]; omega
def RdR (z : Nat) (l : List UInt8) (R : Int × Nat) (k : Nat) (r : Int) : Prop :=
  (k = 0 ∧ r = 0 ∧ dec l = R) ∨ (1 ≤ k ∧ k ≤ z ∧ ∃ lo hi, V z k r lo hi ∧ goD (z - k) (l.drop k) k r lo hi = R)
theorem drop_in (s : ByteArray) (a k : Nat) (h : a + k < s.size) : (s.data.toList.drop a).drop k = s[a + k] :: (s.data.toList.drop a).drop (k + 1) := by
  have e := List.drop_eq_getElem_cons (l := s.data.toList) (i := a + k) (by simpa using h)
  rw [List.drop_drop, List.drop_drop, e]
  rfl
theorem drop_out (s : ByteArray) (a k : Nat) (h : ¬ a + k < s.size) : (s.data.toList.drop a).drop k = [] := by
  rw [List.drop_drop]
  apply List.drop_eq_nil_of_le
  simp
  have : s.data.size = s.size := rfl
  omega
theorem ret_pair {a a' b b' : Int} (h : a = a') (h' : b = b') : Ending.returned (.tuple #[.int .i64 a, .int .i64 b]) = .returned (.tuple #[.int .i64 a', .int .i64 b']) := by rw [h, h']
set_option maxHeartbeats 1000000 in
theorem read_any (s : ByteArray) (at' : Nat) (w : World) (hg : Gl w) (hs : s.size ≤ 100000) (hlt : at' < s.size) :
    Calls Tryz.prog 156 #[.string s, .int .i64 at'] w fun e w' => e = .returned (.tuple #[.int .i64 (dec (s.data.toList.drop at')).1, .int .i64 (dec (s.data.toList.drop at')).2]) ∧ w = w' := by
  have hc := hg.len (s[at'].toNat / 16) (by have := s[at'].toNat_lt; omega)
  rw [szF_of s[at'].toNat_lt] at hc
  have hm := hg.mrk (szN s[at'].toNat) (by have := szN_bd s[at'].toNat; omega)
  obtain ⟨x, hx, hx0, hx1, hxy, hxn⟩ := first_of s[at'].toNat_lt
  have hz := szN_bd s[at'].toNat
  have D0 : Hid ((s.data.toList.drop at').drop 0 = s[at'] :: (s.data.toList.drop at').drop 1) := Lib.hid (drop_in s at' 0 hlt)
  obtain ⟨R, HR⟩ : ∃ R, Hid (dec (s.data.toList.drop at') = R) := ⟨_, Lib.hid rfl⟩
  rw [HR.out]
  obtain ⟨l, HL⟩ : ∃ l, Hid (s.data.toList.drop at' = l) := ⟨_, Lib.hid rfl⟩
  have HRl : Hid (dec l = R) := Lib.hid (by rw [← HL.out]; exact HR.out)
  have D1 : Hid (l = s[at'] :: l.drop 1) := Lib.hid (by have := D0.out; rw [HL.out] at this; simpa using this)
  have DI : Hid (∀ k, (h : at' + k < s.size) → l.drop k = s[at' + k] :: l.drop (k + 1)) := Lib.hid (by intro k h; rw [← HL.out]; exact drop_in s at' k h)
  have DO : Hid (∀ k, ¬ at' + k < s.size → l.drop k = []) := Lib.hid (by intro k h; rw [← HL.out]; exact drop_out s at' k h)
  clear D0 HR HL
  obtain ⟨z, HZ⟩ : ∃ z, Hid (szN s[at'].toNat = z) := ⟨_, Lib.hid rfl⟩
  rw [HZ.out] at hc hm hx hxy hxn hz
  obtain ⟨c, HC⟩ : ∃ c : Nat, Hid (s[at'].toNat = c) := ⟨_, Lib.hid rfl⟩
  have HY : Hid (0 ≤ ldN c → begB x 1 z = true ∧ x = ldR c ∧ (ldN c).toNat = z - 1 ∧ V z 1 (ldR c) (ldLo c) (ldHi c)) := Lib.hid (by rw [HC.out] at hxy; exact hxy)
  have HN : Hid (ldN c < 0 → begB x 1 z = false) := Lib.hid (by rw [HC.out] at hxn; exact hxn)
  have Hx := Lib.hid hx
  clear hxy hxn hx
  obtain ⟨hz1, hz4⟩ := hz
  obtain ⟨m, Hm⟩ : ∃ m : Int, Hid (mrkF z = m) := ⟨_, Lib.hid rfl⟩
  rw [Hm.out] at hm
  have hx : bits .xor .u8 (s[at'].toNat : Int) m = x := by have := Hx.out; rw [Hm.out] at this; exact this
  have HX := Lib.hid hx; clear hx Hx Hm
  have HM := Lib.hid hm; clear hm
  have HG := Lib.hid hg; clear hg
  have hi : 0 ≤ (s[at'].toNat : Int) / 16 ∧ (s[at'].toNat : Int) / 16 < 16 := by have := s[at'].toNat_lt; omega
  go_enter Tryz.func156, Tryz.ntmps156
  go_wp2_with fail
  go_step3
  go_wp2_with fail
  go_step3
  go_wp2_with fail
  clear hc hi
  go_loopg [4, 5] z (fun g r k wr => ∃ (k' : Nat) (r' : Int), k' + g = z ∧ w = wr ∧ r = .int .i64 r' ∧ k = .int .i64 k' ∧ RdR z l R k' r')
  case atStart => exact ⟨0, 0, by omega, rfl, rfl, rfl, .inl ⟨rfl, rfl, HRl.out⟩⟩
  case round =>
    obtain ⟨k, r, hkg, rfl, rfl, rfl, hR⟩ := hrel
    rcases hR with ⟨rfl, rfl, hd⟩ | ⟨hk, hkz, lo, hi, hV, hG⟩
    · have HD := Lib.hid hd; clear hd
      have hm := HM.out
      have hg := HG.out
      have hx := HX.out
      have hb := s[at'].toNat_lt
      by_cases hl : ldN c < 0
      · have hor : bits .or .i64 0 x = x := by
          by_cases hy : x < 64
          · exact (or6 0 x (by omega) (by omega) (by omega) hx0 hy).trans (by omega)
          · exact (or12 0 x (by omega) (by omega) (by omega) hx0 (by omega)).trans (by omega)
        have hB : Hid (begB x 1 z = false) := Lib.hid (HN.out hl)
        have hres : Hid (R = (-1, 1)) := Lib.hid (by rw [← HD.out, D1.out]; simp only [dec]; rw [if_pos (by rw [HC.out]; exact hl)])
        clear hl
        go_wp2_with (go_at_call 178; refine (begins_no x 1 z _ (by assumption) (by omega) (by omega) (by omega) (by omega) (by omega) hB.out).mono ?_; rintro e w' ⟨rfl, rfl⟩)
        try rw [Exit.noGoto_ret]
        go_ret2
        exact ⟨by rw [hres.out]; rfl, rfl⟩
      · obtain ⟨y1, y2, y3, y4⟩ := HY.out (by omega)
        have hor : bits .or .i64 0 x = x := by
          by_cases hy : x < 64
          · exact (or6 0 x (by omega) (by omega) (by omega) hx0 hy).trans (by omega)
          · exact (or12 0 x (by omega) (by omega) (by omega) hx0 (by omega)).trans (by omega)
        have hB : Hid (begB x 1 z = true) := Lib.hid y1
        have hres : Hid (RdR z l R 1 x) := Lib.hid (.inr ⟨by omega, by omega, ldLo c, ldHi c, by rw [y2]; exact y4, by
          rw [← HD.out, y2]
          conv => rhs; rw [D1.out]
          simp only [dec]
          rw [HC.out, if_neg hl, y3]⟩)
        clear hl y1 y2 y3 y4
        go_wp2_with (go_at_call 178; refine (begins_yes x 1 z _ (by assumption) (by omega) (by omega) (by omega) (by omega) (by omega) hB.out).mono ?_; rintro e w' ⟨rfl, rfl⟩)
        go_roundg (z - 1)
        case measure => omega
        case rel => exact ⟨1, x, by omega, rfl, rfl, rfl, hres.out⟩
    · have HV := Lib.hid hV
      have HD := Lib.hid hG; clear hG
      by_cases hkz' : k = z
      · have hres : Hid (R = (r, k)) := Lib.hid (by rw [← HD.out, hkz', Nat.sub_self]; rfl)
        have hd : decide (k < z) = false := by simp; omega
        clear hV hkz hkz'
        go_wp2_with fail
        try rw [Exit.noGoto_ret]
        go_ret2
        exact ⟨by rw [hres.out]; rfl, rfl⟩
      have hlt2 : k < z := by omega
      obtain ⟨hr0, hr1, hlo, hhi⟩ := V_bd hV hlt2
      clear hV hkz'
      by_cases hin : at' + k < s.size
      rotate_left 1
      · have hres : Hid (R = (-1, k)) := Lib.hid (by
          rw [← HD.out, DO.out k hin, show z - k = (z - k - 1) + 1 by omega]; rfl)
        have hin2 : ¬ ((at' : Int) + k < s.size) := by omega
        clear hin hlo hhi
        go_wp2_with fail
        try rw [Exit.noGoto_ret]
        go_ret2
        exact ⟨by rw [hres.out]; first | rfl | exact ret_pair rfl (by omega), rfl⟩
      have hb := s[at' + k].toNat_lt
      have hg := HG.out
      have hstep : Hid (goD (z - k) (l.drop k) k r lo hi = if lo ≤ (s[at' + k].toNat : Int) ∧ (s[at' + k].toNat : Int) ≤ hi then goD (z - k - 1) (l.drop (k + 1)) (k + 1) (r * 64 + ((s[at' + k].toNat : Int) - 128)) 128 191 else (-1, k)) := Lib.hid (by
        conv => lhs; rw [DI.out k hin, show z - k = (z - k - 1) + 1 by omega]
        rfl)
      have hk0 : ((k : Int) == 0) = false := by simp; omega
      by_cases h64 : (s[at' + k].toNat : Int) / 64 = 2
      rotate_left 1
      · have hres : Hid (R = (-1, k)) := Lib.hid (by
          rw [← HD.out, hstep.out, if_neg (by omega)])
        have h64' : ((s[at' + k].toNat : Int) / 64 == 2) = false := by simpa using h64
        clear h64 hlo hhi
        go_wp2_with fail
        try rw [Exit.noGoto_ret]
        go_ret2
        exact ⟨by rw [hres.out]; first | rfl | exact ret_pair rfl (by omega), rfl⟩
      have hbx : bits .xor .u8 (s[at' + k].toNat : Int) 128 = (s[at' + k].toNat : Int) - 128 := xor_128 _ (by omega) (by omega)
      have h64' : ((s[at' + k].toNat : Int) / 64 == 2) = true := by simpa using h64
      have hb1 : 128 ≤ (s[at' + k].toNat : Int) := by omega
      have hb2 : (s[at' + k].toNat : Int) ≤ 191 := by omega
      have hor : bits .or .i64 (r * 64) ((s[at' + k].toNat : Int) - 128) = r * 64 + ((s[at' + k].toNat : Int) - 128) := or6 _ _ (by omega) (by omega) (by omega) (by omega) (by omega)
      by_cases hlh : lo ≤ (s[at' + k].toNat : Int) ∧ (s[at' + k].toNat : Int) ≤ hi
      · have hB : Hid (begB (r * 64 + ((s[at' + k].toNat : Int) - 128)) (k + 1) z = true) := Lib.hid ((V_beg HV.out hlt2 hb1 hb2).2 hlh)
        have hres : Hid (RdR z l R (k + 1) (r * 64 + ((s[at' + k].toNat : Int) - 128))) := Lib.hid (.inr ⟨by omega, by omega, 128, 191, V_next HV.out hlt2 hlh.1 hlh.2, by
          rw [← HD.out, hstep.out, if_pos hlh, show z - (k + 1) = z - k - 1 by omega]⟩)
        clear hlh hlo hhi h64
        go_wp2_with (go_at_call 178; refine (begins_yes _ _ z _ (by assumption) (by omega) (by omega) (by omega) (by omega) (by omega) hB.out).mono ?_; rintro e w' ⟨rfl, rfl⟩)
        go_roundg (z - (k + 1))
        case measure => omega
        case rel => exact ⟨k + 1, _, by omega, rfl, rfl, by go_num, hres.out⟩
      · have hB : Hid (begB (r * 64 + ((s[at' + k].toNat : Int) - 128)) (k + 1) z = false) := Lib.hid (by
          cases hx : begB (r * 64 + ((s[at' + k].toNat : Int) - 128)) (k + 1) z
          · rfl
          · exact absurd ((V_beg HV.out hlt2 hb1 hb2).1 hx) hlh)
        have hres : Hid (R = (-1, k)) := Lib.hid (by
          rw [← HD.out, hstep.out, if_neg hlh])
        clear hlh hlo hhi h64
        go_wp2_with (go_at_call 178; refine (begins_no _ _ z _ (by assumption) (by omega) (by omega) (by omega) (by omega) (by omega) hB.out).mono ?_; rintro e w' ⟨rfl, rfl⟩)
        try rw [Exit.noGoto_ret]
        go_ret2
        exact ⟨by rw [hres.out]; first | rfl | exact ret_pair rfl (by omega), rfl⟩
end Go.Proofs.YtppabkllconkjaaGreatDoor.U
/- The contracts of utf8.add and Put. -/
namespace Go.Proofs.YtppabkllconkjaaGreatDoor.U
open Go.RowKit
set_option linter.unusedVariables false
set_option linter.unusedSimpArgs false
set_option maxRecDepth 100000
theorem info5 : (Tryz.prog.info? 5).map (fun i => (i.zero, i.size, i.bytes)) = some (some (.int .u8 0), 1, 1) := by kernel_rfl
def u8v (b : UInt8) : Value := .int .u8 (b.toNat : Int)
/-- v is a slice of bytes of the call's own (blocks from `base` on) that holds xs. -/
def Own8 (w : World) (base : Nat) (v : Value) (xs : List UInt8) : Prop := w.ownsRow base 5 1 v xs.length (xs.map u8v)
theorem grown_trans {w w1 w2 : World} {row row2 : Option Nat} (h : w.grownBy w1 row) (h2 : w1.grownBy w2 row2) (hr : row2 = row ∨ row2 = none ∨ ∃ k, row2 = some k ∧ w.heap.size ≤ k) : w.grownBy w2 row :=
  ⟨h2.os.trans h.os, h2.tape.trans h.tape, h2.output.trans h.output, Nat.le_trans h.size h2.size, fun k hk hne => by
    refine (h2.block k (Nat.lt_of_lt_of_le hk h.size) ?_).trans (h.block k hk hne)
    rcases hr with rfl | rfl | ⟨j, rfl, hj⟩
    · exact hne
    · simp
    · intro e; cases e; omega⟩
theorem grown_drew (w : World) (row : Option Nat) : w.grownBy w.drew row := ⟨rfl, rfl, rfl, Nat.le_refl _, fun _ _ _ => rfl⟩
theorem u8_or0 (x : Int) (h0 : 0 ≤ x) (h1 : x < 256) : bits .or .u8 0 x = x := by
  obtain ⟨a, rfl⟩ := Int.eq_ofNat_of_zero_le h0
  have := u8_or_nat 0 a (by omega) (by omega)
  rw [Nat.zero_or] at this
  exact this
def AddS (w : World) (base : Nat) (v : Value) (xs : List UInt8) (r : Int) (e : Ending) (w' : World) : Prop :=
  ∃ v', e = .returned v' ∧ Own8 w' base v' (xs ++ enc r) ∧ w.grownBy w' v.ownBlock
theorem grown_first {w w1 : World} {row : Option Nat} {o : Obj} (h : ((w.alloc o).drew).grownBy w1 row) : w.grownBy w1 row :=
  grown_trans (grown_trans (World.grownBy_alloc w o row) (grown_drew _ row) (.inl rfl)) h (.inl rfl)
theorem at_step {row : Option Nat} {g1 g2 H1 H2 B : Nat} (h : row = some g1 ∨ B ≤ g1) (h2 : some g1 = some g2 ∨ g2 = H2) (hH : B ≤ H2) : row = some g2 ∨ B ≤ g2 := by
  rcases h2 with e | e
  · cases e; exact h
  · right; omega
theorem grown_step' {w w1 w2 : World} {row : Option Nat} {g : Nat} {o : Obj} (h : w.grownBy w1 row) (h2 : (w1.alloc o).grownBy w2 (some g)) (hr : row = some g ∨ w.heap.size ≤ g) : w.grownBy w2 row :=
  grown_trans h (grown_trans (World.grownBy_alloc w1 o (some g)) h2 (.inl rfl)) (by
    rcases hr with rfl | hr
    · exact .inl rfl
    · exact .inr (.inr ⟨_, rfl, hr⟩))
set_option maxHeartbeats 1600000 in
theorem add_1 (v : Value) (base : Nat) (xs : List UInt8) (r : Int) (w : World) (hg : Gl w) (hb3 : 6 < base) (hbase : base ≤ w.heap.size) (hown : Own8 w base v xs) (hlen : xs.length ≤ 100000) (h : isB r = true) (h0 : 0 ≤ r) (h1 : r < 128) :
    Calls Tryz.prog 127 #[v, .int .i64 r] w fun e w' => AddS w base v xs r e w' := by
  obtain ⟨i0, hi, hz0, hz1, hz2⟩ := info_parts info5
  have hL : Hid (lenF r = 1) := Lib.hid (lenF1 h h1)
  have H := Lib.hid h; clear h
  have hm : w.cell? ⟨0, 1, none⟩ = some (.int .u8 0) := hg.mrk 1 (by omega)
  have HO := Lib.hid hown; clear hown
  have hnv : Hid (v.ownBlock ≠ some 0) := Lib.hid (by
    intro e
    have := (HO.out).lt _ e
    omega)
  have hw0 : IntKind.u8.wrap r = r := by rw [IntKind.wrap_u8]; omega
  have ho0 : bits .or .u8 0 r = r := u8_or0 r (by omega) (by omega)
  go_enter Tryz.func127, Tryz.ntmps127
  go_wp2_with (go_at_call 157; refine (len_any _ _ (by assumption)).mono ?_; rw [hL.out]; rintro e w' ⟨rfl, rfl⟩)
  go_region_held3 (fun w' => w'.cell? ⟨0, 1, none⟩ = some (.int .u8 0))
    (first
      | go_keep
      | (rw [hgrow.cell_far _ (by simp <;> omega) (Ne.symm hnv.out)]; assumption))
    ((refine step_append_lies _ (by rfl) _ _ _ (by rfl) base 5 i0 _ 1 1 Tryz.underlying99 hi hz0 hz1 hz2 rfl (by omega) v xs.length (xs.map u8v) (by rfl) ((World.ownsRow.alloc HO.out _).drew)
        ⟨w.heap.size, 0, none⟩ 1 1 [_] (by rfl) (by rfl) (World.news_of_block (t := 5) (fr := (0, 0)) (heap_alloc_new w _)) (by simp [Value.oneCell'])
        (by omega) (by unfold maxLen; omega) (by omega) (by simp; omega) (w.heap.size + 1) (by simp) ?_; intro g1 cap1 w1 hown1 hgrow hat hlt))
  have O1 : Hid (w1.ownsRow base 5 1 (.slice (some ⟨g1, 0, none⟩) (xs.length + 1) cap1) (xs.length + 1) (xs.map u8v ++ [.int .u8 (r)])) := Lib.hid hown1
  have G1 : Hid (w.grownBy w1 v.ownBlock) := Lib.hid (grown_first hgrow)
  have S1 := G1.out.size
  have T1 : Hid (v.ownBlock = some g1 ∨ w.heap.size ≤ g1) := Lib.hid (by rcases hat with e | e; exact .inl e; exact .inr (by omega))
  clear hown1 hgrow hat hlt hm hw0 ho0
  go_wp2_with fail
  refine wp_loop_rounds 1 ?_; rw [rounds_succ]
  go_wp2_with fail
  go_ret
  exact ⟨_, rfl, by
    have := O1.out
    unfold Own8
    rw [enc1 H.out h1, List.length_append, List.map_append]
    simp only [List.map_cons, List.map_nil, u8v, List.append_assoc, List.cons_append, List.nil_append] at this ⊢
    rw [by8_val (by omega) (by omega)]
    exact this, G1.out⟩
set_option maxHeartbeats 1600000 in
theorem add_2 (v : Value) (base : Nat) (xs : List UInt8) (r : Int) (w : World) (hg : Gl w) (hb3 : 6 < base) (hbase : base ≤ w.heap.size) (hown : Own8 w base v xs) (hlen : xs.length ≤ 100000) (h : isB r = true) (h0 : 128 ≤ r) (h1 : r < 2048) :
    Calls Tryz.prog 127 #[v, .int .i64 r] w fun e w' => AddS w base v xs r e w' := by
  obtain ⟨i0, hi, hz0, hz1, hz2⟩ := info_parts info5
  have hL : Hid (lenF r = 2) := Lib.hid (lenF2 h h0 h1)
  have H := Lib.hid h; clear h
  have hm : w.cell? ⟨0, 2, none⟩ = some (.int .u8 192) := hg.mrk 2 (by omega)
  have HO := Lib.hid hown; clear hown
  have hnv : Hid (v.ownBlock ≠ some 0) := Lib.hid (by
    intro e
    have := (HO.out).lt _ e
    omega)
  have hw0 : IntKind.u8.wrap (r / 64) = (r / 64) := by rw [IntKind.wrap_u8]; omega
  have ho0 : bits .or .u8 192 (r / 64) = 192 + (r / 64) := u8_or192 _ (by omega) (by omega)
  have hw1 : IntKind.u8.wrap r = r % 256 := IntKind.wrap_u8 _
  have ha1 : bits .and .u8 (r % 256) 63 = r % 64 := (u8_and63 _ (by omega) (by omega)).trans (by omega)
  have ho1 : bits .or .u8 128 (r % 64) = 128 + r % 64 := u8_or128 _ (by omega) (by omega)
  go_enter Tryz.func127, Tryz.ntmps127
  go_wp2_with (go_at_call 157; refine (len_any _ _ (by assumption)).mono ?_; rw [hL.out]; rintro e w' ⟨rfl, rfl⟩)
  go_region_held3 (fun w' => w'.cell? ⟨0, 2, none⟩ = some (.int .u8 192))
    (first
      | go_keep
      | (rw [hgrow.cell_far _ (by simp <;> omega) (Ne.symm hnv.out)]; assumption))
    ((refine step_append_lies _ (by rfl) _ _ _ (by rfl) base 5 i0 _ 1 1 Tryz.underlying99 hi hz0 hz1 hz2 rfl (by omega) v xs.length (xs.map u8v) (by rfl) ((World.ownsRow.alloc HO.out _).drew)
        ⟨w.heap.size, 0, none⟩ 1 1 [_] (by rfl) (by rfl) (World.news_of_block (t := 5) (fr := (0, 0)) (heap_alloc_new w _)) (by simp [Value.oneCell'])
        (by omega) (by unfold maxLen; omega) (by omega) (by simp; omega) (w.heap.size + 1) (by simp) ?_; intro g1 cap1 w1 hown1 hgrow hat hlt))
  have O1 : Hid (w1.ownsRow base 5 1 (.slice (some ⟨g1, 0, none⟩) (xs.length + 1) cap1) (xs.length + 1) (xs.map u8v ++ [.int .u8 (192 + (r / 64))])) := Lib.hid hown1
  have G1 : Hid (w.grownBy w1 v.ownBlock) := Lib.hid (grown_first hgrow)
  have S1 := G1.out.size
  have T1 : Hid (v.ownBlock = some g1 ∨ w.heap.size ≤ g1) := Lib.hid (by rcases hat with e | e; exact .inl e; exact .inr (by omega))
  clear hown1 hgrow hat hlt hm hw0 ho0
  go_wp2_with fail
  refine wp_loop_rounds 2 ?_; rw [rounds_succ]
  go_wp2_with (at_builtin; refine wpList_append_lies _ rfl _ _ _ rfl base 5 i0 _ 1 1 Tryz.underlying99 hi hz0 hz1 hz2 rfl (by omega) _ (xs.length + 1) _ rfl (World.ownsRow.alloc O1.out _) ⟨w1.heap.size, 0, none⟩ 1 1 [_] rfl rfl (cell_one_new _ _ _) (by simp [Value.oneCell']) (by omega) (by unfold maxLen; omega) (by omega) (by simp; omega) (w1.heap.size + 1) (by simp) ?_; intro g2 cap2 w2 hown2 hgrow2 hat2 hlt2)
  have O2 : Hid (w2.ownsRow base 5 1 (.slice (some ⟨g2, 0, none⟩) (xs.length + 1 + 1) cap2) (xs.length + 1 + 1) (xs.map u8v ++ [.int .u8 (192 + (r / 64))] ++ [.int .u8 (128 + r % 64)])) := Lib.hid hown2
  have G2 : Hid (w.grownBy w2 v.ownBlock) := Lib.hid (grown_step' G1.out hgrow2 T1.out)
  have S2 := G2.out.size
  have T2 : Hid (v.ownBlock = some g2 ∨ w.heap.size ≤ g2) := Lib.hid (at_step (H1 := 0) T1.out hat2 (by omega))
  clear hown2 hgrow2 hat2 hlt2
  go_wp2_with fail
  rw [rounds_succ]
  go_wp2_with fail
  go_ret
  exact ⟨_, rfl, by
    have := O2.out
    unfold Own8
    rw [enc2 H.out h0 h1, List.length_append, List.map_append]
    simp only [List.map_cons, List.map_nil, u8v, List.append_assoc, List.cons_append, List.nil_append] at this ⊢
    rw [by8_val (by omega) (by omega), by8_val (by omega) (by omega)]
    exact this, G2.out⟩
set_option maxHeartbeats 1600000 in
theorem add_3 (v : Value) (base : Nat) (xs : List UInt8) (r : Int) (w : World) (hg : Gl w) (hb3 : 6 < base) (hbase : base ≤ w.heap.size) (hown : Own8 w base v xs) (hlen : xs.length ≤ 100000) (h : isB r = true) (h0 : 2048 ≤ r) (h1 : r < 65536) :
    Calls Tryz.prog 127 #[v, .int .i64 r] w fun e w' => AddS w base v xs r e w' := by
  obtain ⟨i0, hi, hz0, hz1, hz2⟩ := info_parts info5
  have hL : Hid (lenF r = 3) := Lib.hid (lenF3 h h0 h1)
  have H := Lib.hid h; clear h
  have hm : w.cell? ⟨0, 3, none⟩ = some (.int .u8 224) := hg.mrk 3 (by omega)
  have HO := Lib.hid hown; clear hown
  have hnv : Hid (v.ownBlock ≠ some 0) := Lib.hid (by
    intro e
    have := (HO.out).lt _ e
    omega)
  have hw0 : IntKind.u8.wrap (r / 4096) = (r / 4096) := by rw [IntKind.wrap_u8]; omega
  have ho0 : bits .or .u8 224 (r / 4096) = 224 + (r / 4096) := u8_or224 _ (by omega) (by omega)
  have hw1 : IntKind.u8.wrap (r / 64) = r / 64 % 256 := IntKind.wrap_u8 _
  have ha1 : bits .and .u8 (r / 64 % 256) 63 = r / 64 % 64 := (u8_and63 _ (by omega) (by omega)).trans (by omega)
  have ho1 : bits .or .u8 128 (r / 64 % 64) = 128 + r / 64 % 64 := u8_or128 _ (by omega) (by omega)
  have hw2 : IntKind.u8.wrap r = r % 256 := IntKind.wrap_u8 _
  have ha2 : bits .and .u8 (r % 256) 63 = r % 64 := (u8_and63 _ (by omega) (by omega)).trans (by omega)
  have ho2 : bits .or .u8 128 (r % 64) = 128 + r % 64 := u8_or128 _ (by omega) (by omega)
  go_enter Tryz.func127, Tryz.ntmps127
  go_wp2_with (go_at_call 157; refine (len_any _ _ (by assumption)).mono ?_; rw [hL.out]; rintro e w' ⟨rfl, rfl⟩)
  go_region_held3 (fun w' => w'.cell? ⟨0, 3, none⟩ = some (.int .u8 224))
    (first
      | go_keep
      | (rw [hgrow.cell_far _ (by simp <;> omega) (Ne.symm hnv.out)]; assumption))
    ((refine step_append_lies _ (by rfl) _ _ _ (by rfl) base 5 i0 _ 1 1 Tryz.underlying99 hi hz0 hz1 hz2 rfl (by omega) v xs.length (xs.map u8v) (by rfl) ((World.ownsRow.alloc HO.out _).drew)
        ⟨w.heap.size, 0, none⟩ 1 1 [_] (by rfl) (by rfl) (World.news_of_block (t := 5) (fr := (0, 0)) (heap_alloc_new w _)) (by simp [Value.oneCell'])
        (by omega) (by unfold maxLen; omega) (by omega) (by simp; omega) (w.heap.size + 1) (by simp) ?_; intro g1 cap1 w1 hown1 hgrow hat hlt))
  have O1 : Hid (w1.ownsRow base 5 1 (.slice (some ⟨g1, 0, none⟩) (xs.length + 1) cap1) (xs.length + 1) (xs.map u8v ++ [.int .u8 (224 + (r / 4096))])) := Lib.hid hown1
  have G1 : Hid (w.grownBy w1 v.ownBlock) := Lib.hid (grown_first hgrow)
  have S1 := G1.out.size
  have T1 : Hid (v.ownBlock = some g1 ∨ w.heap.size ≤ g1) := Lib.hid (by rcases hat with e | e; exact .inl e; exact .inr (by omega))
  clear hown1 hgrow hat hlt hm hw0 ho0
  go_wp2_with fail
  refine wp_loop_rounds 3 ?_; rw [rounds_succ]
  go_wp2_with (at_builtin; refine wpList_append_lies _ rfl _ _ _ rfl base 5 i0 _ 1 1 Tryz.underlying99 hi hz0 hz1 hz2 rfl (by omega) _ (xs.length + 1) _ rfl (World.ownsRow.alloc O1.out _) ⟨w1.heap.size, 0, none⟩ 1 1 [_] rfl rfl (cell_one_new _ _ _) (by simp [Value.oneCell']) (by omega) (by unfold maxLen; omega) (by omega) (by simp; omega) (w1.heap.size + 1) (by simp) ?_; intro g2 cap2 w2 hown2 hgrow2 hat2 hlt2)
  have O2 : Hid (w2.ownsRow base 5 1 (.slice (some ⟨g2, 0, none⟩) (xs.length + 1 + 1) cap2) (xs.length + 1 + 1) (xs.map u8v ++ [.int .u8 (224 + (r / 4096))] ++ [.int .u8 (128 + r / 64 % 64)])) := Lib.hid hown2
  have G2 : Hid (w.grownBy w2 v.ownBlock) := Lib.hid (grown_step' G1.out hgrow2 T1.out)
  have S2 := G2.out.size
  have T2 : Hid (v.ownBlock = some g2 ∨ w.heap.size ≤ g2) := Lib.hid (at_step (H1 := 0) T1.out hat2 (by omega))
  clear hown2 hgrow2 hat2 hlt2
  go_wp2_with fail
  rw [rounds_succ]
  go_wp2_with (at_builtin; refine wpList_append_lies _ rfl _ _ _ rfl base 5 i0 _ 1 1 Tryz.underlying99 hi hz0 hz1 hz2 rfl (by omega) _ (xs.length + 2) _ rfl (World.ownsRow.alloc O2.out _) ⟨w2.heap.size, 0, none⟩ 1 1 [_] rfl rfl (cell_one_new _ _ _) (by simp [Value.oneCell']) (by omega) (by unfold maxLen; omega) (by omega) (by simp; omega) (w2.heap.size + 1) (by simp) ?_; intro g3 cap3 w3 hown3 hgrow3 hat3 hlt3)
  have O3 : Hid (w3.ownsRow base 5 1 (.slice (some ⟨g3, 0, none⟩) (xs.length + 2 + 1) cap3) (xs.length + 2 + 1) (xs.map u8v ++ [.int .u8 (224 + (r / 4096))] ++ [.int .u8 (128 + r / 64 % 64)] ++ [.int .u8 (128 + r % 64)])) := Lib.hid hown3
  have G3 : Hid (w.grownBy w3 v.ownBlock) := Lib.hid (grown_step' G2.out hgrow3 T2.out)
  have S3 := G3.out.size
  have T3 : Hid (v.ownBlock = some g3 ∨ w.heap.size ≤ g3) := Lib.hid (at_step (H1 := 0) T2.out hat3 (by omega))
  clear hown3 hgrow3 hat3 hlt3
  go_wp2_with fail
  rw [rounds_succ]
  go_wp2_with fail
  go_ret
  exact ⟨_, rfl, by
    have := O3.out
    unfold Own8
    rw [enc3 H.out h0 h1, List.length_append, List.map_append]
    simp only [List.map_cons, List.map_nil, u8v, List.append_assoc, List.cons_append, List.nil_append] at this ⊢
    rw [by8_val (by omega) (by omega), by8_val (by omega) (by omega), by8_val (by omega) (by omega)]
    exact this, G3.out⟩
set_option maxHeartbeats 1600000 in
theorem add_4 (v : Value) (base : Nat) (xs : List UInt8) (r : Int) (w : World) (hg : Gl w) (hb3 : 6 < base) (hbase : base ≤ w.heap.size) (hown : Own8 w base v xs) (hlen : xs.length ≤ 100000) (h : isB r = true) (h0 : 65536 ≤ r) (h1 : r ≤ 1114111) :
    Calls Tryz.prog 127 #[v, .int .i64 r] w fun e w' => AddS w base v xs r e w' := by
  obtain ⟨i0, hi, hz0, hz1, hz2⟩ := info_parts info5
  have hL : Hid (lenF r = 4) := Lib.hid (lenF4 h h0)
  have H := Lib.hid h; clear h
  have hm : w.cell? ⟨0, 4, none⟩ = some (.int .u8 240) := hg.mrk 4 (by omega)
  have HO := Lib.hid hown; clear hown
  have hnv : Hid (v.ownBlock ≠ some 0) := Lib.hid (by
    intro e
    have := (HO.out).lt _ e
    omega)
  have hw0 : IntKind.u8.wrap (r / 262144) = (r / 262144) := by rw [IntKind.wrap_u8]; omega
  have ho0 : bits .or .u8 240 (r / 262144) = 240 + (r / 262144) := u8_or240 _ (by omega) (by omega)
  have hw1 : IntKind.u8.wrap (r / 4096) = r / 4096 % 256 := IntKind.wrap_u8 _
  have ha1 : bits .and .u8 (r / 4096 % 256) 63 = r / 4096 % 64 := (u8_and63 _ (by omega) (by omega)).trans (by omega)
  have ho1 : bits .or .u8 128 (r / 4096 % 64) = 128 + r / 4096 % 64 := u8_or128 _ (by omega) (by omega)
  have hw2 : IntKind.u8.wrap (r / 64) = r / 64 % 256 := IntKind.wrap_u8 _
  have ha2 : bits .and .u8 (r / 64 % 256) 63 = r / 64 % 64 := (u8_and63 _ (by omega) (by omega)).trans (by omega)
  have ho2 : bits .or .u8 128 (r / 64 % 64) = 128 + r / 64 % 64 := u8_or128 _ (by omega) (by omega)
  have hw3 : IntKind.u8.wrap r = r % 256 := IntKind.wrap_u8 _
  have ha3 : bits .and .u8 (r % 256) 63 = r % 64 := (u8_and63 _ (by omega) (by omega)).trans (by omega)
  have ho3 : bits .or .u8 128 (r % 64) = 128 + r % 64 := u8_or128 _ (by omega) (by omega)
  go_enter Tryz.func127, Tryz.ntmps127
  go_wp2_with (go_at_call 157; refine (len_any _ _ (by assumption)).mono ?_; rw [hL.out]; rintro e w' ⟨rfl, rfl⟩)
  go_region_held3 (fun w' => w'.cell? ⟨0, 4, none⟩ = some (.int .u8 240))
    (first
      | go_keep
      | (rw [hgrow.cell_far _ (by simp <;> omega) (Ne.symm hnv.out)]; assumption))
    ((refine step_append_lies _ (by rfl) _ _ _ (by rfl) base 5 i0 _ 1 1 Tryz.underlying99 hi hz0 hz1 hz2 rfl (by omega) v xs.length (xs.map u8v) (by rfl) ((World.ownsRow.alloc HO.out _).drew)
        ⟨w.heap.size, 0, none⟩ 1 1 [_] (by rfl) (by rfl) (World.news_of_block (t := 5) (fr := (0, 0)) (heap_alloc_new w _)) (by simp [Value.oneCell'])
        (by omega) (by unfold maxLen; omega) (by omega) (by simp; omega) (w.heap.size + 1) (by simp) ?_; intro g1 cap1 w1 hown1 hgrow hat hlt))
  have O1 : Hid (w1.ownsRow base 5 1 (.slice (some ⟨g1, 0, none⟩) (xs.length + 1) cap1) (xs.length + 1) (xs.map u8v ++ [.int .u8 (240 + (r / 262144))])) := Lib.hid hown1
  have G1 : Hid (w.grownBy w1 v.ownBlock) := Lib.hid (grown_first hgrow)
  have S1 := G1.out.size
  have T1 : Hid (v.ownBlock = some g1 ∨ w.heap.size ≤ g1) := Lib.hid (by rcases hat with e | e; exact .inl e; exact .inr (by omega))
  clear hown1 hgrow hat hlt hm hw0 ho0
  go_wp2_with fail
  refine wp_loop_rounds 4 ?_; rw [rounds_succ]
  go_wp2_with (at_builtin; refine wpList_append_lies _ rfl _ _ _ rfl base 5 i0 _ 1 1 Tryz.underlying99 hi hz0 hz1 hz2 rfl (by omega) _ (xs.length + 1) _ rfl (World.ownsRow.alloc O1.out _) ⟨w1.heap.size, 0, none⟩ 1 1 [_] rfl rfl (cell_one_new _ _ _) (by simp [Value.oneCell']) (by omega) (by unfold maxLen; omega) (by omega) (by simp; omega) (w1.heap.size + 1) (by simp) ?_; intro g2 cap2 w2 hown2 hgrow2 hat2 hlt2)
  have O2 : Hid (w2.ownsRow base 5 1 (.slice (some ⟨g2, 0, none⟩) (xs.length + 1 + 1) cap2) (xs.length + 1 + 1) (xs.map u8v ++ [.int .u8 (240 + (r / 262144))] ++ [.int .u8 (128 + r / 4096 % 64)])) := Lib.hid hown2
  have G2 : Hid (w.grownBy w2 v.ownBlock) := Lib.hid (grown_step' G1.out hgrow2 T1.out)
  have S2 := G2.out.size
  have T2 : Hid (v.ownBlock = some g2 ∨ w.heap.size ≤ g2) := Lib.hid (at_step (H1 := 0) T1.out hat2 (by omega))
  clear hown2 hgrow2 hat2 hlt2
  go_wp2_with fail
  rw [rounds_succ]
  go_wp2_with (at_builtin; refine wpList_append_lies _ rfl _ _ _ rfl base 5 i0 _ 1 1 Tryz.underlying99 hi hz0 hz1 hz2 rfl (by omega) _ (xs.length + 2) _ rfl (World.ownsRow.alloc O2.out _) ⟨w2.heap.size, 0, none⟩ 1 1 [_] rfl rfl (cell_one_new _ _ _) (by simp [Value.oneCell']) (by omega) (by unfold maxLen; omega) (by omega) (by simp; omega) (w2.heap.size + 1) (by simp) ?_; intro g3 cap3 w3 hown3 hgrow3 hat3 hlt3)
  have O3 : Hid (w3.ownsRow base 5 1 (.slice (some ⟨g3, 0, none⟩) (xs.length + 2 + 1) cap3) (xs.length + 2 + 1) (xs.map u8v ++ [.int .u8 (240 + (r / 262144))] ++ [.int .u8 (128 + r / 4096 % 64)] ++ [.int .u8 (128 + r / 64 % 64)])) := Lib.hid hown3
  have G3 : Hid (w.grownBy w3 v.ownBlock) := Lib.hid (grown_step' G2.out hgrow3 T2.out)
  have S3 := G3.out.size
  have T3 : Hid (v.ownBlock = some g3 ∨ w.heap.size ≤ g3) := Lib.hid (at_step (H1 := 0) T2.out hat3 (by omega))
  clear hown3 hgrow3 hat3 hlt3
  go_wp2_with fail
  rw [rounds_succ]
  go_wp2_with (at_builtin; refine wpList_append_lies _ rfl _ _ _ rfl base 5 i0 _ 1 1 Tryz.underlying99 hi hz0 hz1 hz2 rfl (by omega) _ (xs.length + 3) _ rfl (World.ownsRow.alloc O3.out _) ⟨w3.heap.size, 0, none⟩ 1 1 [_] rfl rfl (cell_one_new _ _ _) (by simp [Value.oneCell']) (by omega) (by unfold maxLen; omega) (by omega) (by simp; omega) (w3.heap.size + 1) (by simp) ?_; intro g4 cap4 w4 hown4 hgrow4 hat4 hlt4)
  have O4 : Hid (w4.ownsRow base 5 1 (.slice (some ⟨g4, 0, none⟩) (xs.length + 3 + 1) cap4) (xs.length + 3 + 1) (xs.map u8v ++ [.int .u8 (240 + (r / 262144))] ++ [.int .u8 (128 + r / 4096 % 64)] ++ [.int .u8 (128 + r / 64 % 64)] ++ [.int .u8 (128 + r % 64)])) := Lib.hid hown4
  have G4 : Hid (w.grownBy w4 v.ownBlock) := Lib.hid (grown_step' G3.out hgrow4 T3.out)
  have S4 := G4.out.size
  have T4 : Hid (v.ownBlock = some g4 ∨ w.heap.size ≤ g4) := Lib.hid (at_step (H1 := 0) T3.out hat4 (by omega))
  clear hown4 hgrow4 hat4 hlt4
  go_wp2_with fail
  rw [rounds_succ]
  go_wp2_with fail
  go_ret
  exact ⟨_, rfl, by
    have := O4.out
    unfold Own8
    rw [enc4 H.out h0, List.length_append, List.map_append]
    simp only [List.map_cons, List.map_nil, u8v, List.append_assoc, List.cons_append, List.nil_append] at this ⊢
    rw [by8_val (by omega) (by omega), by8_val (by omega) (by omega), by8_val (by omega) (by omega), by8_val (by omega) (by omega)]
    exact this, G4.out⟩
theorem add_any (v : Value) (base : Nat) (xs : List UInt8) (r : Int) (w : World) (hg : Gl w) (hb3 : 6 < base) (hbase : base ≤ w.heap.size) (hown : Own8 w base v xs) (hlen : xs.length ≤ 100000) (h : isB r = true) :
    Calls Tryz.prog 127 #[v, .int .i64 r] w fun e w' => AddS w base v xs r e w' := by
  rcases isB_cases h with ⟨a, b⟩ | ⟨a, b⟩ | ⟨a, b, _⟩ | ⟨a, b⟩
  · exact add_1 v base xs r w hg hb3 hbase hown hlen h a b
  · exact add_2 v base xs r w hg hb3 hbase hown hlen h a b
  · exact add_3 v base xs r w hg hb3 hbase hown hlen h a b
  · exact add_4 v base xs r w hg hb3 hbase hown hlen h a b
end Go.Proofs.YtppabkllconkjaaGreatDoor.U
/- The contracts of utf8.Put, Next and Text. -/
namespace Go.Proofs.YtppabkllconkjaaGreatDoor.U
open Go.RowKit
set_option linter.unusedVariables false
set_option linter.unusedSimpArgs false
set_option maxRecDepth 100000
def str (xs : List UInt8) : ByteArray := ⟨xs.toArray⟩
theorem str_list (xs : List UInt8) : (str xs).data.toList = xs := rfl
theorem str_size (xs : List UInt8) : (str xs).size = xs.length := by simp [str, ByteArray.size]
theorem str_eta (s : ByteArray) : str s.data.toList = s := by simp [str]
theorem conv_own {w : World} {base : Nat} {v : Value} {xs : List UInt8} (h : Own8 w base v xs) : (convert 99 9 v).run Tryz.prog w = .ok (.string (str xs)) w := by
  rcases h.2 with ⟨rfl, h0⟩ | ⟨g, cap, cur, rfl, hb, hg, hcap, hm, hsz, ht⟩
  · have : xs = [] := List.eq_nil_of_length_eq_zero h0
    subst this
    exact run_convert_bytes_nil (P := Tryz.prog) w 99 5 Tryz.underlying99 Tryz.underlying5 0 0 9 Tryz.underlying9
  · have := run_convert_bytes_arg (P := Tryz.prog) w 99 5 Tryz.underlying99 Tryz.underlying5 g 0 xs.length cap (xs.map fun b => (b.toNat : Int)) (by simp) (by
      intro i hi
      have hc := (World.ownsRow.cells (g := g) h rfl) i (u8v xs[i]) (by simp [hi])
      have hadd : (⟨g, 0, none⟩ : Addr).add i = ⟨g, 0 + i, none⟩ := by unfold Addr.add; split <;> simp_all
      rw [hadd] at hc
      rw [hc]
      simp [u8v, List.getD, hi]) 9 Tryz.underlying9
    rw [this]
    simp [strOfNums, str, Function.comp_def]
theorem own_nil (w : World) (base : Nat) : Own8 w base (.slice none 0 0) [] := World.ownsRow_nil w base 5 1
def PutS (w : World) (r : Int) (e : Ending) (w' : World) : Prop := e = .returned (.tuple #[.string (str (enc r)), .bool (isB r)]) ∧ Below w.heap.size w w'
/-- What utf8.Next tells. -/
def nxt (s : ByteArray) (a : Int) : Int × Int × Bool :=
  if 0 ≤ a ∧ a < s.size then
    if (dec (s.data.toList.drop a.toNat)).1 = -1 then (0, 0, false) else ((dec (s.data.toList.drop a.toNat)).1, ((dec (s.data.toList.drop a.toNat)).2 : Int), true)
  else (0, 0, false)
def NextS (w : World) (s : ByteArray) (a : Int) (e : Ending) (w' : World) : Prop := e = .returned (.tuple #[.int .i64 (nxt s a).1, .int .i64 (nxt s a).2.1, .bool (nxt s a).2.2]) ∧ w = w'
theorem nxt_out {s : ByteArray} {a : Int} (h : ¬ (0 ≤ a ∧ a < s.size)) : nxt s a = (0, 0, false) := by unfold nxt; rw [if_neg h]
theorem next_any (s : ByteArray) (a : Int) (w : World) (hg : Gl w) (hs : s.size ≤ 100000) : Calls Tryz.prog 135 #[.string s, .int .i64 a] w fun e w' => NextS w s a e w' := by
  by_cases h0 : a < 0
  · have HE : Hid (NextS w s a (.returned (.tuple #[.int .i64 0, .int .i64 0, .bool false])) w) := Lib.hid (by
      unfold NextS; rw [nxt_out (by omega)]; exact ⟨rfl, rfl⟩)
    have hd : decide (a < 0) = true := by simpa using h0
    go_enter Tryz.func135, Tryz.ntmps135
    go_wp2_with fail
    go_ret3
    exact HE.out
  obtain ⟨a, rfl⟩ := Int.eq_ofNat_of_zero_le (show 0 ≤ a by omega)
  have hd : decide ((a : Int) < 0) = false := by simp
  by_cases h1 : a < s.size
  rotate_left 1
  · have HE : Hid (NextS w s a (.returned (.tuple #[.int .i64 0, .int .i64 0, .bool false])) w) := Lib.hid (by
      unfold NextS; rw [nxt_out (by omega)]; exact ⟨rfl, rfl⟩)
    have h1' : s.size ≤ a := by omega
    have hd2 : decide (s.size ≤ a) = true := by simpa using h1'
    go_enter Tryz.func135, Tryz.ntmps135
    go_wp2_with fail
    go_ret3
    exact HE.out
  obtain ⟨r, n, hR⟩ : ∃ r n, dec (s.data.toList.drop a) = (r, n) := ⟨_, _, rfl⟩
  have hrd := read_any s a w hg hs h1
  rw [hR] at hrd
  have Hrd := Lib.hid hrd
  by_cases hr : r = -1
  · have HE : Hid (NextS w s a (.returned (.tuple #[.int .i64 0, .int .i64 0, .bool false])) w) := Lib.hid (by
      unfold NextS nxt; rw [if_pos (by omega)]; simp only [Int.toNat_natCast, hR]; rw [if_pos hr]; exact ⟨rfl, trivial⟩)
    have hrb : (r == -1) = true := by simpa using hr
    clear hr hR hrd
    have h2 : ¬ (s.size : Int) ≤ a := by omega
    go_enter Tryz.func135, Tryz.ntmps135
    go_wp2_with (go_at_call 156; refine Hrd.out.mono ?_; rintro e w' ⟨rfl, rfl⟩)
    go_ret3
    exact HE.out
  · have HE : Hid (NextS w s a (.returned (.tuple #[.int .i64 r, .int .i64 n, .bool true])) w) := Lib.hid (by
      unfold NextS nxt; rw [if_pos (by omega)]; simp only [Int.toNat_natCast, hR]; rw [if_neg hr]; exact ⟨rfl, trivial⟩)
    have hrb : (r == -1) = false := by simpa using hr
    clear hr hR hrd
    have h2 : ¬ (s.size : Int) ≤ a := by omega
    go_enter Tryz.func135, Tryz.ntmps135
    go_wp2_with (go_at_call 156; refine Hrd.out.mono ?_; rintro e w' ⟨rfl, rfl⟩)
    go_ret3
    exact HE.out
end Go.Proofs.YtppabkllconkjaaGreatDoor.U
/- The mathematics of layer 3: bytes of UTF-16 and scalars; nothing of the program. -/
namespace Go.Proofs.YtppabkllconkjaaGreatDoor.U

set_option linter.unusedVariables false
set_option linter.unusedSimpArgs false
set_option maxRecDepth 100000
/-- The unit of two bytes. -/
def un (big : Bool) (a b : UInt8) : Int := if big = true then (a.toNat : Int) * 256 + (b.toNat : Int) else (b.toNat : Int) * 256 + (a.toNat : Int)
theorem un_lt (big : Bool) (a b : UInt8) : 0 ≤ un big a b ∧ un big a b < 65536 := by
  have := u8_lt a; have := u8_lt b
  unfold un; split <;> omega
def hiB (u : Int) : Bool := decide (55296 ≤ u ∧ u ≤ 56319)
def loB (u : Int) : Bool := decide (56320 ≤ u ∧ u ≤ 57343)
theorem hiB_iff {u : Int} : hiB u = true ↔ 55296 ≤ u ∧ u ≤ 56319 := by simp [hiB]
theorem loB_iff {u : Int} : loB u = true ↔ 56320 ≤ u ∧ u ≤ 57343 := by simp [loB]
theorem hiB_no {u : Int} : hiB u = false ↔ ¬ (55296 ≤ u ∧ u ≤ 56319) := by rw [← hiB_iff]; simp
theorem loB_no {u : Int} : loB u = false ↔ ¬ (56320 ≤ u ∧ u ≤ 57343) := by rw [← loB_iff]; simp
/-- The scalar, or -1, whose bytes stand at the front of bytes, and how many bytes it, or the wrong part, has. -/
def d16 (big : Bool) : List UInt8 → Int × Nat
  | a :: b :: t =>
    if loB (un big a b) = true then (-1, 2)
    else if hiB (un big a b) = true then
      match t with
      | c :: d :: _ => if loB (un big c d) = true then (65536 + (un big a b - 55296) * 1024 + (un big c d - 56320), 4) else (-1, 2)
      | _ => (-1, 2)
    else (un big a b, 2)
  | _ => (-1, 1)
theorem d16_lo {big : Bool} {a b : UInt8} (h : loB (un big a b) = true) (t : List UInt8) : d16 big (a :: b :: t) = (-1, 2) := by
  simp only [d16]; rw [if_pos h]
theorem d16_un {big : Bool} {a b : UInt8} (h : loB (un big a b) = false) (h2 : hiB (un big a b) = false) (t : List UInt8) : d16 big (a :: b :: t) = (un big a b, 2) := by
  simp only [d16]; rw [if_neg (by simp [h]), if_neg (by simp [h2])]
theorem hi_lo {u : Int} (h : hiB u = true) : loB u = false := by
  have := hiB_iff.1 h; rw [loB_no]; omega
theorem d16_hi0 {big : Bool} {a b : UInt8} (h : hiB (un big a b) = true) {t : List UInt8} (ht : t.length < 2) : d16 big (a :: b :: t) = (-1, 2) := by
  match t, ht with
  | [], _ => simp only [d16]; rw [if_neg (by simp [hi_lo h]), if_pos h]
  | [c], _ => simp only [d16]; rw [if_neg (by simp [hi_lo h]), if_pos h]
  | _ :: _ :: _, ht => simp at ht; omega
theorem d16_hi1 {big : Bool} {a b c d : UInt8} (h : hiB (un big a b) = true) (h2 : loB (un big c d) = false) (t : List UInt8) : d16 big (a :: b :: c :: d :: t) = (-1, 2) := by
  simp only [d16]; rw [if_neg (by simp [hi_lo h]), if_pos h, if_neg (by simp [h2])]
theorem d16_hi2 {big : Bool} {a b c d : UInt8} (h : hiB (un big a b) = true) (h2 : loB (un big c d) = true) (t : List UInt8) : d16 big (a :: b :: c :: d :: t) = (65536 + (un big a b - 55296) * 1024 + (un big c d - 56320), 4) := by
  simp only [d16]; rw [if_neg (by simp [hi_lo h]), if_pos h, if_pos h2]
/-- What may stand at a front. -/
theorem d16_all (big : Bool) (l : List UInt8) (hl : l ≠ []) :
    (l.length = 1 ∧ d16 big l = (-1, 1)) ∨ (∃ a b t, l = a :: b :: t ∧ (
      (loB (un big a b) = true ∧ d16 big l = (-1, 2)) ∨ (loB (un big a b) = false ∧ hiB (un big a b) = false ∧ d16 big l = (un big a b, 2)) ∨
      (hiB (un big a b) = true ∧ t.length < 2 ∧ d16 big l = (-1, 2)) ∨
      (hiB (un big a b) = true ∧ ∃ c d t2, t = c :: d :: t2 ∧ ((loB (un big c d) = false ∧ d16 big l = (-1, 2)) ∨ (loB (un big c d) = true ∧ d16 big l = (65536 + (un big a b - 55296) * 1024 + (un big c d - 56320), 4)))))) := by
  match l, hl with
  | [], hl => exact absurd rfl hl
  | [a], _ => exact .inl ⟨rfl, rfl⟩
  | a :: b :: t, _ =>
    refine .inr ⟨a, b, t, rfl, ?_⟩
    cases h : loB (un big a b)
    · cases h2 : hiB (un big a b)
      · exact .inr (.inl ⟨rfl, rfl, d16_un h h2 t⟩)
      · by_cases ht : t.length < 2
        · exact .inr (.inr (.inl ⟨rfl, ht, d16_hi0 h2 ht⟩))
        · match t, ht with
          | [], ht => simp at ht
          | [c], ht => simp at ht
          | c :: d :: t2, _ =>
            refine .inr (.inr (.inr ⟨rfl, c, d, t2, rfl, ?_⟩))
            cases h3 : loB (un big c d)
            · exact .inl ⟨rfl, d16_hi1 h2 h3 t2⟩
            · exact .inr ⟨rfl, d16_hi2 h2 h3 t2⟩
    · exact .inl ⟨rfl, d16_lo h t⟩
theorem d16_pos (big : Bool) (l : List UInt8) : 1 ≤ (d16 big l).2 ∧ (d16 big l).2 ≤ 4 := by
  by_cases hl : l = []
  · subst hl; simp [d16]
  · rcases d16_all big l hl with ⟨_, h⟩ | ⟨a, b, t, _, ⟨_, h⟩ | ⟨_, _, h⟩ | ⟨_, _, h⟩ | ⟨_, c, d, t2, _, ⟨_, h⟩ | ⟨_, h⟩⟩⟩ <;> rw [h] <;> simp
theorem d16_le (big : Bool) {l : List UInt8} (hl : l ≠ []) : (d16 big l).2 ≤ l.length := by
  rcases d16_all big l hl with ⟨h1, h⟩ | ⟨a, b, t, rfl, ⟨_, h⟩ | ⟨_, _, h⟩ | ⟨_, _, h⟩ | ⟨_, c, d, t2, rfl, ⟨_, h⟩ | ⟨_, h⟩⟩⟩ <;> rw [h] <;> simp
  omega
theorem d16_is (big : Bool) (l : List UInt8) : (d16 big l).1 = -1 ∨ isB (d16 big l).1 = true := by
  by_cases hl : l = []
  · subst hl; simp [d16]
  · rcases d16_all big l hl with ⟨_, h⟩ | ⟨a, b, t, _, ⟨_, h⟩ | ⟨h1, h2, h⟩ | ⟨_, _, h⟩ | ⟨h1, c, d, t2, _, ⟨_, h⟩ | ⟨h2, h⟩⟩⟩ <;> rw [h]
    · exact .inl rfl
    · exact .inl rfl
    · right
      have := un_lt big a b
      have := loB_no.1 h1
      have := hiB_no.1 h2
      show isB (un big a b) = true
      rw [isB_iff]; omega
    · exact .inl rfl
    · exact .inl rfl
    · right
      have := hiB_iff.1 h1
      have := loB_iff.1 h2
      show isB (65536 + (un big a b - 55296) * 1024 + (un big c d - 56320)) = true
      rw [isB_iff]; omega
/-- A unit's two bytes. -/
def two (big : Bool) (u : Int) : List UInt8 := if big = true then [by8 (u / 256), by8 (u % 256)] else [by8 (u % 256), by8 (u / 256)]
theorem two_len (big : Bool) (u : Int) : (two big u).length = 2 := by cases big <;> rfl
theorem two_form (big : Bool) {u : Int} (h0 : 0 ≤ u) (h1 : u < 65536) : ∃ a b, two big u = [a, b] ∧ un big a b = u := by
  cases big
  · refine ⟨_, _, rfl, ?_⟩
    simp only [un]
    rw [if_neg (by simp), by8_val (by omega) (by omega), by8_val (by omega) (by omega)]; omega
  · refine ⟨_, _, rfl, ?_⟩
    unfold un
    rw [if_pos rfl, by8_val (by omega) (by omega), by8_val (by omega) (by omega)]; omega
/-- A scalar's bytes. -/
def e16 (big : Bool) (r : Int) : List UInt8 := if r < 65536 then two big r else two big (55296 + (r - 65536) / 1024) ++ two big (56320 + (r - 65536) % 1024)
def n16 (r : Int) : Nat := if r < 65536 then 1 else 2
theorem e16_len (big : Bool) (r : Int) : (e16 big r).length = 2 * n16 r := by
  unfold e16 n16; split
  · exact two_len _ _
  · rw [List.length_append, two_len, two_len]
theorem e16_1 (big : Bool) {r : Int} (h : r < 65536) : e16 big r = two big r := by unfold e16; rw [if_pos h]
theorem e16_2 (big : Bool) {r : Int} (h : 65536 ≤ r) : e16 big r = two big (55296 + (r - 65536) / 1024) ++ two big (56320 + (r - 65536) % 1024) := by unfold e16; rw [if_neg (by omega)]
theorem n16_1 {r : Int} (h : r < 65536) : n16 r = 1 := by unfold n16; rw [if_pos h]
theorem n16_2 {r : Int} (h : 65536 ≤ r) : n16 r = 2 := by unfold n16; rw [if_neg (by omega)]
theorem n16_le (r : Int) : 1 ≤ n16 r ∧ n16 r ≤ 2 := by unfold n16; split <;> omega
theorem d16_e16 (big : Bool) {r : Int} (h : isB r = true) (t : List UInt8) : d16 big (e16 big r ++ t) = (r, (e16 big r).length) := by
  have hb := isB_iff.1 h
  rw [e16_len]
  by_cases hr : r < 65536
  · rw [e16_1 big hr, n16_1 hr]
    obtain ⟨a, b, e, u⟩ := two_form big hb.1 hr
    rw [e]
    have := d16_un (big := big) (a := a) (b := b) (by rw [u, loB_no]; omega) (by rw [u, hiB_no]; omega) t
    rw [u] at this; exact this
  · rw [e16_2 big (by omega), n16_2 (by omega)]
    obtain ⟨a, b, e, u⟩ := two_form big (u := 55296 + (r - 65536) / 1024) (by omega) (by omega)
    obtain ⟨c, d, e2, u2⟩ := two_form big (u := 56320 + (r - 65536) % 1024) (by omega) (by omega)
    rw [e, e2]
    have := d16_hi2 (big := big) (a := a) (b := b) (c := c) (d := d) (by rw [u, hiB_iff]; omega) (by rw [u2, loB_iff]; omega) t
    rw [u, u2] at this
    simp only [List.cons_append, List.nil_append]
    rw [this]
    congr 1
    omega
/-- The parts of bytes. -/
def q16 (big : Bool) : Nat → List UInt8 → List (Int × Nat)
  | 0, _ => []
  | _ + 1, [] => []
  | f + 1, c :: t => d16 big (c :: t) :: q16 big f ((c :: t).drop (d16 big (c :: t)).2)
theorem q16_succ (big : Bool) (f : Nat) (c : UInt8) (t : List UInt8) : q16 big (f + 1) (c :: t) = d16 big (c :: t) :: q16 big f ((c :: t).drop (d16 big (c :: t)).2) := rfl
theorem q16_fuel (big : Bool) (f : Nat) : ∀ l : List UInt8, l.length ≤ f → q16 big f l = q16 big l.length l := by
  induction f using Nat.strongRecOn with
  | ind f ih =>
    intro l h
    match l with
    | [] => cases f <;> rfl
    | c :: t =>
      match f with
      | 0 => simp at h
      | f + 1 =>
        have hp := (d16_pos big (c :: t)).1
        rw [List.length_cons, q16_succ, q16_succ]
        generalize (d16 big (c :: t)).2 = n at *
        simp only [List.length_cons] at h
        have hd : ((c :: t).drop n).length ≤ t.length := by rw [List.length_drop, List.length_cons]; omega
        rw [ih f (by omega) _ (by omega), ih t.length (by omega) _ hd]
def p16 (big : Bool) (l : List UInt8) : List (Int × Nat) := q16 big l.length l
theorem p16_nil (big : Bool) : p16 big [] = [] := rfl
theorem p16_cons (big : Bool) {l : List UInt8} (h : l ≠ []) : p16 big l = d16 big l :: p16 big (l.drop (d16 big l).2) := by
  cases l with
  | nil => exact absurd rfl h
  | cons c t =>
    have hp := (d16_pos big (c :: t)).1
    unfold p16
    rw [List.length_cons, q16_succ]
    generalize (d16 big (c :: t)).2 = n at *
    rw [q16_fuel big t.length _ (by rw [List.length_drop, List.length_cons]; omega)]
theorem drop16_lt (big : Bool) {l : List UInt8} (h : l ≠ []) : (l.drop (d16 big l).2).length < l.length := by
  have := (d16_pos big l).1
  have := List.length_pos_iff.2 h
  rw [List.length_drop]; omega
def ok16 (big : Bool) (l : List UInt8) : Bool := (p16 big l).all fun p => p.1 != -1
def s16 (big : Bool) (l : List UInt8) : List Int := (p16 big l).map (·.1)
def x16 (big : Bool) (l : List UInt8) : List Int := (s16 big l).map fixR
/-- The text of bytes. -/
def t16 (big : Bool) (l : List UInt8) : List UInt8 := encs (x16 big l)
def bds : List (Int × Nat) → Nat → List Int
  | [], _ => []
  | p :: t, a => if p.1 = -1 then (a : Int) :: bds t (a + p.2) else bds t (a + p.2)
/-- The places of what is wrong. -/
def b16 (big : Bool) (l : List UInt8) : List Int := bds (p16 big l) 0
theorem bds_bad {p : Int × Nat} (h : p.1 = -1) (t : List (Int × Nat)) (a : Nat) : bds (p :: t) a = (a : Int) :: bds t (a + p.2) := by simp only [bds]; rw [if_pos h]
theorem bds_good {p : Int × Nat} (h : ¬ p.1 = -1) (t : List (Int × Nat)) (a : Nat) : bds (p :: t) a = bds t (a + p.2) := by simp only [bds]; rw [if_neg h]
theorem bds_nil : ∀ {ps : List (Int × Nat)} {a : Nat}, bds ps a = [] ↔ (ps.all fun p => p.1 != -1) = true
  | [], a => by simp [bds]
  | p :: t, a => by
    simp only [List.all_cons, Bool.and_eq_true, bne_iff_ne, ne_eq]
    by_cases h : p.1 = -1
    · rw [bds_bad h]; simp [h]
    · rw [bds_good h, bds_nil (ps := t)]; simp [h]
theorem b16_nil {big : Bool} {l : List UInt8} : b16 big l = [] ↔ ok16 big l = true := bds_nil
theorem s16_cons (big : Bool) {l : List UInt8} (h : l ≠ []) : s16 big l = (d16 big l).1 :: s16 big (l.drop (d16 big l).2) := by
  unfold s16; rw [p16_cons big h]; rfl
theorem ok16_cons (big : Bool) {l : List UInt8} (h : l ≠ []) : ok16 big l = ((d16 big l).1 != -1 && ok16 big (l.drop (d16 big l).2)) := by
  unfold ok16; rw [p16_cons big h]; rfl
theorem x16_cons (big : Bool) {l : List UInt8} (h : l ≠ []) : x16 big l = fixR (d16 big l).1 :: x16 big (l.drop (d16 big l).2) := by
  unfold x16; rw [s16_cons big h]; rfl
theorem s16_cases (big : Bool) (n : Nat) : ∀ l : List UInt8, l.length ≤ n → ∀ r ∈ s16 big l, r = -1 ∨ isB r = true := by
  induction n with
  | zero =>
    intro l h
    rw [List.eq_nil_of_length_eq_zero (Nat.le_zero.1 h)]
    simp [s16, p16_nil]
  | succ n ih =>
    intro l h
    by_cases hne : l = []
    · subst hne; simp [s16, p16_nil]
    rw [s16_cons big hne]
    intro r hr
    rcases List.mem_cons.1 hr with rfl | hr
    · exact d16_is big _
    · exact ih _ (by have := drop16_lt big hne; omega) r hr
theorem x16_all (big : Bool) (l : List UInt8) : allB (x16 big l) = true := by
  unfold x16
  simp only [allB, List.all_map, List.all_eq_true, Function.comp]
  intro r hr
  unfold fixR
  rcases s16_cases big l.length l (Nat.le_refl _) r hr with rfl | h
  · decide
  · rw [if_neg (isB_ne h)]; exact h
def es16 (big : Bool) (xs : List Int) : List UInt8 := xs.flatMap (e16 big)
theorem es16_cons (big : Bool) (x : Int) (xs : List Int) : es16 big (x :: xs) = e16 big x ++ es16 big xs := by simp [es16]
theorem es16_app (big : Bool) (xs ys : List Int) : es16 big (xs ++ ys) = es16 big xs ++ es16 big ys := by simp [es16]
def ns16 : List Int → Nat
  | [] => 0
  | x :: xs => n16 x + ns16 xs
theorem ns16_le : ∀ xs : List Int, xs.length ≤ ns16 xs ∧ ns16 xs ≤ 2 * xs.length
  | [] => by simp [ns16]
  | x :: xs => by
    have := ns16_le xs; have := n16_le x
    simp only [ns16, List.length_cons]; omega
theorem es16_len (big : Bool) : ∀ xs : List Int, (es16 big xs).length = 2 * ns16 xs
  | [] => rfl
  | x :: xs => by rw [es16_cons, List.length_append, e16_len, es16_len big xs]; simp only [ns16]; omega
theorem e16_ne (big : Bool) (r : Int) (t : List UInt8) : e16 big r ++ t ≠ [] := by
  intro e
  have h1 := congrArg List.length e
  rw [List.length_append, e16_len, List.length_nil] at h1
  have h2 := n16_le r
  omega
theorem s16_es16 (big : Bool) : ∀ {xs : List Int}, allB xs = true → s16 big (es16 big xs) = xs
  | [], _ => rfl
  | x :: xs, h => by
    obtain ⟨h1, h2⟩ := (allB_cons x xs).1 h
    rw [es16_cons, s16_cons big (e16_ne big x _), d16_e16 big h1]
    simp only [List.drop_left]
    rw [s16_es16 big h2]
theorem ok16_es16 (big : Bool) : ∀ {xs : List Int}, allB xs = true → ok16 big (es16 big xs) = true
  | [], _ => rfl
  | x :: xs, h => by
    obtain ⟨h1, h2⟩ := (allB_cons x xs).1 h
    rw [es16_cons, ok16_cons big (e16_ne big x _), d16_e16 big h1]
    simp only [List.drop_left]
    rw [ok16_es16 big h2]
    simpa using isB_ne h1
theorem t16_es16 (big : Bool) {xs : List Int} (h : allB xs = true) : t16 big (es16 big xs) = encs xs := by
  unfold t16 x16; rw [s16_es16 big h, fix_id h]
theorem t16_of {big : Bool} {l : List UInt8} (h : okB l = true) : t16 big (es16 big (scl l)) = l ∧ b16 big (es16 big (scl l)) = [] ∧ ok16 big (es16 big (scl l)) = true := by
  obtain ⟨h1, h2⟩ := ok_back _ l (Nat.le_refl _) h
  exact ⟨by rw [t16_es16 big h1, h2], b16_nil.2 (ok16_es16 big h1), ok16_es16 big h1⟩
theorem t16_ok (big : Bool) (l : List UInt8) : okB (t16 big l) = true ∧ scl (t16 big l) = x16 big l := ⟨ok_encs (x16_all big l), scl_encs (x16_all big l)⟩
theorem t16_few (big : Bool) (n : Nat) : ∀ l : List UInt8, l.length ≤ n → (x16 big l).length ≤ l.length := by
  induction n with
  | zero =>
    intro l h
    rw [List.eq_nil_of_length_eq_zero (Nat.le_zero.1 h)]
    simp [x16, s16, p16_nil]
  | succ n ih =>
    intro l h
    by_cases hne : l = []
    · subst hne; simp [x16, s16, p16_nil]
    have h1 := drop16_lt big hne
    have h2 := ih _ (by omega : (l.drop (d16 big l).2).length ≤ n)
    rw [x16_cons big hne, List.length_cons]
    omega
end Go.Proofs.YtppabkllconkjaaGreatDoor.U
/- The contracts of what reads a unit and a scalar of UTF-16: utf16.unit, read, the document's own unit, high, low. -/
namespace Go.Proofs.YtppabkllconkjaaGreatDoor.U
open Go.RowKit
set_option linter.unusedVariables false
set_option linter.unusedSimpArgs false
set_option maxRecDepth 100000
theorem or8 (x y : Int) (hx₀ : 0 ≤ x) (hx : x % 256 = 0) (hx₁ : x < 1099511627776) (h₀ : 0 ≤ y) (h₁ : y < 256) : bits .or .i64 x y = x + y :=
  bits_join .i64 40 (by decide) wraps_i64 8 x y hx₀ hx (by omega) h₀ (by omega) (by omega)
theorem or10 (x y : Int) (hx₀ : 0 ≤ x) (hx : x % 1024 = 0) (hx₁ : x < 1099511627776) (h₀ : 0 ≤ y) (h₁ : y < 1024) : bits .or .i64 x y = x + y :=
  bits_join .i64 40 (by decide) wraps_i64 10 x y hx₀ hx (by omega) h₀ (by omega) (by omega)
theorem and10 (x : Int) (h₀ : 0 ≤ x) (h₁ : x < 1099511627776) : bits .and .i64 x 1023 = x % 1024 :=
  (bits_mask .i64 40 (by decide) wraps_i64 10 (by decide) x h₀ (by omega)).trans (by omega)
/-- Nothing but draws. -/
def Drew (w w' : World) : Prop := ∃ n, w' = w.drewN n
theorem Drew.refl (w : World) : Drew w w := ⟨0, rfl⟩
theorem Drew.trans {a b c : World} (h : Drew a b) (k : Drew b c) : Drew a c := by
  obtain ⟨n, rfl⟩ := h; obtain ⟨m, rfl⟩ := k
  exact ⟨n + m, by simp [World.drewN, Nat.add_assoc]⟩
theorem Drew.below {w w' : World} (h : Drew w w') (B : Nat) : Below B w w' := by
  obtain ⟨n, rfl⟩ := h; exact ⟨rfl, rfl, rfl, Nat.le_refl _, fun _ _ => rfl⟩
theorem Drew.heap {w w' : World} (h : Drew w w') : w'.heap = w.heap := by obtain ⟨n, rfl⟩ := h; rfl
def UnitS (s : ByteArray) (a : Nat) (big : Bool) (u : Int) (w : World) (e : Ending) (w' : World) : Prop := e = .returned (.int .i64 u) ∧ Drew w w'
theorem unit_any (s : ByteArray) (a : Nat) (big : Bool) (w : World) (h : a + 1 < s.size) (hs : s.size ≤ 100000) :
    Calls Tryz.prog 179 #[.string s, .int .i64 a, .bool big] w fun e w' => UnitS s a big (un big s[a] s[a + 1]) w e w' := by
  have hb1 := u8_lt s[a]
  have hb2 := u8_lt s[a + 1]
  have i0 : (0 : Int) ≤ (a : Int) := by omega
  have i1 : (a : Int) < (s.size : Int) := by omega
  have i2 : (0 : Int) ≤ (a : Int) + 1 := by omega
  have i3 : (a : Int) + 1 < (s.size : Int) := by omega
  cases big
  · have HE : Hid (∀ n, UnitS s a false (un false s[a] s[a + 1]) w (.returned (.int .i64 ((s[a + 1].toNat : Int) * 256 + (s[a].toNat : Int)))) (w.drewN n)) := Lib.hid (fun n => ⟨rfl, ⟨n, rfl⟩⟩)
    have ho : bits .or .i64 ((s[a + 1].toNat : Int) * 256) (s[a].toNat : Int) = (s[a + 1].toNat : Int) * 256 + (s[a].toNat : Int) := or8 _ _ (by omega) (by omega) (by omega) (by omega) (by omega)
    go_enter Tryz.func179, Tryz.ntmps179
    go_wp2_with fail
    go_quiet (fail)
    go_wp2_with fail
    go_ret
    exact HE.out _
  · have HE : Hid (∀ n, UnitS s a true (un true s[a] s[a + 1]) w (.returned (.int .i64 ((s[a].toNat : Int) * 256 + (s[a + 1].toNat : Int)))) (w.drewN n)) := Lib.hid (fun n => ⟨rfl, ⟨n, rfl⟩⟩)
    have ho : bits .or .i64 ((s[a].toNat : Int) * 256) (s[a + 1].toNat : Int) = (s[a].toNat : Int) * 256 + (s[a + 1].toNat : Int) := or8 _ _ (by omega) (by omega) (by omega) (by omega) (by omega)
    go_enter Tryz.func179, Tryz.ntmps179
    go_wp2_with fail
    go_quiet (fail)
    go_wp2_with fail
    go_ret
    exact HE.out _
theorem runit_any (s : ByteArray) (a : Nat) (big : Bool) (w : World) (h : a + 1 < s.size) (hs : s.size ≤ 100000) :
    Calls Tryz.prog 64 #[.string s, .int .i64 a, .bool big] w fun e w' => UnitS s a big (un big s[a] s[a + 1]) w e w' := by
  have hb1 := u8_lt s[a]
  have hb2 := u8_lt s[a + 1]
  have i0 : (0 : Int) ≤ (a : Int) := by omega
  have i1 : (a : Int) < (s.size : Int) := by omega
  have i2 : (0 : Int) ≤ (a : Int) + 1 := by omega
  have i3 : (a : Int) + 1 < (s.size : Int) := by omega
  cases big
  · have HE : Hid (∀ n, UnitS s a false (un false s[a] s[a + 1]) w (.returned (.int .i64 ((s[a + 1].toNat : Int) * 256 + (s[a].toNat : Int)))) (w.drewN n)) := Lib.hid (fun n => ⟨rfl, ⟨n, rfl⟩⟩)
    go_enter Tryz.func64, Tryz.ntmps64
    go_wp2_with fail
    go_quiet (fail)
    go_wp2_with fail
    go_ret
    exact HE.out _
  · have HE : Hid (∀ n, UnitS s a true (un true s[a] s[a + 1]) w (.returned (.int .i64 ((s[a].toNat : Int) * 256 + (s[a + 1].toNat : Int)))) (w.drewN n)) := Lib.hid (fun n => ⟨rfl, ⟨n, rfl⟩⟩)
    go_enter Tryz.func64, Tryz.ntmps64
    go_wp2_with fail
    go_quiet (fail)
    go_wp2_with fail
    go_ret
    exact HE.out _
theorem rhigh_any (u : Int) (w : World) : Calls Tryz.prog 65 #[.int .i64 u] w fun e w' => e = .returned (.bool (hiB u)) ∧ w = w' := by
  by_cases h0 : 55296 ≤ u
  · have hd : decide (55296 ≤ u) = true := by simpa using h0
    have HE : Hid (∀ b, b = decide (u ≤ 56319) → Ending.returned (.bool b) = .returned (.bool (hiB u)) ∧ w = w) := Lib.hid (fun b h => ⟨ret_bool (by rw [h]; unfold hiB; simp [h0]), rfl⟩)
    go_enter Tryz.func65, Tryz.ntmps65
    go_wp2_with fail
    go_ret
    exact ⟨(HE.out _ (by first | rfl | simp)).1, rfl⟩
  · have hd : decide (55296 ≤ u) = false := by simpa using h0
    have HE : Hid (Ending.returned (.bool false) = .returned (.bool (hiB u)) ∧ w = w) := Lib.hid ⟨ret_bool (by unfold hiB; simp [h0]), rfl⟩
    go_enter Tryz.func65, Tryz.ntmps65
    go_wp2_with fail
    go_ret
    exact ⟨HE.out.1, rfl⟩
theorem rlow_any (u : Int) (w : World) : Calls Tryz.prog 66 #[.int .i64 u] w fun e w' => e = .returned (.bool (loB u)) ∧ w = w' := by
  by_cases h0 : 56320 ≤ u
  · have hd : decide (56320 ≤ u) = true := by simpa using h0
    have HE : Hid (∀ b, b = decide (u ≤ 57343) → Ending.returned (.bool b) = .returned (.bool (loB u)) ∧ w = w) := Lib.hid (fun b h => ⟨ret_bool (by rw [h]; unfold loB; simp [h0]), rfl⟩)
    go_enter Tryz.func66, Tryz.ntmps66
    go_wp2_with fail
    go_ret
    exact ⟨(HE.out _ (by first | rfl | simp)).1, rfl⟩
  · have hd : decide (56320 ≤ u) = false := by simpa using h0
    have HE : Hid (Ending.returned (.bool false) = .returned (.bool (loB u)) ∧ w = w) := Lib.hid ⟨ret_bool (by unfold loB; simp [h0]), rfl⟩
    go_enter Tryz.func66, Tryz.ntmps66
    go_wp2_with fail
    go_ret
    exact ⟨HE.out.1, rfl⟩
theorem drop_two (s : ByteArray) (a : Nat) (h : a + 1 < s.size) : s.data.toList.drop a = s[a] :: s[a + 1] :: s.data.toList.drop (a + 2) := by
  have hl : s.data.toList.length = s.size := by simp
  rw [List.drop_eq_getElem_cons (by omega), List.drop_eq_getElem_cons (i := a + 1) (by omega)]
  rfl
theorem drop_last (s : ByteArray) (a : Nat) (h : a + 1 = s.size) : s.data.toList.drop a = [s[a]] := by
  have hl : s.data.toList.length = s.size := by simp
  rw [List.drop_eq_getElem_cons (by omega), List.drop_eq_nil_of_le (by omega)]
  rfl
def Rd16S (s : ByteArray) (a : Nat) (big : Bool) (w : World) (e : Ending) (w' : World) : Prop :=
  e = .returned (.tuple #[.int .i64 (d16 big (s.data.toList.drop a)).1, .int .i64 ((d16 big (s.data.toList.drop a)).2 : Int)]) ∧ Drew w w'
theorem rd16_of {s : ByteArray} {a : Nat} {big : Bool} {w w' : World} {r : Int} {n : Nat} (h : d16 big (s.data.toList.drop a) = (r, n)) (hd : Drew w w') : Rd16S s a big w (.returned (.tuple #[.int .i64 r, .int .i64 (n : Int)])) w' := by
  unfold Rd16S; rw [h]; exact ⟨rfl, hd⟩
set_option maxHeartbeats 1600000 in
theorem read16_any (s : ByteArray) (a : Nat) (big : Bool) (w : World) (h : a < s.size) (hs : s.size ≤ 100000) :
    Calls Tryz.prog 159 #[.string s, .int .i64 a, .bool big] w fun e w' => Rd16S s a big w e w' := by
  by_cases h1 : a + 1 = s.size
  · have HE : Hid (Rd16S s a big w (.returned (.tuple #[.int .i64 (-1), .int .i64 1])) w) := Lib.hid (rd16_of (n := 1) (by rw [drop_last s a h1]; rfl) (Drew.refl w))
    have hd0 : ((a : Int) + 1 == (s.size : Int)) = true := by simp; omega
    go_enter Tryz.func159, Tryz.ntmps159
    go_wp2_with fail
    go_ret2
    exact HE.out
  have h2 : a + 1 < s.size := by omega
  have hd0 : ((a : Int) + 1 == (s.size : Int)) = false := by simp; omega
  have HX := Lib.hid (drop_two s a h2)
  have hlt := un_lt big s[a] s[a + 1]
  have hU : ∀ w1, Calls Tryz.prog 179 #[.string s, .int .i64 a, .bool big] w1 fun e w' => UnitS s a big (un big s[a] s[a + 1]) w1 e w' := fun w1 => unit_any s a big w1 h2 hs
  obtain ⟨u, hu⟩ : ∃ u, un big s[a] s[a + 1] = u := ⟨_, rfl⟩
  rw [hu] at hlt
  simp only [hu] at hU
  have HU := Lib.hid hU
  have HQ := Lib.hid hu
  clear hU hu
  by_cases hlo : loB u = true
  · have hE : ∀ w1, Drew w w1 → Rd16S s a big w (.returned (.tuple #[.int .i64 (-1), .int .i64 2])) w1 := fun w1 hd => rd16_of (n := 2) (by rw [HX.out]; exact d16_lo (by rw [HQ.out]; exact hlo) _) hd
    have HE := Lib.hid hE
    have hc := loB_iff.1 hlo
    have ht : (u / 1024 == 55) = true := by simp; omega
    clear hE hlo hc
    go_enter Tryz.func159, Tryz.ntmps159
    go_wp2_with (go_at_call 179; refine (HU.out _).mono ?_; rintro e w1 ⟨rfl, hd1⟩; have HD1 := Lib.hid hd1; clear hd1 HU)
    go_ret2
    exact HE.out _ HD1.out
  have hlo : loB u = false := by simpa using hlo
  have hnl := loB_no.1 hlo
  have ht : (u / 1024 == 55) = false := by simp; omega
  by_cases hhi : hiB u = true
  rotate_left 1
  · have hhi : hiB u = false := by simpa using hhi
    have hnh := hiB_no.1 hhi
    have hE : ∀ w1, Drew w w1 → Rd16S s a big w (.returned (.tuple #[.int .i64 u, .int .i64 2])) w1 := fun w1 hd => rd16_of (n := 2) (by rw [HX.out, ← HQ.out]; exact d16_un (by rw [HQ.out]; exact hlo) (by rw [HQ.out]; exact hhi) _) hd
    have HE := Lib.hid hE
    have ht2 : (u / 1024 == 54) = false := by simp; omega
    clear hE hlo hhi hnl hnh
    go_enter Tryz.func159, Tryz.ntmps159
    go_wp2_with (go_at_call 179; refine (HU.out _).mono ?_; rintro e w1 ⟨rfl, hd1⟩; have HD1 := Lib.hid hd1; clear hd1 HU)
    go_ret2
    exact HE.out _ HD1.out
  have hnh := hiB_iff.1 hhi
  have ht2 : (u / 1024 == 54) = true := by simp; omega
  by_cases h3 : a + 3 < s.size
  rotate_left 1
  · have hE : ∀ w1, Drew w w1 → Rd16S s a big w (.returned (.tuple #[.int .i64 (-1), .int .i64 2])) w1 := fun w1 hd => rd16_of (n := 2) (by rw [HX.out]; exact d16_hi0 (by rw [HQ.out]; exact hhi) (by simp; omega)) hd
    have HE := Lib.hid hE
    have ht3 : decide ((s.size : Int) ≤ (a : Int) + 3) = true := by simp; omega
    clear hE hlo hhi hnl hnh
    go_enter Tryz.func159, Tryz.ntmps159
    go_wp2_with (go_at_call 179; refine (HU.out _).mono ?_; rintro e w1 ⟨rfl, hd1⟩; have HD1 := Lib.hid hd1; clear hd1 HU)
    go_ret2
    exact HE.out _ HD1.out
  have ht3 : decide ((s.size : Int) ≤ (a : Int) + 3) = false := by simp; omega
  have HX2 := Lib.hid (drop_two s (a + 2) h3)
  have hlt2 := un_lt big s[a + 2] s[a + 3]
  have hU2 : ∀ w1, Calls Tryz.prog 179 #[.string s, .int .i64 ((a : Int) + 2), .bool big] w1 fun e w' => UnitS s (a + 2) big (un big s[a + 2] s[a + 3]) w1 e w' := fun w1 => unit_any s (a + 2) big w1 h3 hs
  obtain ⟨v, hv⟩ : ∃ u, un big s[a + 2] s[a + 3] = u := ⟨_, rfl⟩
  rw [hv] at hlt2
  simp only [hv] at hU2
  have HU2 := Lib.hid hU2
  have HQ2 := Lib.hid hv
  clear hU2 hv
  by_cases hlo2 : loB v = true
  · have hc := loB_iff.1 hlo2
    have hE : ∀ w1, Drew w w1 → Rd16S s a big w (.returned (.tuple #[.int .i64 (65536 + u % 1024 * 1024 + v % 1024), .int .i64 4])) w1 := fun w1 hd => rd16_of (n := 4) (by
      rw [HX.out, HX2.out, d16_hi2 (by rw [HQ.out]; exact hhi) (by rw [HQ2.out]; exact hlo2), HQ.out, HQ2.out]
      congr 1; omega) hd
    have HE := Lib.hid hE
    have ht4 : (v / 1024 != 55) = false := by simp; omega
    have ho : bits .or .i64 (65536 + u % 1024 * 1024) (v % 1024) = 65536 + u % 1024 * 1024 + v % 1024 := or10 _ _ (by omega) (by omega) (by omega) (by omega) (by omega)
    have ha1 : bits .and .i64 u 1023 = u % 1024 := and10 _ (by omega) (by omega)
    have ha2 : bits .and .i64 v 1023 = v % 1024 := and10 _ (by omega) (by omega)
    clear hE hlo hhi hlo2 hc hnl hnh
    go_enter Tryz.func159, Tryz.ntmps159
    go_wp2_with (first
      | (go_at_call 179; refine (HU.out _).mono ?_; rintro e w1 ⟨rfl, hd1⟩; have HD1 := Lib.hid hd1; clear hd1 HU)
      | (go_at_call 179; refine (HU2.out _).mono ?_; rintro e w2 ⟨rfl, hd2⟩; have HD2 : Hid (Drew w w2) := Lib.hid (HD1.out.trans hd2); clear hd2 HU2))
    go_ret2
    exact HE.out _ HD2.out
  · have hlo2 : loB v = false := by simpa using hlo2
    have hc := loB_no.1 hlo2
    have hE : ∀ w1, Drew w w1 → Rd16S s a big w (.returned (.tuple #[.int .i64 (-1), .int .i64 2])) w1 := fun w1 hd => rd16_of (n := 2) (by
      rw [HX.out, HX2.out, d16_hi1 (by rw [HQ.out]; exact hhi) (by rw [HQ2.out]; exact hlo2)]) hd
    have HE := Lib.hid hE
    have ht4 : (v / 1024 != 55) = true := by simp; omega
    clear hE hlo hhi hlo2 hc hnl hnh
    go_enter Tryz.func159, Tryz.ntmps159
    go_wp2_with (first
      | (go_at_call 179; refine (HU.out _).mono ?_; rintro e w1 ⟨rfl, hd1⟩; have HD1 := Lib.hid hd1; clear hd1 HU)
      | (go_at_call 179; refine (HU2.out _).mono ?_; rintro e w2 ⟨rfl, hd2⟩; have HD2 : Hid (Drew w w2) := Lib.hid (HD1.out.trans hd2); clear hd2 HU2))
    go_ret2
    exact HE.out _ HD2.out
end Go.Proofs.YtppabkllconkjaaGreatDoor.U
