/- The bytes of scalar values, as plain mathematics: decoding one scalar or wrong part, the parts of a text, texts of scalars; nothing of the program. -/
import Derived.Test.YtehehmpepkgbeaaDoorRows
namespace Go.Proofs.YtehehmpepkgbeaaDoor
set_option linter.unusedVariables false
set_option linter.unusedSimpArgs false
def isB (r : Int) : Bool := decide (0 ≤ r ∧ r ≤ 1114111 ∧ (r < 55296 ∨ 57343 < r))
theorem isB_iff {r : Int} : isB r = true ↔ 0 ≤ r ∧ r ≤ 1114111 ∧ (r < 55296 ∨ 57343 < r) := by simp [isB]
theorem isB_no {r : Int} : isB r = false ↔ ¬ (0 ≤ r ∧ r ≤ 1114111 ∧ (r < 55296 ∨ 57343 < r)) := by
  rw [← isB_iff]; simp
def lenF (r : Int) : Int := if isB r = true then (if r < 128 then 1 else if r < 2048 then 2 else if r < 65536 then 3 else 4) else 0
def by8 (n : Int) : UInt8 := UInt8.ofNat n.toNat
theorem by8_val {n : Int} (h0 : 0 ≤ n) (h1 : n < 256) : ((by8 n).toNat : Int) = n := by
  unfold by8
  rw [UInt8.toNat_ofNat']
  omega
theorem by8_of {b : UInt8} {n : Int} (h : (b.toNat : Int) = n) : by8 n = b := by
  unfold by8
  subst h
  simp
theorem u8_lt (b : UInt8) : (b.toNat : Int) < 256 := by have := b.toNat_lt; omega
def enc (r : Int) : List UInt8 :=
  if isB r = true then
    if r < 128 then [by8 r]
    else if r < 2048 then [by8 (192 + r / 64), by8 (128 + r % 64)]
    else if r < 65536 then [by8 (224 + r / 4096), by8 (128 + r / 64 % 64), by8 (128 + r % 64)]
    else [by8 (240 + r / 262144), by8 (128 + r / 4096 % 64), by8 (128 + r / 64 % 64), by8 (128 + r % 64)]
  else []
theorem enc1 {r : Int} (h : isB r = true) (h1 : r < 128) : enc r = [by8 r] := by
  unfold enc; rw [if_pos h, if_pos h1]
theorem enc2 {r : Int} (h : isB r = true) (h0 : 128 ≤ r) (h1 : r < 2048) : enc r = [by8 (192 + r / 64), by8 (128 + r % 64)] := by
  unfold enc; rw [if_pos h, if_neg (by omega), if_pos h1]
theorem enc3 {r : Int} (h : isB r = true) (h0 : 2048 ≤ r) (h1 : r < 65536) : enc r = [by8 (224 + r / 4096), by8 (128 + r / 64 % 64), by8 (128 + r % 64)] := by
  unfold enc; rw [if_pos h, if_neg (by omega), if_neg (by omega), if_pos h1]
theorem enc4 {r : Int} (h : isB r = true) (h0 : 65536 ≤ r) : enc r = [by8 (240 + r / 262144), by8 (128 + r / 4096 % 64), by8 (128 + r / 64 % 64), by8 (128 + r % 64)] := by
  unfold enc; rw [if_pos h, if_neg (by omega), if_neg (by omega), if_neg (by omega)]
theorem lenF1 {r : Int} (h : isB r = true) (h1 : r < 128) : lenF r = 1 := by
  unfold lenF; rw [if_pos h, if_pos h1]
theorem lenF2 {r : Int} (h : isB r = true) (h0 : 128 ≤ r) (h1 : r < 2048) : lenF r = 2 := by
  unfold lenF; rw [if_pos h, if_neg (by omega), if_pos h1]
theorem lenF3 {r : Int} (h : isB r = true) (h0 : 2048 ≤ r) (h1 : r < 65536) : lenF r = 3 := by
  unfold lenF; rw [if_pos h, if_neg (by omega), if_neg (by omega), if_pos h1]
theorem lenF4 {r : Int} (h : isB r = true) (h0 : 65536 ≤ r) : lenF r = 4 := by
  unfold lenF; rw [if_pos h, if_neg (by omega), if_neg (by omega), if_neg (by omega)]
theorem lenF0 {r : Int} (h : isB r = false) : lenF r = 0 := by
  unfold lenF; rw [if_neg (by simp [h])]
theorem enc0 {r : Int} (h : isB r = false) : enc r = [] := by
  unfold enc; rw [if_neg (by simp [h])]
theorem isB_cases {r : Int} (h : isB r = true) : (0 ≤ r ∧ r < 128) ∨ (128 ≤ r ∧ r < 2048) ∨ (2048 ≤ r ∧ r < 65536 ∧ (r < 55296 ∨ 57343 < r)) ∨ (65536 ≤ r ∧ r ≤ 1114111) := by
  have := isB_iff.1 h; omega
theorem enc_len (r : Int) : ((enc r).length : Int) = lenF r := by
  cases h : isB r
  · rw [enc0 h, lenF0 h]; rfl
  · rcases isB_cases h with ⟨a, b⟩ | ⟨a, b⟩ | ⟨a, b, _⟩ | ⟨a, b⟩
    · rw [enc1 h b, lenF1 h b]; rfl
    · rw [enc2 h a b, lenF2 h a b]; rfl
    · rw [enc3 h a b, lenF3 h a b]; rfl
    · rw [enc4 h a, lenF4 h a]; rfl
theorem enc_pos {r : Int} (h : isB r = true) : 1 ≤ (enc r).length := by
  have := enc_len r
  rcases isB_cases h with ⟨a, b⟩ | ⟨a, b⟩ | ⟨a, b, _⟩ | ⟨a, b⟩
  · rw [lenF1 h b] at this; omega
  · rw [lenF2 h a b] at this; omega
  · rw [lenF3 h a b] at this; omega
  · rw [lenF4 h a] at this; omega
theorem enc_le (r : Int) : (enc r).length ≤ 4 := by
  have := enc_len r
  cases h : isB r
  · rw [lenF0 h] at this; omega
  · rcases isB_cases h with ⟨a, b⟩ | ⟨a, b⟩ | ⟨a, b, _⟩ | ⟨a, b⟩
    · rw [lenF1 h b] at this; omega
    · rw [lenF2 h a b] at this; omega
    · rw [lenF3 h a b] at this; omega
    · rw [lenF4 h a] at this; omega
/-- What a first byte says: how many follow (below 0: it is none), the least and the greatest of the next one, its bits. -/
def ldN (c : Int) : Int := if c < 128 then 0 else if c < 194 then -1 else if c < 224 then 1 else if c < 240 then 2 else if c < 245 then 3 else -1
def ldLo (c : Int) : Int := if c = 224 then 160 else if c = 240 then 144 else 128
def ldHi (c : Int) : Int := if c = 237 then 159 else if c = 244 then 143 else 191
def ldR (c : Int) : Int := if c < 128 then c else if c < 224 then c - 192 else if c < 240 then c - 224 else c - 240
def goD : Nat → List UInt8 → Nat → Int → Int → Int → Int × Nat
  | 0, _, i, r, _, _ => (r, i)
  | _ + 1, [], i, _, _, _ => (-1, i)
  | k + 1, b :: t, i, r, lo, hi => if lo ≤ (b.toNat : Int) ∧ (b.toNat : Int) ≤ hi then goD k t (i + 1) (r * 64 + ((b.toNat : Int) - 128)) 128 191 else (-1, i)
/-- The scalar, or -1, whose bytes stand at a text's front, and how many bytes it, or the wrong part, has. -/
def dec : List UInt8 → Int × Nat
  | [] => (-1, 1)
  | c :: t => if ldN c.toNat < 0 then (-1, 1) else goD (ldN c.toNat).toNat t 1 (ldR c.toNat) (ldLo c.toNat) (ldHi c.toNat)
theorem ld_lohi (c : Int) : 128 ≤ ldLo c ∧ ldHi c ≤ 191 := by
  unfold ldLo ldHi
  constructor
  · split
    · omega
    · split <;> omega
  · split
    · omega
    · split <;> omega
theorem ldN_le (c : Int) : ldN c ≤ 3 := by
  unfold ldN; repeat' split
  all_goals omega
theorem goD_pos : ∀ (k : Nat) (t : List UInt8) (i : Nat) (r lo hi : Int), i ≤ (goD k t i r lo hi).2 ∧ (goD k t i r lo hi).2 ≤ i + k ∧ (goD k t i r lo hi).2 ≤ i + t.length
  | 0, t, i, r, lo, hi => by simp [goD]
  | k + 1, [], i, r, lo, hi => by simp [goD]
  | k + 1, b :: t, i, r, lo, hi => by
    simp only [goD, List.length_cons]
    split
    · have := goD_pos k t (i + 1) (r * 64 + ((b.toNat : Int) - 128)) 128 191
      omega
    · simp
theorem dec_pos (l : List UInt8) : 1 ≤ (dec l).2 := by
  cases l with
  | nil => simp [dec]
  | cons c t =>
    simp only [dec]
    split
    · simp
    · exact (goD_pos _ _ _ _ _ _).1
theorem dec_le {l : List UInt8} (h : l ≠ []) : (dec l).2 ≤ l.length := by
  cases l with
  | nil => exact absurd rfl h
  | cons c t =>
    simp only [dec, List.length_cons]
    split
    · simp
    · have := (goD_pos (ldN c.toNat).toNat t 1 (ldR c.toNat) (ldLo c.toNat) (ldHi c.toNat)).2.2
      omega
theorem dec_le4 (l : List UInt8) : (dec l).2 ≤ 4 := by
  cases l with
  | nil => simp [dec]
  | cons c t =>
    simp only [dec]
    split
    · simp
    · have := (goD_pos (ldN c.toNat).toNat t 1 (ldR c.toNat) (ldLo c.toNat) (ldHi c.toNat)).2.1
      have := ldN_le c.toNat
      omega
theorem goD_app : ∀ (k : Nat) (t u : List UInt8) (i : Nat) (r lo hi : Int), 128 ≤ lo → hi ≤ 191 → (∀ b ∈ u.head?, (b.toNat : Int) < 128 ∨ 191 < (b.toNat : Int)) →
    goD k (t ++ u) i r lo hi = goD k t i r lo hi
  | 0, t, u, i, r, lo, hi, _, _, _ => by simp [goD]
  | k + 1, [], [], i, r, lo, hi, _, _, _ => by simp [goD]
  | k + 1, [], b :: u, i, r, lo, hi, h0, h1, hu => by
    have := hu b (by simp)
    simp only [goD, List.nil_append]
    rw [if_neg (by omega)]
  | k + 1, b :: t, u, i, r, lo, hi, h0, h1, hu => by
    simp only [goD, List.cons_append]
    split
    · exact goD_app k t u _ _ _ _ (by omega) (by omega) hu
    · rfl
/-- What stands behind, where it doesn't begin with a further byte, makes no difference. -/
theorem dec_app {l u : List UInt8} (h : l ≠ []) (hu : ∀ b ∈ u.head?, (b.toNat : Int) < 128 ∨ 191 < (b.toNat : Int)) : dec (l ++ u) = dec l := by
  cases l with
  | nil => exact absurd rfl h
  | cons c t =>
    simp only [dec, List.cons_append]
    split
    · rfl
    · exact goD_app _ _ _ _ _ _ _ (ld_lohi _).1 (ld_lohi _).2 hu
theorem head_enc {r : Int} (h : isB r = true) (t : List UInt8) : ∀ b ∈ (enc r ++ t).head?, (b.toNat : Int) < 128 ∨ 191 < (b.toNat : Int) := by
  intro b hb
  rcases isB_cases h with ⟨a, a'⟩ | ⟨a, a'⟩ | ⟨a, a', _⟩ | ⟨a, a'⟩
  · rw [enc1 h a'] at hb; simp at hb; subst hb; rw [by8_val (by omega) (by omega)]; omega
  · rw [enc2 h a a'] at hb; simp at hb; subst hb; rw [by8_val (by omega) (by omega)]; omega
  · rw [enc3 h a a'] at hb; simp at hb; subst hb; rw [by8_val (by omega) (by omega)]; omega
  · rw [enc4 h a] at hb; simp at hb; subst hb; rw [by8_val (by omega) (by omega)]; omega
theorem dec_enc {r : Int} (h : isB r = true) (t : List UInt8) : dec (enc r ++ t) = (r, (enc r).length) := by
  rcases isB_cases h with ⟨a, a'⟩ | ⟨a, a'⟩ | ⟨a, a', a2⟩ | ⟨a, a'⟩
  · rw [enc1 h a']
    simp only [List.cons_append, List.nil_append, dec]
    rw [by8_val (by omega) (by omega)]
    have e : ldN r = 0 := by unfold ldN; rw [if_pos a']
    have e2 : ldR r = r := by unfold ldR; rw [if_pos a']
    rw [e, e2, if_neg (by omega)]
    simp [goD]
  · rw [enc2 h a a']
    simp only [List.cons_append, List.nil_append, dec]
    rw [by8_val (by omega) (by omega)]
    have e : ldN (192 + r / 64) = 1 := by unfold ldN; rw [if_neg (by omega), if_neg (by omega), if_pos (by omega)]
    have e2 : ldR (192 + r / 64) = r / 64 := by unfold ldR; rw [if_neg (by omega), if_pos (by omega)]; omega
    have e3 : ldLo (192 + r / 64) = 128 := by unfold ldLo; rw [if_neg (by omega), if_neg (by omega)]
    have e4 : ldHi (192 + r / 64) = 191 := by unfold ldHi; rw [if_neg (by omega), if_neg (by omega)]
    rw [e, e2, e3, e4, if_neg (by omega)]
    simp only [Int.reduceToNat, goD]
    rw [by8_val (by omega) (by omega), if_pos (by omega)]
    simp; omega
  · rw [enc3 h a a']
    simp only [List.cons_append, List.nil_append, dec]
    rw [by8_val (by omega) (by omega)]
    have e : ldN (224 + r / 4096) = 2 := by unfold ldN; rw [if_neg (by omega), if_neg (by omega), if_neg (by omega), if_pos (by omega)]
    have e2 : ldR (224 + r / 4096) = r / 4096 := by unfold ldR; rw [if_neg (by omega), if_neg (by omega), if_pos (by omega)]; omega
    have e3 : ldLo (224 + r / 4096) ≤ 128 + r / 64 % 64 := by
      unfold ldLo; split
      · omega
      · rw [if_neg (by omega)]; omega
    have e4 : 128 + r / 64 % 64 ≤ ldHi (224 + r / 4096) := by
      unfold ldHi; split
      · omega
      · rw [if_neg (by omega)]; omega
    rw [e, e2, if_neg (by omega)]
    simp only [Int.reduceToNat, goD]
    rw [by8_val (by omega) (by omega), if_pos ⟨e3, e4⟩]
    rw [by8_val (by omega) (by omega), if_pos (by omega)]
    simp; omega
  · rw [enc4 h a]
    simp only [List.cons_append, List.nil_append, dec]
    rw [by8_val (by omega) (by omega)]
    have e : ldN (240 + r / 262144) = 3 := by unfold ldN; rw [if_neg (by omega), if_neg (by omega), if_neg (by omega), if_neg (by omega), if_pos (by omega)]
    have e2 : ldR (240 + r / 262144) = r / 262144 := by unfold ldR; rw [if_neg (by omega), if_neg (by omega), if_neg (by omega)]; omega
    have e3 : ldLo (240 + r / 262144) ≤ 128 + r / 4096 % 64 := by
      unfold ldLo; rw [if_neg (by omega)]; split <;> omega
    have e4 : 128 + r / 4096 % 64 ≤ ldHi (240 + r / 262144) := by
      unfold ldHi; rw [if_neg (by omega)]; split <;> omega
    rw [e, e2, if_neg (by omega)]
    simp only [Int.reduceToNat, goD]
    rw [by8_val (by omega) (by omega), if_pos ⟨e3, e4⟩]
    rw [by8_val (by omega) (by omega), if_pos (by omega)]
    rw [by8_val (by omega) (by omega), if_pos (by omega)]
    simp; omega
theorem goD1 (b : UInt8) (t : List UInt8) (i : Nat) (r lo hi : Int) (n : Nat) (x : Int) (hx : x ≠ -1) (k : Nat) (h : goD (k + 1) (b :: t) i r lo hi = (x, n)) :
    lo ≤ (b.toNat : Int) ∧ (b.toNat : Int) ≤ hi ∧ goD k t (i + 1) (r * 64 + ((b.toNat : Int) - 128)) 128 191 = (x, n) := by
  simp only [goD] at h
  split at h
  · rename_i h'
    exact ⟨h'.1, h'.2, h⟩
  · simp at h; omega
theorem goD2 (t : List UInt8) (i : Nat) (r lo hi : Int) (n : Nat) (x : Int) (hx : x ≠ -1) (k : Nat) (h : goD (k + 1) t i r lo hi = (x, n)) :
    ∃ b t', t = b :: t' ∧ lo ≤ (b.toNat : Int) ∧ (b.toNat : Int) ≤ hi ∧ goD k t' (i + 1) (r * 64 + ((b.toNat : Int) - 128)) 128 191 = (x, n) := by
  cases t with
  | nil => simp [goD] at h; omega
  | cons b t' => exact ⟨b, t', rfl, goD1 b t' i r lo hi n x hx k h⟩
/-- A scalar that is told stands there with its own bytes. -/
theorem dec_ok {l : List UInt8} {r : Int} {n : Nat} (h : dec l = (r, n)) (hr : r ≠ -1) : isB r = true ∧ n = (enc r).length ∧ l = enc r ++ l.drop n := by
  cases l with
  | nil => simp [dec] at h; omega
  | cons c t =>
    have hc := u8_lt c
    simp only [dec] at h
    split at h
    · simp at h; omega
    · rename_i hn
      generalize hC : (c.toNat : Int) = C at *
      have hC0 : 0 ≤ C := by omega
      by_cases c1 : C < 128
      · have e : ldN C = 0 := by unfold ldN; rw [if_pos c1]
        have e2 : ldR C = C := by unfold ldR; rw [if_pos c1]
        rw [e, e2] at h
        simp [goD] at h
        obtain ⟨rfl, rfl⟩ := h
        have hb : isB C = true := isB_iff.2 (by omega)
        rw [enc1 hb c1, by8_of hC]
        exact ⟨hb, rfl, by simp⟩
      by_cases c2 : C < 224
      · have c2' : 194 ≤ C := by
          by_cases g : C < 194
          · exact absurd (by unfold ldN; rw [if_neg c1, if_pos g]; omega) hn
          · omega
        have e : ldN C = 1 := by unfold ldN; rw [if_neg c1, if_neg (by omega), if_pos c2]
        have e2 : ldR C = C - 192 := by unfold ldR; rw [if_neg c1, if_pos c2]
        have e3 := ld_lohi C
        rw [e, e2] at h
        obtain ⟨b1, t1, rfl, l1, m1, h⟩ := goD2 _ _ _ _ _ _ _ hr 0 h
        simp [goD] at h
        obtain ⟨rfl, rfl⟩ := h
        have hb : isB ((C - 192) * 64 + ((b1.toNat : Int) - 128)) = true := isB_iff.2 (by omega)
        rw [enc2 hb (by omega) (by omega), by8_of (b := c) (by omega), by8_of (b := b1) (by omega)]
        exact ⟨hb, rfl, by simp⟩
      by_cases c3 : C < 240
      · have e : ldN C = 2 := by unfold ldN; rw [if_neg c1, if_neg (by omega), if_neg (by omega), if_pos c3]
        have e2 : ldR C = C - 224 := by unfold ldR; rw [if_neg c1, if_neg c2, if_pos c3]
        rw [e, e2] at h
        obtain ⟨b1, t1, rfl, l1, m1, h⟩ := goD2 _ _ _ _ _ _ _ hr 1 h
        obtain ⟨b2, t2, rfl, l2, m2, h⟩ := goD2 _ _ _ _ _ _ _ hr 0 h
        have e3 : 128 ≤ (b1.toNat : Int) ∧ (b1.toNat : Int) ≤ 191 ∧ (C = 224 → 160 ≤ (b1.toNat : Int)) ∧ (C = 237 → (b1.toNat : Int) ≤ 159) := by
          have := ld_lohi C
          refine ⟨by omega, by omega, fun g => ?_, fun g => ?_⟩
          · unfold ldLo at l1; rw [if_pos g] at l1; exact l1
          · unfold ldHi at m1; rw [if_pos g] at m1; exact m1
        obtain ⟨f1, f2, f3, f4⟩ := e3
        simp [goD] at h
        obtain ⟨rfl, rfl⟩ := h
        have hb : isB (((C - 224) * 64 + ((b1.toNat : Int) - 128)) * 64 + ((b2.toNat : Int) - 128)) = true := isB_iff.2 (by omega)
        rw [enc3 hb (by omega) (by omega), by8_of (b := c) (by omega), by8_of (b := b1) (by omega), by8_of (b := b2) (by omega)]
        exact ⟨hb, rfl, by simp⟩
      by_cases c4 : C < 245
      · have e : ldN C = 3 := by unfold ldN; rw [if_neg c1, if_neg (by omega), if_neg (by omega), if_neg (by omega), if_pos c4]
        have e2 : ldR C = C - 240 := by unfold ldR; rw [if_neg c1, if_neg c2, if_neg c3]
        rw [e, e2] at h
        obtain ⟨b1, t1, rfl, l1, m1, h⟩ := goD2 _ _ _ _ _ _ _ hr 2 h
        obtain ⟨b2, t2, rfl, l2, m2, h⟩ := goD2 _ _ _ _ _ _ _ hr 1 h
        obtain ⟨b3, t3, rfl, l3, m3, h⟩ := goD2 _ _ _ _ _ _ _ hr 0 h
        have e3 : 128 ≤ (b1.toNat : Int) ∧ (b1.toNat : Int) ≤ 191 ∧ (C = 240 → 144 ≤ (b1.toNat : Int)) ∧ (C = 244 → (b1.toNat : Int) ≤ 143) := by
          have := ld_lohi C
          refine ⟨by omega, by omega, fun g => ?_, fun g => ?_⟩
          · unfold ldLo at l1; rw [if_neg (by omega), if_pos g] at l1; exact l1
          · unfold ldHi at m1; rw [if_neg (by omega), if_pos g] at m1; exact m1
        obtain ⟨f1, f2, f3, f4⟩ := e3
        simp [goD] at h
        obtain ⟨rfl, rfl⟩ := h
        have hb : isB ((((C - 240) * 64 + ((b1.toNat : Int) - 128)) * 64 + ((b2.toNat : Int) - 128)) * 64 + ((b3.toNat : Int) - 128)) = true := isB_iff.2 (by omega)
        rw [enc4 hb (by omega), by8_of (b := c) (by omega), by8_of (b := b1) (by omega), by8_of (b := b2) (by omega), by8_of (b := b3) (by omega)]
        exact ⟨hb, rfl, by simp⟩
      · exact absurd (by unfold ldN; rw [if_neg c1, if_neg (by omega), if_neg (by omega), if_neg (by omega), if_neg (by omega)]; omega) hn
theorem dec_cases (l : List UInt8) : (dec l).1 = -1 ∨ isB (dec l).1 = true := by
  by_cases h : (dec l).1 = -1
  · exact .inl h
  · exact .inr (dec_ok (l := l) rfl h).1
/-- The parts of a text, one behind the other: the scalar, or -1, and how many bytes. -/
def parts : Nat → List UInt8 → List (Int × Nat)
  | 0, _ => []
  | _ + 1, [] => []
  | f + 1, c :: t => dec (c :: t) :: parts f ((c :: t).drop (dec (c :: t)).2)
theorem parts_succ (f : Nat) (c : UInt8) (t : List UInt8) : parts (f + 1) (c :: t) = dec (c :: t) :: parts f ((c :: t).drop (dec (c :: t)).2) := rfl
theorem parts_fuel (f : Nat) : ∀ l : List UInt8, l.length ≤ f → parts f l = parts l.length l := by
  induction f using Nat.strongRecOn with
  | ind f ih =>
    intro l h
    match l with
    | [] => cases f <;> rfl
    | c :: t =>
      match f with
      | 0 => simp at h
      | f + 1 =>
        have hp := dec_pos (c :: t)
        rw [List.length_cons, parts_succ, parts_succ]
        generalize (dec (c :: t)).2 = n at *
        simp only [List.length_cons] at h
        have hd : ((c :: t).drop n).length ≤ t.length := by rw [List.length_drop, List.length_cons]; omega
        rw [ih f (by omega) _ (by omega), ih t.length (by omega) _ hd]
def prt (l : List UInt8) : List (Int × Nat) := parts l.length l
theorem prt_nil : prt [] = [] := rfl
theorem prt_cons {l : List UInt8} (h : l ≠ []) : prt l = dec l :: prt (l.drop (dec l).2) := by
  cases l with
  | nil => exact absurd rfl h
  | cons c t =>
    have hp := dec_pos (c :: t)
    unfold prt
    rw [List.length_cons, parts_succ]
    generalize (dec (c :: t)).2 = n at *
    rw [parts_fuel t.length _ (by rw [List.length_drop, List.length_cons]; omega)]
theorem drop_lt {l : List UInt8} (h : l ≠ []) : (l.drop (dec l).2).length < l.length := by
  have := dec_pos l
  have := List.length_pos_iff.2 h
  rw [List.length_drop]; omega
def okB (l : List UInt8) : Bool := (prt l).all fun p => p.1 != -1
def scl (l : List UInt8) : List Int := (prt l).map (·.1)
def fixR (r : Int) : Int := if r = -1 then 65533 else r
def encs (xs : List Int) : List UInt8 := xs.flatMap enc
def loose (l : List UInt8) : List UInt8 := encs ((scl l).map fixR)
def wrg : List (Int × Nat) → Nat → Int
  | [], _ => -1
  | p :: t, at' => if p.1 = -1 then (at' : Int) else wrg t (at' + p.2)
def allB (xs : List Int) : Bool := xs.all isB
theorem allB_cons (x : Int) (xs : List Int) : allB (x :: xs) = true ↔ isB x = true ∧ allB xs = true := by simp [allB]
theorem encs_cons (x : Int) (xs : List Int) : encs (x :: xs) = enc x ++ encs xs := by simp [encs]
theorem encs_app (xs ys : List Int) : encs (xs ++ ys) = encs xs ++ encs ys := by simp [encs]
theorem allB_app (xs ys : List Int) : allB (xs ++ ys) = true ↔ allB xs = true ∧ allB ys = true := by simp [allB]
def withLen (xs : List Int) : List (Int × Nat) := xs.map fun r => (r, (enc r).length)
theorem enc_ne {r : Int} (h : isB r = true) (t : List UInt8) : enc r ++ t ≠ [] := by
  have := enc_pos h
  intro e
  have := congrArg List.length e
  simp at this
  simp [this.1] at *
theorem prt_enc {r : Int} (h : isB r = true) (t : List UInt8) : prt (enc r ++ t) = (r, (enc r).length) :: prt t := by
  rw [prt_cons (enc_ne h t), dec_enc h t]
  simp
theorem prt_encs : ∀ (xs : List Int), allB xs = true → ∀ t : List UInt8, prt (encs xs ++ t) = withLen xs ++ prt t
  | [], _, t => by simp [encs, withLen]
  | x :: xs, h, t => by
    obtain ⟨h1, h2⟩ := (allB_cons x xs).1 h
    rw [encs_cons, List.append_assoc, prt_enc h1, prt_encs xs h2 t]
    simp [withLen]
theorem prt_encs' {xs : List Int} (h : allB xs = true) : prt (encs xs) = withLen xs := by
  have := prt_encs xs h []
  simpa [prt_nil] using this
theorem isB_ne {r : Int} (h : isB r = true) : r ≠ -1 := by
  intro e; subst e; simp [isB] at h
theorem withLen_all {xs : List Int} (h : allB xs = true) : (withLen xs).all (fun p => p.1 != -1) = true := by
  simp only [withLen, List.all_map, List.all_eq_true, allB] at *
  intro r hr
  simpa using isB_ne (h r hr)
theorem ok_encs {xs : List Int} (h : allB xs = true) : okB (encs xs) = true := by
  unfold okB; rw [prt_encs' h]; exact withLen_all h
theorem scl_encs {xs : List Int} (h : allB xs = true) : scl (encs xs) = xs := by
  unfold scl; rw [prt_encs' h]
  simp [withLen, Function.comp_def]
theorem scl_nil : scl [] = [] := rfl
theorem scl_cons {l : List UInt8} (h : l ≠ []) : scl l = (dec l).1 :: scl (l.drop (dec l).2) := by
  unfold scl; rw [prt_cons h]; rfl
theorem scl_cases (n : Nat) : ∀ l : List UInt8, l.length ≤ n → ∀ r ∈ scl l, r = -1 ∨ isB r = true := by
  induction n with
  | zero =>
    intro l h
    rw [List.eq_nil_of_length_eq_zero (Nat.le_zero.1 h)]
    simp [scl_nil]
  | succ n ih =>
    intro l h
    by_cases hne : l = []
    · subst hne; simp [scl_nil]
    rw [scl_cons hne]
    intro r hr
    rcases List.mem_cons.1 hr with rfl | hr
    · exact dec_cases _
    · exact ih _ (by have := drop_lt hne; omega) r hr
theorem fix_all (l : List UInt8) : allB ((scl l).map fixR) = true := by
  simp only [allB, List.all_map, List.all_eq_true, Function.comp]
  intro r hr
  unfold fixR
  rcases scl_cases l.length l (Nat.le_refl _) r hr with rfl | h
  · decide
  · rw [if_neg (isB_ne h)]; exact h
/-- Right text is what its scalars make. -/
theorem ok_back (n : Nat) : ∀ l : List UInt8, l.length ≤ n → okB l = true → allB (scl l) = true ∧ encs (scl l) = l := by
  induction n with
  | zero =>
    intro l h _
    rw [List.eq_nil_of_length_eq_zero (Nat.le_zero.1 h)]
    simp [scl_nil, allB, encs]
  | succ n ih =>
    intro l h hok
    by_cases hne : l = []
    · subst hne; simp [scl_nil, allB, encs]
    unfold okB at hok
    rw [prt_cons hne] at hok
    simp only [List.all_cons, Bool.and_eq_true, bne_iff_ne, ne_eq] at hok
    obtain ⟨h1, h2⟩ := hok
    obtain ⟨i1, i2⟩ := ih _ (by have := drop_lt hne; omega) h2
    obtain ⟨j1, j2, j3⟩ := dec_ok (l := l) rfl h1
    rw [scl_cons hne, encs_cons, i2]
    exact ⟨(allB_cons _ _).2 ⟨j1, i1⟩, j3.symm⟩
theorem ok_iff {l : List UInt8} : okB l = true ↔ ∃ xs, allB xs = true ∧ l = encs xs :=
  ⟨fun h => ⟨scl l, (ok_back _ l (Nat.le_refl _) h).1, (ok_back _ l (Nat.le_refl _) h).2.symm⟩, fun ⟨xs, h, e⟩ => by rw [e]; exact ok_encs h⟩
theorem fix_id : ∀ {xs : List Int}, allB xs = true → xs.map fixR = xs
  | [], _ => rfl
  | x :: xs, h => by
    obtain ⟨h1, h2⟩ := (allB_cons x xs).1 h
    simp only [List.map_cons]
    rw [fix_id h2]
    unfold fixR
    rw [if_neg (isB_ne h1)]
theorem loose_ok {l : List UInt8} (h : okB l = true) : loose l = l := by
  obtain ⟨h1, h2⟩ := ok_back _ l (Nat.le_refl _) h
  unfold loose
  rw [fix_id h1, h2]
theorem loose_right (l : List UInt8) : okB (loose l) = true := ok_encs (fix_all l)
theorem loose_twice (l : List UInt8) : loose (loose l) = loose l := loose_ok (loose_right l)
theorem wrg_all : ∀ {ps : List (Int × Nat)} {a : Nat}, wrg ps a = -1 ↔ (ps.all fun p => p.1 != -1) = true
  | [], a => by simp [wrg]
  | p :: t, a => by
    simp only [wrg, List.all_cons, Bool.and_eq_true, bne_iff_ne, ne_eq]
    by_cases h : p.1 = -1
    · rw [if_pos h]
      constructor
      · intro e; omega
      · intro e; exact absurd h e.1
    · rw [if_neg h, wrg_all (ps := t)]
      simp [h]
theorem wrg_ok {l : List UInt8} : wrg (prt l) 0 = -1 ↔ okB l = true := wrg_all
theorem wrg_withLen : ∀ {xs : List Int}, allB xs = true → ∀ (ps : List (Int × Nat)) (a : Nat), wrg (withLen xs ++ ps) a = wrg ps (a + (encs xs).length)
  | [], _, ps, a => by simp [withLen, encs]
  | x :: xs, h, ps, a => by
    obtain ⟨h1, h2⟩ := (allB_cons x xs).1 h
    have := wrg_withLen h2 ps (a + (enc x).length)
    simp only [withLen, List.map_cons, List.cons_append, wrg] at *
    rw [if_neg (isB_ne h1), this, encs_cons]
    simp [Nat.add_assoc]
theorem wrg_bad {p : Int × Nat} (h : p.1 = -1) (t : List (Int × Nat)) (a : Nat) : wrg (p :: t) a = a := by
  simp only [wrg]; rw [if_pos h]
theorem wrg_good {p : Int × Nat} (h : ¬ p.1 = -1) (t : List (Int × Nat)) (a : Nat) : wrg (p :: t) a = wrg t (a + p.2) := by
  simp only [wrg]; rw [if_neg h]
theorem wrg_shift : ∀ (ps : List (Int × Nat)) (a d : Nat), (wrg ps a = -1 ∧ wrg ps (a + d) = -1) ∨ (0 ≤ wrg ps a ∧ wrg ps (a + d) = wrg ps a + d)
  | [], a, d => by simp [wrg]
  | p :: t, a, d => by
    by_cases h : p.1 = -1
    · rw [wrg_bad h, wrg_bad h]; right; omega
    · rw [wrg_good h, wrg_good h]
      have := wrg_shift t (a + p.2) d
      rw [show a + d + p.2 = a + p.2 + d by omega]
      exact this
theorem prt_app {c : List UInt8} (hc : ∀ b ∈ c.head?, (b.toNat : Int) < 128 ∨ 191 < (b.toNat : Int)) (n : Nat) : ∀ b : List UInt8, b.length ≤ n → prt (b ++ c) = prt b ++ prt c := by
  induction n with
  | zero =>
    intro l h
    rw [List.eq_nil_of_length_eq_zero (Nat.le_zero.1 h)]
    simp [prt_nil]
  | succ n ih =>
    intro l h
    by_cases hne : l = []
    · subst hne; simp [prt_nil]
    have hne2 : l ++ c ≠ [] := by simp [hne]
    have hle := dec_le hne
    rw [prt_cons hne2, prt_cons hne, dec_app hne hc, List.drop_append_of_le_length hle, ih _ (by have := drop_lt hne; omega)]
    rfl
theorem head_ok {c : List UInt8} (h : okB c = true) : ∀ b ∈ c.head?, (b.toNat : Int) < 128 ∨ 191 < (b.toNat : Int) := by
  obtain ⟨xs, h1, rfl⟩ := ok_iff.1 h
  cases xs with
  | nil => simp [encs]
  | cons x xs =>
    rw [encs_cons]
    exact head_enc ((allB_cons x xs).1 h1).1 _
/-- Right text ahead and behind stays as it is. -/
theorem loose_parts {a b c : List UInt8} (ha : okB a = true) (hc : okB c = true) :
    loose (a ++ b ++ c) = a ++ loose b ++ c ∧ wrg (prt (a ++ b ++ c)) 0 = if 0 ≤ wrg (prt b) 0 then wrg (prt b) 0 + a.length else wrg (prt b) 0 := by
  obtain ⟨xs, hx, rfl⟩ := ok_iff.1 ha
  obtain ⟨ys, hy, rfl⟩ := ok_iff.1 hc
  have hp : prt (encs xs ++ b ++ encs ys) = withLen xs ++ (prt b ++ withLen ys) := by
    rw [List.append_assoc, prt_encs xs hx, prt_app (head_ok hc) b.length b (Nat.le_refl _), prt_encs' hy]
  constructor
  · unfold loose scl
    rw [hp]
    simp only [List.map_append]
    have e : ∀ zs : List Int, (withLen zs).map (·.1) = zs := fun zs => by simp [withLen, Function.comp_def]
    rw [e, e, fix_id hx, fix_id hy, encs_app, encs_app, List.append_assoc]
  · rw [hp, wrg_withLen hx]
    have hw : ∀ (ps : List (Int × Nat)) (a : Nat), wrg (ps ++ withLen ys) a = wrg ps a := by
      intro ps
      induction ps with
      | nil => intro a; simp only [List.nil_append, wrg]; exact wrg_all.2 (withLen_all hy)
      | cons p t ih => intro a; simp only [List.cons_append, wrg, ih]
    rw [hw]
    rcases wrg_shift (prt b) 0 (encs xs).length with ⟨h1, h2⟩ | ⟨h1, h2⟩
    · rw [h2, if_neg (by omega), h1]
    · rw [h2, if_pos h1]
def sumLen (xs : List Int) : Int := (xs.map lenF).sum
theorem sumLen_encs : ∀ (xs : List Int), sumLen xs = (encs xs).length
  | [] => rfl
  | x :: xs => by
    have := sumLen_encs xs
    unfold sumLen at *
    rw [encs_cons]
    simp only [List.map_cons, List.sum_cons, List.length_append, this, ← enc_len x]
    omega
end Go.Proofs.YtehehmpepkgbeaaDoor
