/- The contracts of Encode. -/
import Derived.Test.YtgahaehnlbkihaaDoorO
import Derived.Maps.Own
import Derived.Maps.OwnSet
import Derived.Deep.WholeRow
import Derived.Deep.OwnRows
namespace Go.Proofs.YtgahaehnlbkihaaDoor
open Go.RowKit Go.Maps
set_option linter.unusedVariables false
set_option linter.unusedSimpArgs false
/-- What Encode tells: from place a on, acc having been told. -/
def eF (f : Int → Option Nat) : Nat → List UInt8 → Nat → List UInt8 → List UInt8 × Int × Int
  | 0, _, _, acc => (acc, -1, 0)
  | n + 1, l, a, acc => if l = [] then (acc, -1, 0) else if (dec l).1 = -1 then ([], (a : Int), 2) else
      match f (dec l).1 with
      | none => ([], (a : Int), 2)
      | some b => eF f n (l.drop (dec l).2) (a + (dec l).2) (acc ++ [by8 (b : Int)])
theorem eF_nil (f : Int → Option Nat) (n a : Nat) (acc : List UInt8) : eF f n [] a acc = (acc, -1, 0) := by
  cases n <;> simp [eF]
theorem eF_bad {f : Int → Option Nat} {n a : Nat} {l acc : List UInt8} {k : Nat} (hl : l ≠ []) (hd : dec l = (-1, k)) : eF f (n + 1) l a acc = ([], (a : Int), 2) := by
  simp [eF, hl, hd]
theorem eF_none {f : Int → Option Nat} {n a : Nat} {l acc : List UInt8} {r : Int} {k : Nat} (hl : l ≠ []) (hd : dec l = (r, k)) (hr : r ≠ -1) (hf : f r = none) : eF f (n + 1) l a acc = ([], (a : Int), 2) := by
  simp [eF, hl, hd, hr, hf]
theorem eF_some {f : Int → Option Nat} {n a : Nat} {l acc : List UInt8} {r : Int} {k b : Nat} (hl : l ≠ []) (hd : dec l = (r, k)) (hr : r ≠ -1) (hf : f r = some b) : eF f (n + 1) l a acc = eF f n (l.drop k) (a + k) (acc ++ [by8 (b : Int)]) := by
  simp [eF, hl, hd, hr, hf]
/-- Where Encode stands: behind a bytes, acc having been told; what it tells in the end is R. -/
def EAt (f : Int → Option Nat) (l : List UInt8) (R : List UInt8 × Int × Int) (a : Nat) (acc : List UInt8) : Prop := a ≤ l.length ∧ acc.length ≤ a ∧ ∃ n, (l.drop a).length ≤ n ∧ eF f n (l.drop a) a acc = R
theorem EAt.start (f : Int → Option Nat) (l : List UInt8) : EAt f l (eF f l.length l 0 []) 0 [] := ⟨Nat.zero_le _, Nat.le_refl _, l.length, by simp, by simp⟩
theorem EAt.done {f : Int → Option Nat} {l : List UInt8} {R : List UInt8 × Int × Int} {a : Nat} {acc : List UInt8} (h : EAt f l R a acc) (ha : ¬ a < l.length) : R = (acc, -1, 0) := by
  obtain ⟨_, _, n, _, hR⟩ := h
  rw [List.drop_eq_nil_of_le (by omega), eF_nil] at hR
  exact hR.symm
theorem EAt.bad {f : Int → Option Nat} {l : List UInt8} {R : List UInt8 × Int × Int} {a : Nat} {acc : List UInt8} (h : EAt f l R a acc) (ha : a < l.length) {k : Nat} (hd : dec (l.drop a) = (-1, k)) : R = ([], (a : Int), 2) := by
  obtain ⟨_, _, n, hn, hR⟩ := h
  have hne := drop_ne ha
  obtain ⟨m, rfl⟩ : ∃ m, n = m + 1 := ⟨n - 1, by simp only [List.length_drop] at hn; omega⟩
  rw [eF_bad hne hd] at hR
  exact hR.symm
theorem EAt.miss {f : Int → Option Nat} {l : List UInt8} {R : List UInt8 × Int × Int} {a : Nat} {acc : List UInt8} (h : EAt f l R a acc) (ha : a < l.length) {r : Int} {k : Nat} (hd : dec (l.drop a) = (r, k)) (hr : r ≠ -1) (hf : f r = none) : R = ([], (a : Int), 2) := by
  obtain ⟨_, _, n, hn, hR⟩ := h
  have hne := drop_ne ha
  obtain ⟨m, rfl⟩ : ∃ m, n = m + 1 := ⟨n - 1, by simp only [List.length_drop] at hn; omega⟩
  rw [eF_none hne hd hr hf] at hR
  exact hR.symm
theorem EAt.next {f : Int → Option Nat} {l : List UInt8} {R : List UInt8 × Int × Int} {a : Nat} {acc : List UInt8} (h : EAt f l R a acc) (ha : a < l.length) {r : Int} {k b : Nat} (hd : dec (l.drop a) = (r, k)) (hr : r ≠ -1) (hf : f r = some b) : EAt f l R (a + k) (acc ++ [by8 (b : Int)]) := by
  obtain ⟨_, h2, n, hn, hR⟩ := h
  have hne := drop_ne ha
  have h1 := dec_pos (l.drop a)
  have h3 := dec_le hne
  rw [hd] at h1 h3
  simp only [List.length_drop] at h1 h3 hn
  obtain ⟨m, rfl⟩ : ∃ m, n = m + 1 := ⟨n - 1, by omega⟩
  rw [eF_some hne hd hr hf, List.drop_drop] at hR
  refine ⟨by omega, by simp; omega, m, by simp; omega, hR⟩
/-- What Encode tells of a text. -/
def encR (e : Int) (s : ByteArray) : List UInt8 × Int × Int := if isE e = true then eF (bf e) s.data.toList.length s.data.toList 0 [] else ([], -1, 2)
def EncS (e : Int) (s : ByteArray) (w : World) (x : Ending) (w' : World) : Prop := x = .returned (.tuple #[.string (str (encR e s).1), .int .i64 (encR e s).2.1, .int .i64 (encR e s).2.2]) ∧ Below w.heap.size w w'
theorem enc_no {e : Int} {s : ByteArray} {w w' : World} (h : isE e = false) (hb : Below w.heap.size w w') : EncS e s w (.returned (.tuple #[.string ⟨#[]⟩, .int .i64 (-1), .int .i64 2])) w' := ⟨by unfold encR; rw [h]; rfl, hb⟩
theorem enc_of {e : Int} {s : ByteArray} {w w' : World} {R : List UInt8 × Int × Int} {b : List UInt8} {a c : Int} (hR : encR e s = R) (h : R = (b, a, c)) (hb : Below w.heap.size w w') : EncS e s w (.returned (.tuple #[.string (str b), .int .i64 a, .int .i64 c])) w' := ⟨by rw [hR, h], hb⟩
theorem encR_is {e : Int} (h : isE e = true) (s : ByteArray) : encR e s = eF (bf e) s.data.toList.length s.data.toList 0 [] := by unfold encR; rw [if_pos h]
theorem look_lt {e r : Int} {b : Nat} (h : bf e r = some b) : b < 256 := by
  cases hE : isE e
  · rw [bf_isnt hE] at h; simp at h
  · rw [bf_is hE] at h; exact (look_some h).1
/-- The bytes by their scalars, looked up. -/
theorem cod_run {w : World} {g : Nat → Int} {G : Nat} (hM : w.ownsMap Tryd.prog 3 (plainElem Tryd.prog 5) G 256 (cod g 256)) (hinj : ∀ a b, a < 256 → b < 256 → g a = g b → a = b) {r : Int} (hr : (Lit.int .i64 r).wf = true) :
    (Instr.lookup 45 (.map (some G)) (.int .i64 r) true).run Tryd.prog w = .ok (.tuple #[.int .u8 (((look g 256 r).getD 0 : Nat) : Int), .bool (look g 256 r).isSome]) w := by
  obtain ⟨h1, h2⟩ := cod_look hinj r 256 (Nat.le_refl _)
  generalize cod g 256 = D at h1 h2 hM
  generalize look g 256 r = o at h1 h2 ⊢
  obtain ⟨v, ps, hrun, hv⟩ := hM.look_ok lawI64 Tryd.underlying45 (zeroU8 w) (zd := .lit (.int .u8 0)) (zp := []) (plainElem_int Tryd.underlying5 (by decide)) (keyOf_int_mk Tryd.underlying3 hr)
  rw [h2] at hv
  rw [h1] at hrun
  obtain ⟨a, rfl, hz, _⟩ := plainElem_int_inv Tryd.underlying5 hv
  simp only [Prod.mk.injEq] at hz
  have : ((o.getD 0 : Nat) : Int) = a := by simpa using hz.1
  rw [this]
  exact hrun
theorem own8_snoc {w : World} {base n g cap : Nat} {xs : List UInt8} {b : Nat} (hb : b < 256) (hn : xs.length = n) (h : w.ownsRow base 5 1 (.slice (some ⟨g, 0, none⟩) (n + 1) cap) (n + 1) (xs.map u8v ++ [.int .u8 (b : Int)])) : Own8 w base (.slice (some ⟨g, 0, none⟩) (n + 1) cap) (xs ++ [by8 (b : Int)]) := by
  unfold Own8
  rw [List.length_append, List.map_append, hn]
  have e : u8v (by8 (b : Int)) = .int .u8 (b : Int) := by
    unfold u8v
    rw [by8_val (by omega) (by omega)]
  simp only [List.map_cons, List.map_nil, e, List.length_singleton]
  exact h
end Go.Proofs.YtgahaehnlbkihaaDoor
