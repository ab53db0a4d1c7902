/- The contracts of Lower, the program's and the document's own; rows of bytes. -/
import Derived.Test.YtdkfbikpadehdaaDoorLB
import Derived.Lib.Bytealg
import Derived.Laws.Externs
import Derived.Laws.DeepStrings4
import Derived.Laws.BytesArg
import Derived.Laws.IdiomStrings
namespace Go.Proofs.YtdkfbikpadehdaaDoor.Lab
open Go.RowKit
set_option linter.unusedVariables false
set_option linter.unusedSimpArgs false
theorem info5 : (Tryd.prog.info? 5).map (fun i => (i.zero, i.size, i.bytes)) = some (some (.int .u8 0), 1, 1) := by kernel_rfl
theorem info9 : (Tryd.prog.info? 9).map (fun i => (i.zero, i.size, i.bytes)) = some (some (.string ⟨#[]⟩), 1, 16) := by kernel_rfl
theorem info_parts {t : TypeId} {z : Option Value} {a b : Nat} (h : (Tryd.prog.info? t).map (fun i => (i.zero, i.size, i.bytes)) = some (z, a, b)) : ∃ i, Tryd.prog.info? t = some i ∧ i.zero = z ∧ i.size = a ∧ i.bytes = b := by
  cases hx : Tryd.prog.info? t with
  | none => rw [hx] at h; cases h
  | some i => rw [hx] at h; simp at h; exact ⟨i, rfl, h.1, h.2.1, h.2.2⟩
def u8v (b : UInt8) : Value := .int .u8 (b.toNat : Int)
/-- Block B is a row of bytes as a conversion lays it: the first ones are l. -/
def BysR (w : World) (B : Nat) (l : List UInt8) : Prop := ∃ C : Array Value, w.heap[B]? = some (.cells C 5 (C.size, C.size + 1)) ∧ l.length ≤ C.size ∧ ∀ i (h : i < l.length), C[i]? = some (u8v l[i])
namespace BysR
variable {w w' : World} {B : Nat} {l : List UInt8}
theorem lt (h : BysR w B l) : B < w.heap.size := by
  obtain ⟨C, h, _⟩ := h
  exact (Array.getElem?_eq_some_iff.1 h).1
theorem cell (h : BysR w B l) {i : Nat} (hi : i < l.length) : w.cell? ⟨B, i, none⟩ = some (.int .u8 (l[i].toNat : Int)) := by
  obtain ⟨C, hb, _, hc⟩ := h
  simp [World.cell?, hb, hc i hi, u8v]
theorem frozen (h : BysR w B l) {i : Nat} (hi : i < l.length) : w.frozen? ⟨B, i, none⟩ = false := by
  obtain ⟨C, hb, hs, hc⟩ := h
  simp [World.frozen?, hb]; omega
theorem set (h : BysR w B l) {i : Nat} (hi : i < l.length) (c : UInt8) : BysR (w.setCell ⟨B, i, none⟩ (.int .u8 (c.toNat : Int))) B (l.set i c) := by
  obtain ⟨C, hb, hs, hc⟩ := h
  refine ⟨C.setIfInBounds i (u8v c), ?_, by simpa using hs, ?_⟩
  · simp [World.setCell, Array.getElem?_modify, hb, u8v]
  · intro j hj
    simp only [List.length_set] at hj
    by_cases e : i = j
    · subst e
      have : i < C.size := by omega
      simp [Array.getElem?_setIfInBounds, this]
    · rw [Array.getElem?_setIfInBounds_ne (by omega), hc j hj, List.getElem_set_ne (by omega)]
theorem below (h : BysR w B l) (hb : Below w.heap.size w w') : BysR w' B l := by
  have := h.lt
  obtain ⟨C, hb', hs, hc⟩ := h
  exact ⟨C, (hb.block _ this).trans hb', hs, hc⟩
theorem conv (h : BysR w B l) (cap : Nat) : (convert 37 9 (.slice (some ⟨B, 0, none⟩) l.length cap)).run Tryd.prog w = .ok (.string (str l)) w := by
  refine run_convert_bytes_back (P := Tryd.prog) w 37 9 5 ⟨B, 0, none⟩ cap l Tryd.underlying37 Tryd.underlying5 Tryd.underlying9 ?_
  intro j hj
  have hadd : (⟨B, 0, none⟩ : Addr).add j = ⟨B, 0 + j, none⟩ := by unfold Addr.add; split <;> simp_all
  rw [hadd, Nat.zero_add]
  exact h.cell hj
end BysR
/-- What a conversion of a text to bytes lays. -/
theorem bys_new (w : World) (s : ByteArray) : ∃ cap W1, (convert 9 37 (.string s)).run Tryd.prog w = .ok (.slice (some ⟨w.heap.size, 0, none⟩) s.size cap) W1 ∧ BysR W1 w.heap.size s.data.toList ∧ Below w.heap.size w W1 ∧ s.size ≤ cap ∧ W1.heap.size = w.heap.size + 1 ∧
    ∃ C : Array Value, W1.heap[w.heap.size]? = some (.cells C 5 (C.size, C.size + 1)) ∧ C.size = cap := by
  refine ⟨_, _, run_bytes_of_string w 9 37 5 s Tryd.underlying9 Tryd.underlying37 Tryd.underlying5, ?_, ?_, ?_, ?_, ?_⟩
  · refine ⟨bytesRow s (grownCap w s.size 0 5), by show (w.heap.push _)[w.heap.size]? = _; simp, ?_, ?_⟩
    · simp [bytesRow]
    · intro i hi
      have hi' : i < s.size := by simpa using hi
      have hi2 : i < s.data.size := hi'
      unfold bytesRow
      rw [Array.getElem?_append_left (by simpa using hi2)]
      simp [u8v]
      exact ⟨s.data[i], by simp [hi2], rfl⟩
  · exact ((Below.refl _ w).drew).alloc (Nat.le_refl _) _
  · exact grownCap_ge _ _ _ _
  · simp [World.alloc]
  · refine ⟨bytesRow s (grownCap w s.size 0 5), by show (w.heap.push _)[w.heap.size]? = _; simp, ?_⟩
    have := grownCap_ge w s.size 0 5
    simp [bytesRow]
    have : s.data.size = s.size := rfl
    omega
theorem lo_or (c : UInt8) : 65 ≤ (c.toNat : Int) → (c.toNat : Int) ≤ 90 → bits .or .u8 (c.toNat : Int) 32 = ((lo c).toNat : Int) := by
  have : ∀ c : Fin 256, 65 ≤ (c.val : Int) → (c.val : Int) ≤ 90 → bits .or .u8 (c.val : Int) 32 = ((lo (UInt8.ofNat c)).toNat : Int) := by decide +kernel
  have k := this ⟨c.toNat, c.toNat_lt⟩
  simpa using k
theorem lo_add (c : UInt8) : 65 ≤ (c.toNat : Int) → (c.toNat : Int) ≤ 90 → IntKind.u8.wrap ((c.toNat : Int) + 32) = ((lo c).toNat : Int) := by
  have : ∀ c : Fin 256, 65 ≤ (c.val : Int) → (c.val : Int) ≤ 90 → IntKind.u8.wrap ((c.val : Int) + 32) = ((lo (UInt8.ofNat c)).toNat : Int) := by decide +kernel
  have k := this ⟨c.toNat, c.toNat_lt⟩
  simpa using k
theorem lo_not (c : UInt8) : ¬ (65 ≤ (c.toNat : Int) ∧ (c.toNat : Int) ≤ 90) → lo c = c := by
  have : ∀ c : Fin 256, ¬ (65 ≤ (c.val : Int) ∧ (c.val : Int) ≤ 90) → lo (UInt8.ofNat c) = UInt8.ofNat c := by decide +kernel
  have k := this ⟨c.toNat, c.toNat_lt⟩
  simpa using k
def lowN (l : List UInt8) (k : Nat) : List UInt8 := lwr (l.take k) ++ l.drop k
theorem lowN_len (l : List UInt8) {k : Nat} : (lowN l k).length = l.length := by
  unfold lowN; simp [lwr]; omega
theorem lowN_at {l : List UInt8} {k : Nat} (h : k < l.length) : (lowN l k)[k]'(by rw [lowN_len]; exact h) = l[k] := by
  unfold lowN
  rw [List.getElem_append_right (by simp [lwr]; omega)]
  simp [lwr, Nat.min_eq_left (Nat.le_of_lt h)]
theorem lowN_0 (l : List UInt8) : lowN l 0 = l := by simp [lowN, lwr]
theorem lowN_end {l : List UInt8} {k : Nat} (h : ¬ k < l.length) : lowN l k = lwr l := by
  unfold lowN; rw [List.take_of_length_le (by omega), List.drop_eq_nil_of_le (by omega)]; simp
theorem lowN_step {l : List UInt8} {k : Nat} (h : k < l.length) : lowN l (k + 1) = (lowN l k).set k (lo l[k]) := by
  unfold lowN lwr
  rw [List.take_add_one, List.getElem?_eq_getElem h, List.drop_eq_getElem_cons h]
  simp only [Option.toList_some, List.map_append, List.map_cons, List.map_nil]
  rw [List.set_append_right _ _ (by simp; omega)]
  simp [Nat.min_eq_left (Nat.le_of_lt h)]
  rw [List.drop_eq_getElem_cons h, List.set_cons_zero]
theorem lowN_same {l : List UInt8} {k : Nat} (h : k < l.length) (hl : lo l[k] = l[k]) : lowN l (k + 1) = lowN l k := by
  rw [lowN_step h, hl]
  apply List.ext_getElem (by simp)
  intro i h1 h2
  by_cases e : k = i
  · subst e; rw [List.getElem_set_self, lowN_at h]
  · rw [List.getElem_set_ne e]
end Go.Proofs.YtdkfbikpadehdaaDoor.Lab
