/- Slices of bytes that lie as a conversion lays them, and grow. -/
import Derived.Test.YtgadpoahjlnheaaLF
import Derived.Deep.AppendSrc
import Derived.Lib.Bytealg
import Derived.Laws.Externs
import Derived.Laws.DeepStrings4
import Derived.Laws.BytesArg
import Derived.Laws.IdiomStrings
import Derived.ArgAppend
namespace Go.Proofs.Ytgadpoahjlnheaa.Lab
open Go.RowKit
set_option linter.unusedVariables false
set_option linter.unusedSimpArgs false
/-- Block B holds a slice of bytes: the first cap cells may be written, the first ones are l. -/
def BW (w : World) (B cap : Nat) (l : List UInt8) : Prop := ∃ (C : Array Value) (lo hi : Nat), w.heap[B]? = some (.cells C 5 (lo, hi)) ∧ l.length ≤ cap ∧ cap ≤ C.size ∧ (∀ i, i < cap → ¬ (lo ≤ i ∧ i < hi)) ∧ ∀ i (h : i < l.length), C[i]? = some (u8v l[i])
namespace BW
variable {w w' : World} {B cap : Nat} {l : List UInt8}
theorem lt (h : BW w B cap l) : B < w.heap.size := by
  obtain ⟨C, lo, hi, h, _⟩ := h
  exact (Array.getElem?_eq_some_iff.1 h).1
theorem le (h : BW w B cap l) : l.length ≤ cap := by
  obtain ⟨C, lo, hi, _, h, _⟩ := h
  exact h
theorem cell (h : BW w B cap l) {i : Nat} (hi : i < l.length) : w.cell? ⟨B, i, none⟩ = some (.int .u8 (l[i].toNat : Int)) := by
  obtain ⟨C, lo, hh, hb, _, _, _, hc⟩ := h
  simp [World.cell?, hb, hc i hi, u8v]
theorem there (h : BW w B cap l) {i : Nat} (hi : i < cap) : (w.cell? ⟨B, i, none⟩).isSome = true ∧ w.frozen? ⟨B, i, none⟩ = false := by
  obtain ⟨C, lo, hh, hb, _, hs, hf, hc⟩ := h
  refine ⟨?_, ?_⟩
  · have : i < C.size := by omega
    simp [World.cell?, hb, this]
  · have := hf i hi
    simp [World.frozen?, hb]; omega
theorem set (h : BW w B cap l) {i : Nat} (hi : i < l.length) (c : UInt8) : BW (w.setCell ⟨B, i, none⟩ (.int .u8 (c.toNat : Int))) B cap (l.set i c) := by
  obtain ⟨C, lo, hh, hb, h1, hs, hf, hc⟩ := h
  refine ⟨C.setIfInBounds i (u8v c), lo, hh, ?_, by simpa using h1, by simpa using hs, hf, ?_⟩
  · simp [World.setCell, Array.getElem?_modify, hb, u8v]
  · intro j hj
    simp only [List.length_set] at hj
    by_cases e : i = j
    · subst e
      have : i < C.size := by omega
      simp [Array.getElem?_setIfInBounds, this]
    · rw [Array.getElem?_setIfInBounds_ne (by omega), hc j hj, List.getElem_set_ne (by omega)]
theorem push (h : BW w B cap l) (hr : l.length + 1 ≤ cap) (c : UInt8) : BW (w.setCell ⟨B, l.length, none⟩ (u8v c)) B cap (l ++ [c]) := by
  obtain ⟨C, lo, hh, hb, h1, hs, hf, hc⟩ := h
  refine ⟨C.setIfInBounds l.length (u8v c), lo, hh, ?_, by simpa using hr, by simpa using hs, hf, ?_⟩
  · simp [World.setCell, Array.getElem?_modify, hb]
  · intro j hj
    simp only [List.length_append, List.length_cons, List.length_nil] at hj
    by_cases e : j = l.length
    · subst e
      have : l.length < C.size := by omega
      simp [Array.getElem?_setIfInBounds, this]
    · rw [Array.getElem?_setIfInBounds_ne (by omega), hc j (by omega), List.getElem_append_left (by omega)]
theorem below (h : BW w B cap l) (hb : Below w.heap.size w w') : BW w' B cap l := by
  have := h.lt
  obtain ⟨C, lo, hi, hb', hs⟩ := h
  exact ⟨C, lo, hi, (hb.block _ this).trans hb', hs⟩
theorem alloc (h : BW w B cap l) (o : Obj) : BW (w.alloc o) B cap l := h.below ((Below.refl _ _).alloc (Nat.le_refl _) _)
theorem cells (h : BW w B cap l) : ∀ j u, (l.map u8v)[j]? = some u → w.cell? ⟨B, 0 + j, none⟩ = some u := by
  intro j u hu
  rw [List.getElem?_map] at hu
  cases hx : l[j]? with
  | none => rw [hx] at hu; cases hu
  | some c =>
    rw [hx] at hu
    obtain ⟨hj, hc⟩ := List.getElem?_eq_some_iff.1 hx
    rw [Nat.zero_add, h.cell hj, hc]
    simpa [u8v] using hu
theorem conv (h : BW w B cap l) : (convert 40 9 (.slice (some ⟨B, 0, none⟩) l.length cap)).run Try.prog w = .ok (.string (str l)) w := by
  refine run_convert_bytes_back (P := Try.prog) w 40 9 5 ⟨B, 0, none⟩ cap l Try.underlying40 Try.underlying5 Try.underlying9 ?_
  intro j hj
  have hadd : (⟨B, 0, none⟩ : Addr).add j = ⟨B, 0 + j, none⟩ := by unfold Addr.add; split <;> simp_all
  rw [hadd, Nat.zero_add]
  exact h.cell hj
/-- Out of a slice that the call owns. -/
theorem ofOwn {base n : Nat} {v : Value} (h : w.ownsRow base 5 1 v n (l.map u8v)) (hn : 0 < n) : ∃ B cap, v = .slice (some ⟨B, 0, none⟩) l.length cap ∧ base ≤ B ∧ BW w B cap l := by
  have hl : l.length = n := by have := h.1; simpa using this
  rcases h.2 with ⟨_, h0⟩ | ⟨g, cap, cur, rfl, hb, hg, hcap, hm, hsz, ht⟩
  · omega
  · refine ⟨g, cap, by rw [hl], hb, cur, 0, 0, hg, by omega, by omega, by omega, fun i hi => ?_⟩
    have h1 : (cur.toList.take (n * 1))[i]? = (l.map u8v)[i]? := by rw [ht]
    rw [List.getElem?_take_of_lt (by omega), Array.getElem?_toList] at h1
    rw [h1]; simp [hi]
end BW
/-- A conversion of a text to bytes, as such a slice. -/
theorem bw_new (w : World) (x : List UInt8) : ∃ cap W1, (convert 9 40 (.string (str x))).run Try.prog w = .ok (.slice (some ⟨w.heap.size, 0, none⟩) x.length cap) W1 ∧ BW W1 w.heap.size cap x ∧ Below w.heap.size w W1 := by
  obtain ⟨cap, W1, h1, h2, h3, h4, _, C, h5, h6⟩ := bys_new w (str x)
  obtain ⟨C', h7, h8, h9⟩ := h2
  rw [str_size] at h1 h4
  refine ⟨cap, W1, h1, ⟨C', C'.size, C'.size + 1, h7, h4, ?_, ?_, h9⟩, h3⟩
  · rw [h5] at h7; simp at h7; rw [← h7.1]; omega
  · rw [h5] at h7; simp at h7; rw [← h7.1]; omega
/-- b = append(b, c): b a slice of bytes as above. -/
theorem wpList_append_bw {ops : Array Oper} {rest : List Oper} {o : Oper} {a : Act} {Q : Exit → Act → World → Prop} {w : World} (hgd : o.guard = none) (s x : Operand)
    (ho : o.op = .call { callee := .builtin .append, args := #[s, x], argTypes := #[40, 40] })
    (base B cap n : Nat) (l : List UInt8) (hn : l.length = n) (hs : a.eval s = .slice (some ⟨B, 0, none⟩) n cap) (hB : base ≤ B) (hbase : base ≤ w.heap.size) (hbw : BW w B cap l) (hl : n ≤ 200000)
    (ad : Addr) (m : Nat) (c : UInt8) (hx : a.eval x = .slice (some ad) 1 m) (hc : w.cell? (ad.add 0) = some (u8v c))
    (h : ∀ B' cap' w', base ≤ B' → BW w' B' cap' (l ++ [c]) → Below base w w' → wpList Try.prog ops Q rest (a.put o.dst (.slice (some ⟨B', 0, none⟩) (n + 1) cap')) w') : wpList Try.prog ops Q (o :: rest) a w := by
  obtain ⟨i0, hi, hz0, hz1, hz2⟩ := info_parts info5
  subst hn
  refine wpList_append_arg w hgd s x 40 ho 5 i0 (.int .u8 0) 1 1 Try.underlying40 hi hz0 hz1 hz2 (by rfl) (by decide) B 0 l.length cap (l.map u8v) hs (by simp) hbw.cells ad 1 m [u8v c] hx (by simp)
    (fun j u hj => ?_) (by simp [u8v, Value.oneCell']) (fun hr j hj => ?_) (by unfold maxLen; omega) (by omega) (fun hr => ?_) (fun hg v' w' hown hgrow => ?_)
  · cases j with
    | zero => simp at hj; rw [hc, hj]
    | succ j => simp at hj
  · simp at hj
    subst hj
    simpa using hbw.there (i := l.length) (by omega)
  · have e2 : w.setCells B (0 + l.length * 1) [u8v c] = w.setCell ⟨B, l.length, none⟩ (u8v c) := by simp [World.setCells]
    rw [e2]
    exact h _ _ _ hB (hbw.push hr c) ((Below.refl _ _).setCell hB _)
  · have e : l.map u8v ++ [u8v c] = (l ++ [c]).map u8v := by simp
    rw [e] at hown
    obtain ⟨B', cap', rfl, hB', hbw'⟩ := BW.ofOwn hown (by omega)
    rw [show (l ++ [c]).length = l.length + 1 by simp]
    exact h _ _ _ (by omega) hbw' (below_of_grown hgrow hbase (fun k e => by cases e))
end Go.Proofs.Ytgadpoahjlnheaa.Lab
