import Derived.Test.YtjgbnagacbiolaaD
namespace Go.Proofs.Ytjgbnagacbiolaa
open Go.RowKit
set_option linter.unusedVariables false
set_option linter.unusedSimpArgs false
structure Wr where
  op : Int
  zn : Int
  b : ByteArray
  n : Int
theorem ok_of (x : Dk) : x.ok = true ↔ (0 ≤ x.c ∧ x.c ≤ 131072 ∧ (x.z0.b.size : Int) ≤ x.c ∧ 0 ≤ x.z0.s ∧ x.z0.s ≤ x.z0.b.size ∧ (x.z1.b.size : Int) ≤ x.c ∧ 0 ≤ x.z1.s ∧ x.z1.s ≤ x.z1.b.size) := by
  simp only [Dk.ok, decide_eq_true_eq]
def Dk.fit (x : Dk) : Prop := x.z0.b.size ≤ maxLen ∧ x.z1.b.size ≤ maxLen ∧ x.l ≤ 9223372036854775807
theorem fit_of_ok {x : Dk} (h : x.ok = true) (hl : x.l ≤ 9223372036854775807) : x.fit := by
  have := (ok_of x).1 h
  unfold Dk.fit maxLen
  omega
/-- A zone behind an operation that may be done on it is a zone of at most c bytes. -/
theorem behF_ok {b0 b : ByteArray} {s0 op n c : Int} {bs : Nat} (h0 : (b0.size : Int) ≤ c) (h1 : 0 ≤ s0) (h2 : s0 ≤ b0.size)
    (hw : (op = 0 ∧ b.size ≠ 0 ∧ n = 0) ∨ (op = 1 ∧ b.size = 0 ∧ n = 0) ∨ (op = 2 ∧ b.size = 0 ∧ 0 ≤ n ∧ n ≤ b0.size)) (hf : ¬ c - b0.size < b.size) :
    ((behF b0 s0 op b n).b.size : Int) ≤ c ∧ 0 ≤ (behF b0 s0 op b n).s ∧ (behF b0 s0 op b n).s ≤ (behF b0 s0 op b n).b.size := by
  rcases hw with ⟨rfl, ha, hb⟩ | ⟨rfl, ha, hb⟩ | ⟨rfl, ha, hb, hc⟩
  · simp only [behF, if_true, ByteArray.size_append]
    omega
  · simp only [behF, if_true]
    rw [if_neg (by decide), if_neg (by decide)]
    simp only []
    omega
  · simp only [behF, if_true]
    rw [if_neg (by decide)]
    simp only [ByteArray.size_extract]
    omega
theorem doF_zero {x o : Dk} {op zn n : Int} {b : ByteArray} (h : doF x op zn b n = (o, 0)) :
    x.ok = true ∧ wrP x.z0.b.size x.z1.b.size op zn b.size n ∧ x.d = false ∧ x.l ≠ 0 ∧ ¬ ((zn = 0 ∧ x.c - x.z0.b.size < b.size) ∨ (zn = 1 ∧ x.c - x.z1.b.size < b.size)) ∧
      ((zn = 0 ∧ o = ⟨behF x.z0.b x.z0.s op b n, x.z1, x.c, if 0 < x.l then x.l - 1 else x.l, x.d⟩) ∨ (zn = 1 ∧ o = ⟨x.z0, behF x.z1.b x.z1.s op b n, x.c, if 0 < x.l then x.l - 1 else x.l, x.d⟩)) := by
  unfold doF at h
  split at h
  · simp at h
  rename_i hok
  split at h
  · simp at h
  rename_i hw
  split at h
  · simp at h
  rename_i hd
  split at h
  · simp at h
  rename_i hl
  split at h
  · simp at h
  rename_i hf
  have hw' : wrP x.z0.b.size x.z1.b.size op zn b.size n := Decidable.not_not.1 hw
  refine ⟨by simpa using hok, hw', by simpa using hd, hl, hf, ?_⟩
  split at h
  · rename_i hz
    left; exact ⟨hz, by simpa using h.symm⟩
  · rename_i hz
    right; exact ⟨by have := hw'.1; omega, by simpa using h.symm⟩
theorem doF_ok {x o : Dk} {op zn n : Int} {b : ByteArray} (h : doF x op zn b n = (o, 0)) : o.ok = true ∧ o.l ≤ max x.l 0 ∧ o.c = x.c ∧ o.d = false := by
  obtain ⟨hok, hw, hd, hl, hf, h⟩ := doF_zero h
  obtain ⟨o1, o2, o3, o4, o5, o6, o7, o8⟩ := (ok_of x).1 hok
  unfold wrP at hw
  rw [ok_of]
  rcases h with ⟨hz, rfl⟩ | ⟨hz, rfl⟩
  · have := behF_ok (b0 := x.z0.b) (s0 := x.z0.s) (op := op) (b := b) (n := n) (c := x.c) (bs := 0) o3 o4 o5 (by omega) (by omega)
    refine ⟨⟨o1, o2, this.1, this.2.1, this.2.2, o6, o7, o8⟩, ?_, rfl, hd⟩
    show (if 0 < x.l then x.l - 1 else x.l) ≤ _
    split <;> omega
  · have := behF_ok (b0 := x.z1.b) (s0 := x.z1.s) (op := op) (b := b) (n := n) (c := x.c) (bs := 0) o6 o7 o8 (by omega) (by omega)
    refine ⟨⟨o1, o2, o3, o4, o5, this.1, this.2.1, this.2.2⟩, ?_, rfl, hd⟩
    show (if 0 < x.l then x.l - 1 else x.l) ≤ _
    split <;> omega
/-- All: operations one behind the other, up to the first error. -/
def allF (x : Dk) : List Wr → Nat → Dk × Nat × Int
  | [], k => (x, k, 0)
  | w :: ws, k => if (doF x w.op w.zn w.b w.n).2 = 30 then ({ x with d := true }, k, 30) else if (doF x w.op w.zn w.b w.n).2 ≠ 0 then (x, k, (doF x w.op w.zn w.b w.n).2) else allF (doF x w.op w.zn w.b w.n).1 ws (k + 1)
end Go.Proofs.Ytjgbnagacbiolaa
