import Derived.Test.YtjgbnagacbiolaaLF2
namespace Go.Proofs.Ytjgbnagacbiolaa
open Go.RowKit
set_option linter.unusedVariables false
set_option linter.unusedSimpArgs false
/-- What is sure of a zone stands at its front. -/
def PF (z : Zn) (u : ByteArray) : Prop := u.size ≤ z.b.size ∧ z.b.extract 0 u.size = u ∧ (u.size : Int) ≤ z.s ∧ z.s ≤ z.b.size
theorem ext_app (a b : ByteArray) (k : Nat) (h : k ≤ a.size) : (a ++ b).extract 0 k = a.extract 0 k := by
  apply ByteArray.ext
  simp [ByteArray.data_extract, ByteArray.data_append, Array.extract_append]
  have : k - a.data.size = 0 := by have : a.data.size = a.size := rfl; omega
  left; omega
theorem ext_ext (a : ByteArray) (j k : Nat) (h : k ≤ j) : (a.extract 0 j).extract 0 k = a.extract 0 k := by
  apply ByteArray.ext
  simp [ByteArray.data_extract, Array.extract_extract, Nat.min_eq_left h]
theorem pf_start (z : Zn) (h0 : 0 ≤ z.s) (h1 : z.s ≤ z.b.size) : PF z (z.b.extract 0 z.s.toNat) := by
  have hs : (z.b.extract 0 z.s.toNat).size = z.s.toNat := by rw [ByteArray.size_extract]; omega
  refine ⟨by omega, by rw [hs], by omega, h1⟩
theorem pf_empty (z : Zn) (h0 : 0 ≤ z.s) (h1 : z.s ≤ z.b.size) : PF z ⟨#[]⟩ := by
  refine ⟨Nat.zero_le _, ?_, by show (0 : Int) ≤ _; exact h0, h1⟩
  apply ByteArray.ext
  simp [ByteArray.data_extract]
  left; rfl
theorem pf_app {b0 b : ByteArray} {s : Int} {u : ByteArray} (h : PF ⟨b0, s⟩ u) : PF ⟨b0 ++ b, s⟩ u := by
  obtain ⟨a, e, c, d⟩ := h
  simp only [] at a e c d
  refine ⟨?_, ?_, c, ?_⟩
  · show _ ≤ (b0 ++ b).size
    rw [ByteArray.size_append]; omega
  · show (b0 ++ b).extract 0 u.size = u
    rw [ext_app _ _ _ a]; exact e
  · show s ≤ ((b0 ++ b).size : Int)
    rw [ByteArray.size_append]; omega
theorem pf_sync {b0 : ByteArray} {s : Int} {u : ByteArray} (h : PF ⟨b0, s⟩ u) : PF ⟨b0, b0.size⟩ u := by
  obtain ⟨a, e, c, d⟩ := h
  simp only [] at a e c d
  exact ⟨a, e, by show (u.size : Int) ≤ (b0.size : Int); omega, by show (b0.size : Int) ≤ b0.size; omega⟩
theorem pf_crash {z : Zn} {u : ByteArray} (a : Int) (h : PF z u) (h0 : 0 ≤ z.s) : PF (crashZ a z) u := by
  obtain ⟨p, e, c, d⟩ := h
  obtain ⟨b, s⟩ := z
  simp only [] at p e c d h0
  have hk : 0 ≤ keepF a ⟨b, s⟩ ∧ keepF a ⟨b, s⟩ ≤ b.size - s := by
    rcases keepF_cases a b s d with ⟨h1, h2⟩ | ⟨h1, h2, h3⟩ | ⟨h1, h2⟩ <;> omega
  unfold crashZ
  have hs : (b.extract 0 (s + keepF a ⟨b, s⟩).toNat).size = (s + keepF a ⟨b, s⟩).toNat := by rw [ByteArray.size_extract]; omega
  refine ⟨by show u.size ≤ (b.extract 0 (s + keepF a ⟨b, s⟩).toNat).size; omega, ?_, by show (u.size : Int) ≤ s + keepF a ⟨b, s⟩; omega, by show s + keepF a ⟨b, s⟩ ≤ ((b.extract 0 (s + keepF a ⟨b, s⟩).toNat).size : Int); omega⟩
  show (b.extract 0 (s + keepF a ⟨b, s⟩).toNat).extract 0 u.size = u
  rw [ext_ext _ _ _ (by omega)]; exact e
theorem crash_ok {x : Dk} (h : x.ok = true) (a b : Int) : Dk.ok ⟨crashZ a x.z0, crashZ b x.z1, x.c, -1, false⟩ = true := by
  obtain ⟨⟨b0, s0⟩, ⟨b1, s1⟩, c, l, d⟩ := x
  obtain ⟨o1, o2, o3, o4, o5, o6, o7, o8⟩ := (ok_iff _ _ _ _ _ _ _).1 h
  have hk0 : 0 ≤ keepF a ⟨b0, s0⟩ ∧ keepF a ⟨b0, s0⟩ ≤ b0.size - s0 := by
    rcases keepF_cases a b0 s0 o5 with ⟨h1, h2⟩ | ⟨h1, h2, h3⟩ | ⟨h1, h2⟩ <;> omega
  have hk1 : 0 ≤ keepF b ⟨b1, s1⟩ ∧ keepF b ⟨b1, s1⟩ ≤ b1.size - s1 := by
    rcases keepF_cases b b1 s1 o8 with ⟨h1, h2⟩ | ⟨h1, h2, h3⟩ | ⟨h1, h2⟩ <;> omega
  have e0 : (b0.extract 0 (s0 + keepF a ⟨b0, s0⟩).toNat).size = (s0 + keepF a ⟨b0, s0⟩).toNat := by rw [ByteArray.size_extract]; omega
  have e1 : (b1.extract 0 (s1 + keepF b ⟨b1, s1⟩).toNat).size = (s1 + keepF b ⟨b1, s1⟩).toNat := by rw [ByteArray.size_extract]; omega
  unfold crashZ
  rw [ok_iff]
  simp only [e0, e1]
  omega
theorem pf_do {b0 b1 b : ByteArray} {s0 s1 c op zn n : Int} {o : Dk} {u0 u1 : ByteArray} (h : doF ⟨⟨b0, s0⟩, ⟨b1, s1⟩, c, -1, false⟩ op zn b n = (o, 0)) (h0 : PF ⟨b0, s0⟩ u0) (h1 : PF ⟨b1, s1⟩ u1) :
    o.ok = true ∧ o.l = -1 ∧ o.d = false ∧ (zn = 0 ∨ zn = 1) ∧ PF o.z0 (if op = 2 ∧ zn = 0 then ⟨#[]⟩ else u0) ∧ PF o.z1 (if op = 2 ∧ zn = 1 then ⟨#[]⟩ else u1) := by
  obtain ⟨hok, hw, hd, hl, hf, ho⟩ := doF_zero h
  have hoo := doF_ok h
  obtain ⟨o1, o2, o3, o4, o5, o6, o7, o8⟩ := (ok_of o).1 hoo.1
  unfold wrP at hw
  have hz := hw.1
  have hol : o.l = -1 := by
    rcases ho with ⟨_, h⟩ | ⟨_, h⟩ <;> rw [h] <;> rfl
  refine ⟨hoo.1, hol, hoo.2.2.2, hz, ?_, ?_⟩
  · by_cases hc : op = 2 ∧ zn = 0
    · rw [if_pos hc]; exact pf_empty _ o4 o5
    · rw [if_neg hc]
      rcases ho with ⟨hz0, h⟩ | ⟨hz1, h⟩
      · subst h
        have : op = 0 ∨ op = 1 := by omega
        rcases this with rfl | rfl
        · exact pf_app h0
        · exact pf_sync h0
      · subst h; exact h0
  · by_cases hc : op = 2 ∧ zn = 1
    · rw [if_pos hc]; exact pf_empty _ o7 o8
    · rw [if_neg hc]
      rcases ho with ⟨hz0, h⟩ | ⟨hz1, h⟩
      · subst h; exact h1
      · subst h
        have : op = 0 ∨ op = 1 := by omega
        rcases this with rfl | rfl
        · exact pf_app h1
        · exact pf_sync h1
end Go.Proofs.Ytjgbnagacbiolaa
