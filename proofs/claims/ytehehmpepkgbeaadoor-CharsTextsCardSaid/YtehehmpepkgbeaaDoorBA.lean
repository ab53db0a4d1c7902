/- The contracts of utf8.add and Put. -/
import Derived.Test.YtehehmpepkgbeaaDoorBR
import Derived.Maps.AppendAt
import Derived.Deep.AppendLies
namespace Go.Proofs.YtehehmpepkgbeaaDoor
open Go.RowKit
set_option linter.unusedVariables false
set_option linter.unusedSimpArgs false
theorem info5 : (Tryd.prog.info? 5).map (fun i => (i.zero, i.size, i.bytes)) = some (some (.int .u8 0), 1, 1) := by kernel_rfl
def u8v (b : UInt8) : Value := .int .u8 (b.toNat : Int)
/-- v is a slice of bytes of the call's own (blocks from `base` on) that holds xs. -/
def Own8 (w : World) (base : Nat) (v : Value) (xs : List UInt8) : Prop := w.ownsRow base 5 1 v xs.length (xs.map u8v)
theorem grown_trans {w w1 w2 : World} {row row2 : Option Nat} (h : w.grownBy w1 row) (h2 : w1.grownBy w2 row2) (hr : row2 = row ∨ row2 = none ∨ ∃ k, row2 = some k ∧ w.heap.size ≤ k) : w.grownBy w2 row :=
  ⟨h2.os.trans h.os, h2.tape.trans h.tape, h2.output.trans h.output, Nat.le_trans h.size h2.size, fun k hk hne => by
    refine (h2.block k (Nat.lt_of_lt_of_le hk h.size) ?_).trans (h.block k hk hne)
    rcases hr with rfl | rfl | ⟨j, rfl, hj⟩
    · exact hne
    · simp
    · intro e; cases e; omega⟩
theorem grown_drew (w : World) (row : Option Nat) : w.grownBy w.drew row := ⟨rfl, rfl, rfl, Nat.le_refl _, fun _ _ _ => rfl⟩
theorem u8_or0 (x : Int) (h0 : 0 ≤ x) (h1 : x < 256) : bits .or .u8 0 x = x := by
  obtain ⟨a, rfl⟩ := Int.eq_ofNat_of_zero_le h0
  have := u8_or_nat 0 a (by omega) (by omega)
  rw [Nat.zero_or] at this
  exact this
def AddS (w : World) (base : Nat) (v : Value) (xs : List UInt8) (r : Int) (e : Ending) (w' : World) : Prop :=
  ∃ v', e = .returned v' ∧ Own8 w' base v' (xs ++ enc r) ∧ w.grownBy w' v.ownBlock
theorem grown_first {w w1 : World} {row : Option Nat} {o : Obj} (h : ((w.alloc o).drew).grownBy w1 row) : w.grownBy w1 row :=
  grown_trans (grown_trans (World.grownBy_alloc w o row) (grown_drew _ row) (.inl rfl)) h (.inl rfl)
theorem grown_step {w w1 w2 : World} {row : Option Nat} {g H : Nat} {o : Obj} (h : w.grownBy w1 row) (h2 : (w1.alloc o).grownBy w2 (some g)) (hr : row = some g ∨ g = H) (hH : w.heap.size ≤ H) : w.grownBy w2 row :=
  grown_trans h (grown_trans (World.grownBy_alloc w1 o (some g)) h2 (.inl rfl)) (by
    rcases hr with rfl | rfl
    · exact .inl rfl
    · exact .inr (.inr ⟨_, rfl, hH⟩))
theorem at_step {row : Option Nat} {g1 g2 H1 H2 B : Nat} (h : row = some g1 ∨ B ≤ g1) (h2 : some g1 = some g2 ∨ g2 = H2) (hH : B ≤ H2) : row = some g2 ∨ B ≤ g2 := by
  rcases h2 with e | e
  · cases e; exact h
  · right; omega
theorem grown_step' {w w1 w2 : World} {row : Option Nat} {g : Nat} {o : Obj} (h : w.grownBy w1 row) (h2 : (w1.alloc o).grownBy w2 (some g)) (hr : row = some g ∨ w.heap.size ≤ g) : w.grownBy w2 row :=
  grown_trans h (grown_trans (World.grownBy_alloc w1 o (some g)) h2 (.inl rfl)) (by
    rcases hr with rfl | hr
    · exact .inl rfl
    · exact .inr (.inr ⟨_, rfl, hr⟩))
end Go.Proofs.YtehehmpepkgbeaaDoor
