/- General lemmas on blocks of cells; nothing of the dump. -/
import Derived.Test.YtjgbnagacbiolaaRows
import Derived.WalkKit
import Derived.ProofKit
import Derived.OpenShut
import Derived.BigQuiet
import Derived.Deep.QuietTactic
import Derived.Lib.Hide
import Derived.LoopN
import Derived.Deep.RegionHeld3
import Derived.Deep.DeepCutAuto
namespace Go.Proofs.Ytjgbnagacbiolaa
open Go.RowKit
set_option linter.unusedVariables false
set_option linter.unusedSimpArgs false
/-- Block b of the world is a row of cells of its own, none of them frozen. -/
def Blk (w : World) (b : Nat) (xs : Array Value) (T : TypeId) : Prop := w.heap[b]? = some (.cells xs T (0, 0))
namespace Blk
variable {w w' W : World} {b : Nat} {xs ys : Array Value} {T : TypeId}
theorem lt (h : Blk w b xs T) : b < w.heap.size := by
  unfold Blk at h
  exact (Array.getElem?_eq_some_iff.1 h).1
theorem new (w : World) (xs : Array Value) (T : TypeId) : Blk (w.alloc (.cells xs T)) w.heap.size xs T := by
  unfold Blk World.alloc; simp
theorem new' {n : Nat} (w : World) (xs : Array Value) (T : TypeId) (h : n = w.heap.size) : Blk (w.alloc (.cells xs T)) n xs T := by
  subst h; exact new w xs T
theorem alloc (h : Blk w b xs T) (o : Obj) : Blk (w.alloc o) b xs T := by
  unfold Blk at *
  rw [Below.heap_alloc _ _ _ (Blk.lt h)]; exact h
theorem below (h : Blk W b xs T) (hb : Below W.heap.size W w) : Blk w b xs T := by
  unfold Blk at *
  rw [hb.block _ (Blk.lt h)]; exact h
theorem drew (h : Blk w b xs T) : Blk w.drew b xs T := h
theorem drewN (h : Blk w b xs T) (n : Nat) : Blk (w.drewN n) b xs T := h
theorem set {o : Nat} {v : Value} (h : Blk w b xs T) (hy : ys = xs.setIfInBounds o v) : Blk (w.setCell ⟨b, o, none⟩ v) b ys T := by
  unfold Blk at *
  simp [World.setCell, Array.getElem?_modify, h, hy]
theorem set' {a : Addr} {v : Value} (h : Blk w b xs T) (hn : b ≠ a.block) : Blk (w.setCell a v) b xs T := by
  unfold Blk at *
  rw [Below.heap_setCell _ _ _ _ hn]; exact h
theorem cell (h : Blk w b xs T) (o : Nat) : w.cell? ⟨b, o, none⟩ = xs[o]? := by
  unfold Blk at h
  simp [World.cell?, h]
theorem froz (h : Blk w b xs T) (o : Nat) : w.frozen? ⟨b, o, none⟩ = false := by
  unfold Blk at h
  simp [World.frozen?, h]
end Blk
theorem below_call {a w1 w2 : World} (h : Below a.heap.size a w1) (hb : Below w1.heap.size w1 w2) : Below a.heap.size a w2 := h.trans (hb.mono h.size)
theorem below_draws {B : Nat} {a w : World} (h : Below B a w) (n : Nat) : Below B a (w.drewN n) := h.trans ⟨rfl, rfl, rfl, Nat.le_refl _, fun _ _ => rfl⟩
theorem nil_iff (b : ByteArray) : b.toList = [] ↔ b.size = 0 := by
  rw [toList_nil_iff_emptyBytes]; simp
theorem emp_iff (b : ByteArray) : b.toList.isEmpty = true ↔ b.size = 0 := by
  rw [List.isEmpty_iff, nil_iff]
theorem nemp_iff (b : ByteArray) : b.toList.isEmpty = false ↔ ¬ b.size = 0 := by
  rw [← emp_iff]; simp
def RetI (n : Int) (w : World) (e : Ending) (w' : World) : Prop := e = .returned (.int .i64 n) ∧ Below w.heap.size w w'
def RetB (n : Bool) (w : World) (e : Ending) (w' : World) : Prop := e = .returned (.bool n) ∧ Below w.heap.size w w'
def RetP (P : Prop) (w : World) (e : Ending) (w' : World) : Prop := ∃ p : Bool, e = .returned (.bool p) ∧ (p = true ↔ P) ∧ Below w.heap.size w w'
theorem blk_both {w : World} {b : Nat} {xs : Array Value} {T : TypeId} (h : Blk w b xs T) : Blk w b xs T ∧ ∀ o, w.cell? ⟨b, o, none⟩ = xs[o]? := ⟨h, h.cell⟩
end Go.Proofs.Ytjgbnagacbiolaa
