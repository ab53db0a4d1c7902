/- General lemmas on blocks of cells and the tables of package utf8; nothing else of the program. -/
import Derived.Test.YtehehmpepkgbeaaDoorBM
import Derived.WalkKit
import Derived.ProofKit
import Derived.OpenShut
import Derived.BigQuiet
import Derived.Deep.QuietTactic
import Derived.Lib.Hide
import Derived.LoopN
import Derived.Outline
import Derived.StillTailTactics
import Derived.Laws.AppendOwn
import Derived.Deep.LoopGhost
import Derived.WalkMore
import Derived.Deep.RegionHeld3
import Derived.Deep.DeepCutAuto
namespace Go.Proofs.YtehehmpepkgbeaaDoor
open Go.RowKit
set_option linter.unusedVariables false
set_option linter.unusedSimpArgs false
/-- Block b of the world is a row of cells of its own, none of them frozen. -/
def Blk (w : World) (b : Nat) (xs : Array Value) (T : TypeId) : Prop := w.heap[b]? = some (.cells xs T (0, 0))
namespace Blk
variable {w w' W : World} {b : Nat} {xs ys : Array Value} {T : TypeId}
theorem lt (h : Blk w b xs T) : b < w.heap.size := by
  unfold Blk at h
  exact (Array.getElem?_eq_some_iff.1 h).1
theorem new (w : World) (xs : Array Value) (T : TypeId) : Blk (w.alloc (.cells xs T)) w.heap.size xs T := by
  unfold Blk World.alloc; simp
theorem new' {n : Nat} (w : World) (xs : Array Value) (T : TypeId) (h : n = w.heap.size) : Blk (w.alloc (.cells xs T)) n xs T := by
  subst h; exact new w xs T
theorem alloc (h : Blk w b xs T) (o : Obj) : Blk (w.alloc o) b xs T := by
  unfold Blk at *
  rw [Below.heap_alloc _ _ _ (Blk.lt h)]; exact h
theorem below (h : Blk W b xs T) (hb : Below W.heap.size W w) : Blk w b xs T := by
  unfold Blk at *
  rw [hb.block _ (Blk.lt h)]; exact h
theorem drew (h : Blk w b xs T) : Blk w.drew b xs T := h
theorem drewN (h : Blk w b xs T) (n : Nat) : Blk (w.drewN n) b xs T := h
theorem set {o : Nat} {v : Value} (h : Blk w b xs T) (hy : ys = xs.setIfInBounds o v) : Blk (w.setCell ⟨b, o, none⟩ v) b ys T := by
  unfold Blk at *
  simp [World.setCell, Array.getElem?_modify, h, hy]
theorem set' {a : Addr} {v : Value} (h : Blk w b xs T) (hn : b ≠ a.block) : Blk (w.setCell a v) b xs T := by
  unfold Blk at *
  rw [Below.heap_setCell _ _ _ _ hn]; exact h
theorem cell (h : Blk w b xs T) (o : Nat) : w.cell? ⟨b, o, none⟩ = xs[o]? := by
  unfold Blk at h
  simp [World.cell?, h]
theorem froz (h : Blk w b xs T) (o : Nat) : w.frozen? ⟨b, o, none⟩ = false := by
  unfold Blk at h
  simp [World.frozen?, h]
end Blk
theorem below_call {a w1 w2 : World} (h : Below a.heap.size a w1) (hb : Below w1.heap.size w1 w2) : Below a.heap.size a w2 := h.trans (hb.mono h.size)
theorem below_draws {B : Nat} {a w : World} (h : Below B a w) (n : Nat) : Below B a (w.drewN n) := h.trans ⟨rfl, rfl, rfl, Nat.le_refl _, fun _ _ => rfl⟩
theorem nil_iff (b : ByteArray) : b.toList = [] ↔ b.size = 0 := by
  rw [toList_nil_iff_emptyBytes]; simp
theorem emp_iff (b : ByteArray) : b.toList.isEmpty = true ↔ b.size = 0 := by
  rw [List.isEmpty_iff, nil_iff]
theorem nemp_iff (b : ByteArray) : b.toList.isEmpty = false ↔ ¬ b.size = 0 := by
  rw [← emp_iff]; simp
def RetI (n : Int) (w : World) (e : Ending) (w' : World) : Prop := e = .returned (.int .i64 n) ∧ Below w.heap.size w w'
def RetB (n : Bool) (w : World) (e : Ending) (w' : World) : Prop := e = .returned (.bool n) ∧ Below w.heap.size w w'
def RetP (P : Prop) (w : World) (e : Ending) (w' : World) : Prop := ∃ p : Bool, e = .returned (.bool p) ∧ (p = true ↔ P) ∧ Below w.heap.size w w'
theorem blk_both {w : World} {b : Nat} {xs : Array Value} {T : TypeId} (h : Blk w b xs T) : Blk w b xs T ∧ ∀ o, w.cell? ⟨b, o, none⟩ = xs[o]? := ⟨h, h.cell⟩
def limF (o : Nat) : Int := if o = 0 then 0 else if o = 1 then 128 else if o = 2 then 2048 else if o = 3 then 65536 else 1114112
def mrkF (o : Nat) : Int := if o = 0 then 0 else if o = 1 then 0 else if o = 2 then 192 else if o = 3 then 224 else 240
def szF (o : Nat) : Int := if o < 12 then 1 else if o < 14 then 2 else if o = 14 then 3 else 4
/-- The three tables of package utf8 read as the program's text lays them. -/
structure Gl (w : World) : Prop where
  size : 5 < w.heap.size
  lim : ∀ o, o < 5 → w.cell? ⟨5, o, none⟩ = some (.int .i64 (limF o))
  mrk : ∀ o, o < 5 → w.cell? ⟨2, o, none⟩ = some (.int .u8 (mrkF o))
  len : ∀ o, o < 16 → w.cell? ⟨1, o, none⟩ = some (.int .i64 (szF o))
namespace Gl
variable {w w' W : World}
theorem below (h : Gl w) {B : Nat} (hB : 5 < B) (hb : Below B w w') : Gl w' :=
  ⟨by have := hb.size; have := h.size; omega,
   fun o ho => (hb.cell (p := ⟨5, o, none⟩) (by show 5 < B; omega)).trans (h.lim o ho),
   fun o ho => (hb.cell (p := ⟨2, o, none⟩) (by show 2 < B; omega)).trans (h.mrk o ho),
   fun o ho => (hb.cell (p := ⟨1, o, none⟩) (by show 1 < B; omega)).trans (h.len o ho)⟩
theorem below' (h : Gl w) (hb : Below w.heap.size w w') : Gl w' := h.below h.size hb
theorem alloc (h : Gl w) (o : Obj) : Gl (w.alloc o) := h.below' ((Below.refl _ _).alloc (Nat.le_refl _) _)
theorem drew (h : Gl w) : Gl w.drew := h.below' ((Below.refl _ _).drew)
theorem drewN (h : Gl w) (n : Nat) : Gl (w.drewN n) := h.below' ⟨rfl, rfl, rfl, Nat.le_refl _, fun _ _ => rfl⟩
theorem set (h : Gl w) {a : Addr} (ha : 5 < a.block) (v : Value) : Gl (w.setCell a v) := h.below (B := 5 + 1) (by omega) ((Below.refl (5 + 1) _).setCell (by omega) _)
theorem lim4 (h : Gl w) : w.cell? ⟨5, 4, none⟩ = some (.int .i64 1114112) := h.lim 4 (by omega)
theorem lim1 (h : Gl w) : w.cell? ⟨5, 1, none⟩ = some (.int .i64 128) := h.lim 1 (by omega)
theorem lim2 (h : Gl w) : w.cell? ⟨5, 2, none⟩ = some (.int .i64 2048) := h.lim 2 (by omega)
theorem lim3 (h : Gl w) : w.cell? ⟨5, 3, none⟩ = some (.int .i64 65536) := h.lim 3 (by omega)
end Gl
end Go.Proofs.YtehehmpepkgbeaaDoor
