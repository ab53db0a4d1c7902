/- General lemmas on blocks of cells and on slices of numbers; nothing of the program. -/
import Derived.Test.YtdifocahmephjaaRows
import Derived.WalkKit
import Derived.ProofKit
import Derived.OpenShut
import Derived.BigQuiet
import Derived.Deep.QuietTactic
import Derived.Lib.Hide
import Derived.LoopN
import Derived.Outline
import Derived.StillTailTactics
import Derived.Laws.AppendOwn
import Derived.Deep.LoopGhost
import Derived.WalkMore
import Derived.Deep.RegionHeld3
import Derived.Deep.DeepCutAuto
import Derived.Maps.AppendAt
import Derived.Deep.AppendLies
namespace Go.Proofs.Ytdifocahmephjaa
open Go.RowKit
set_option linter.unusedVariables false
set_option linter.unusedSimpArgs false
/-- Block b of the world is a row of cells of its own, none of them frozen. -/
def Blk (w : World) (b : Nat) (xs : Array Value) (T : TypeId) : Prop := w.heap[b]? = some (.cells xs T (0, 0))
namespace Blk
variable {w w' W : World} {b : Nat} {xs ys : Array Value} {T : TypeId}
theorem lt (h : Blk w b xs T) : b < w.heap.size := by
  unfold Blk at h
  exact (Array.getElem?_eq_some_iff.1 h).1
theorem new (w : World) (xs : Array Value) (T : TypeId) : Blk (w.alloc (.cells xs T)) w.heap.size xs T := by
  unfold Blk World.alloc; simp
theorem new' {n : Nat} (w : World) (xs : Array Value) (T : TypeId) (h : n = w.heap.size) : Blk (w.alloc (.cells xs T)) n xs T := by
  subst h; exact new w xs T
theorem alloc (h : Blk w b xs T) (o : Obj) : Blk (w.alloc o) b xs T := by
  unfold Blk at *
  rw [Below.heap_alloc _ _ _ (Blk.lt h)]; exact h
theorem below (h : Blk W b xs T) (hb : Below W.heap.size W w) : Blk w b xs T := by
  unfold Blk at *
  rw [hb.block _ (Blk.lt h)]; exact h
theorem drew (h : Blk w b xs T) : Blk w.drew b xs T := h
theorem drewN (h : Blk w b xs T) (n : Nat) : Blk (w.drewN n) b xs T := h
theorem set {o : Nat} {v : Value} (h : Blk w b xs T) (hy : ys = xs.setIfInBounds o v) : Blk (w.setCell ⟨b, o, none⟩ v) b ys T := by
  unfold Blk at *
  simp [World.setCell, Array.getElem?_modify, h, hy]
theorem set' {a : Addr} {v : Value} (h : Blk w b xs T) (hn : b ≠ a.block) : Blk (w.setCell a v) b xs T := by
  unfold Blk at *
  rw [Below.heap_setCell _ _ _ _ hn]; exact h
theorem cell (h : Blk w b xs T) (o : Nat) : w.cell? ⟨b, o, none⟩ = xs[o]? := by
  unfold Blk at h
  simp [World.cell?, h]
theorem froz (h : Blk w b xs T) (o : Nat) : w.frozen? ⟨b, o, none⟩ = false := by
  unfold Blk at h
  simp [World.frozen?, h]
end Blk
theorem below_call {a w1 w2 : World} (h : Below a.heap.size a w1) (hb : Below w1.heap.size w1 w2) : Below a.heap.size a w2 := h.trans (hb.mono h.size)
theorem below_draws {B : Nat} {a w : World} (h : Below B a w) (n : Nat) : Below B a (w.drewN n) := h.trans ⟨rfl, rfl, rfl, Nat.le_refl _, fun _ _ => rfl⟩
theorem nil_iff (b : ByteArray) : b.toList = [] ↔ b.size = 0 := by
  rw [toList_nil_iff_emptyBytes]; simp
theorem emp_iff (b : ByteArray) : b.toList.isEmpty = true ↔ b.size = 0 := by
  rw [List.isEmpty_iff, nil_iff]
theorem nemp_iff (b : ByteArray) : b.toList.isEmpty = false ↔ ¬ b.size = 0 := by
  rw [← emp_iff]; simp
def RetI (n : Int) (w : World) (e : Ending) (w' : World) : Prop := e = .returned (.int .i64 n) ∧ Below w.heap.size w w'
def RetB (n : Bool) (w : World) (e : Ending) (w' : World) : Prop := e = .returned (.bool n) ∧ Below w.heap.size w w'
def RetP (P : Prop) (w : World) (e : Ending) (w' : World) : Prop := ∃ p : Bool, e = .returned (.bool p) ∧ (p = true ↔ P) ∧ Below w.heap.size w w'
theorem blk_both {w : World} {b : Nat} {xs : Array Value} {T : TypeId} (h : Blk w b xs T) : Blk w b xs T ∧ ∀ o, w.cell? ⟨b, o, none⟩ = xs[o]? := ⟨h, h.cell⟩
theorem ret_int {k : IntKind} {a b : Int} (h : a = b) : Ending.returned (.int k a) = .returned (.int k b) := by rw [h]
theorem ret_bool {a b : Bool} (h : a = b) : Ending.returned (.bool a) = .returned (.bool b) := by rw [h]
theorem grown_trans {w w1 w2 : World} {row row2 : Option Nat} (h : w.grownBy w1 row) (h2 : w1.grownBy w2 row2) (hr : row2 = row ∨ row2 = none ∨ ∃ k, row2 = some k ∧ w.heap.size ≤ k) : w.grownBy w2 row :=
  ⟨h2.os.trans h.os, h2.tape.trans h.tape, h2.output.trans h.output, Nat.le_trans h.size h2.size, fun k hk hne => by
    refine (h2.block k (Nat.lt_of_lt_of_le hk h.size) ?_).trans (h.block k hk hne)
    rcases hr with rfl | rfl | ⟨j, rfl, hj⟩
    · exact hne
    · simp
    · intro e; cases e; omega⟩
theorem grown_drew (w : World) (row : Option Nat) : w.grownBy w.drew row := ⟨rfl, rfl, rfl, Nat.le_refl _, fun _ _ _ => rfl⟩
theorem grown_first {w w1 : World} {row : Option Nat} {o : Obj} (h : ((w.alloc o).drew).grownBy w1 row) : w.grownBy w1 row :=
  grown_trans (grown_trans (World.grownBy_alloc w o row) (grown_drew _ row) (.inl rfl)) h (.inl rfl)
theorem grown_step {w w1 w2 : World} {row : Option Nat} {g H : Nat} {o : Obj} (h : w.grownBy w1 row) (h2 : (w1.alloc o).grownBy w2 (some g)) (hr : row = some g ∨ g = H) (hH : w.heap.size ≤ H) : w.grownBy w2 row :=
  grown_trans h (grown_trans (World.grownBy_alloc w1 o (some g)) h2 (.inl rfl)) (by
    rcases hr with rfl | rfl
    · exact .inl rfl
    · exact .inr (.inr ⟨_, rfl, hH⟩))
theorem at_step {row : Option Nat} {g1 g2 H1 H2 B : Nat} (h : row = some g1 ∨ B ≤ g1) (h2 : some g1 = some g2 ∨ g2 = H2) (hH : B ≤ H2) : row = some g2 ∨ B ≤ g2 := by
  rcases h2 with e | e
  · cases e; exact h
  · right; omega
theorem grown_step' {w w1 w2 : World} {row : Option Nat} {g : Nat} {o : Obj} (h : w.grownBy w1 row) (h2 : (w1.alloc o).grownBy w2 (some g)) (hr : row = some g ∨ w.heap.size ≤ g) : w.grownBy w2 row :=
  grown_trans h (grown_trans (World.grownBy_alloc w1 o (some g)) h2 (.inl rfl)) (by
    rcases hr with rfl | hr
    · exact .inl rfl
    · exact .inr (.inr ⟨_, rfl, hr⟩))
theorem below_of_grown {w w' : World} {row : Option Nat} (h : w.grownBy w' row) {B : Nat} (hB : B ≤ w.heap.size) (hr : ∀ k, row = some k → B ≤ k) : Below B w w' := by
  have := (Below.refl B w).grown h hB (fun k e => hr k (by simpa using e))
  exact this
theorem info3 : (Try.prog.info? 3).map (fun i => (i.zero, i.size, i.bytes)) = some (some (.int .i64 0), 1, 8) := by kernel_rfl
def OwnI (w : World) (base : Nat) (v : Value) (xs : List Int) : Prop := w.ownsRow base 3 1 v xs.length (xs.map (Value.int .i64))
/-- v is a slice of numbers that reads as xs. -/
def Ints (w : World) (v : Value) (xs : List Int) : Prop :=
  (xs = [] ∧ ∃ p cap, v = .slice p 0 cap) ∨ (∃ b off cap, v = .slice (some ⟨b, off, none⟩) xs.length cap ∧ b < w.heap.size ∧ ∀ i (h : i < xs.length), w.cell? ⟨b, off + i, none⟩ = some (.int .i64 xs[i]))
theorem Ints.below {w w' : World} {v : Value} {xs : List Int} (h : Ints w v xs) (hb : Below w.heap.size w w') : Ints w' v xs := by
  rcases h with h | ⟨b, off, cap, e, hl, hc⟩
  · exact .inl h
  · exact .inr ⟨b, off, cap, e, by have := hb.size; omega, fun i hi => (hb.cell (p := ⟨b, off + i, none⟩) hl).trans (hc i hi)⟩
theorem ints_of_own {w : World} {base : Nat} {v : Value} {xs : List Int} (h : OwnI w base v xs) : Ints w v xs := by
  have h' := h
  rcases h.2 with ⟨rfl, h0⟩ | ⟨g, cap, cur, rfl, hb, hg, _⟩
  · exact .inl ⟨List.eq_nil_of_length_eq_zero h0, none, 0, rfl⟩
  · refine .inr ⟨g, 0, cap, rfl, (Array.getElem?_eq_some_iff.1 hg).1, fun i hi => ?_⟩
    have hc := (World.ownsRow.cells (g := g) h' rfl) i (.int .i64 xs[i]) (by simp [hi])
    have hadd : (⟨g, 0, none⟩ : Addr).add i = ⟨g, 0 + i, none⟩ := by unfold Addr.add; split <;> simp_all
    rwa [hadd] at hc
theorem ownI_nil (w : World) (base : Nat) : OwnI w base (.slice none 0 0) [] := World.ownsRow_nil w base 3 1
theorem Ints.form {w : World} {v : Value} {xs : List Int} (h : Ints w v xs) : ∃ p cap, v = .slice p xs.length cap := by
  rcases h with ⟨rfl, p, cap, rfl⟩ | ⟨b, off, cap, rfl, _⟩
  · exact ⟨p, cap, rfl⟩
  · exact ⟨_, cap, rfl⟩
end Go.Proofs.Ytdifocahmephjaa
