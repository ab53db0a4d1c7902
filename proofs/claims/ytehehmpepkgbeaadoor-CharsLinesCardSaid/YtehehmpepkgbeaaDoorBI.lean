/- The iterator of utf8.scalars: its contract. -/
import Derived.Test.YtehehmpepkgbeaaDoorBSA
import Derived.RangeFuncNested
import Derived.RangeFuncBound
import Derived.RangeFuncCalls
import Derived.RangeFuncLeaves
import Derived.RangeFuncBox
import Derived.Shelf.Abstract
import Derived.Shelf.RegionOpen
import Derived.OwnWalkIn
import Derived.TacticsInMore
import Derived.LoopNIn
import Derived.LoopIn
namespace Go.Proofs.YtehehmpepkgbeaaDoor
open Go.RowKit Go.Shelf
set_option linter.unusedVariables false
set_option linter.unusedSimpArgs false
attribute [local go_sem] Oper.semAt_some
/-- What the iterator tells of one part: where it begins, the scalar or -1. -/
abbrev Item := { p : Nat × Int // p.1 ≤ 100000 ∧ (p.2 = -1 ∨ isB p.2 = true) }
def its : List (Int × Nat) → Nat → List (Nat × Int)
  | [], _ => []
  | p :: t, a => (a, p.1) :: its t (a + p.2)
structure ItAt (l : List UInt8) (a : Nat) (pre : List Item) : Prop where
  le : a ≤ l.length
  few : pre.length ≤ a
  it : its (prt l) 0 = pre.map (·.1) ++ its (prt (l.drop a)) a
theorem ItAt.start (l : List UInt8) : ItAt l 0 [] := ⟨Nat.zero_le _, Nat.le_refl _, by simp⟩
theorem ItAt.step {l : List UInt8} {a : Nat} {pre : List Item} (h : ItAt l a pre) (hl : a < l.length) {r : Int} {n : Nat} (hd : dec (l.drop a) = (r, n)) (x : Item) (hx : x.1 = (a, r)) : ItAt l (a + n) (pre ++ [x]) := by
  have hne := drop_ne hl
  have h1 := dec_pos (l.drop a)
  have h2 := dec_le hne
  rw [hd] at h1 h2
  simp only [List.length_drop] at h1 h2
  refine ⟨by omega, by simp; have := h.few; omega, ?_⟩
  rw [h.it, prt_cons hne, hd, List.drop_drop]
  simp [its, hx]
theorem ItAt.done {l : List UInt8} {a : Nat} {pre : List Item} (h : ItAt l a pre) (hl : ¬ a < l.length) : pre.map (·.1) = its (prt l) 0 := by
  have e : l.drop a = [] := List.drop_eq_nil_of_le (by omega)
  rw [h.it, e]; simp [prt_nil, its]
theorem its_all : ∀ (ps : List (Int × Nat)) (a : Nat), (its ps a).all (fun p => p.2 != -1) = ps.all (fun p => p.1 != -1)
  | [], _ => rfl
  | p :: t, a => by simp only [its, List.all_cons]; rw [its_all t]
theorem its_map : ∀ (ps : List (Int × Nat)) (a : Nat), (its ps a).map (·.2) = ps.map (·.1)
  | [], _ => rfl
  | p :: t, a => by simp only [its, List.map_cons]; rw [its_map t]
def wrgI : List (Nat × Int) → Int
  | [] => -1
  | p :: t => if p.2 = -1 then (p.1 : Int) else wrgI t
theorem its_wrg : ∀ (ps : List (Int × Nat)) (a : Nat), wrgI (its ps a) = wrg ps a
  | [], _ => rfl
  | p :: t, a => by
    by_cases h : p.1 = -1
    · simp only [its, wrgI]; rw [if_pos h, wrg_bad h]
    · simp only [its, wrgI]; rw [if_neg h, wrg_good h, its_wrg t]
/-- What a round keeps: whatever lay below n₀, and the box of the text. -/
def KpS (n₀ Bs : Nat) (W W' : World) : Prop := Below n₀ W W' ∧ W'.heap[Bs]? = W.heap[Bs]?
theorem KpS.refl (n₀ Bs : Nat) (W : World) : KpS n₀ Bs W W := ⟨Below.refl _ _, rfl⟩
theorem KpS.trans {n₀ Bs : Nat} {A B C : World} (h : KpS n₀ Bs A B) (k : KpS n₀ Bs B C) : KpS n₀ Bs A C := ⟨h.1.trans k.1, k.2.trans h.2⟩
theorem KpS.cell {n₀ Bs : Nat} {A B : World} (h : KpS n₀ Bs A B) : B.cell? ⟨Bs, 0, none⟩ = A.cell? ⟨Bs, 0, none⟩ := World.cell?_of_block h.2
theorem kpS_b {n₀ Bs : Nat} {w : World} (hn : n₀ ≤ w.heap.size) (hB : Bs < w.heap.size) (W : World) (l : Nat) (o o' : Obj) (hl : w.heap.size ≤ l) (h : W.heap[l]? = some o) (h1 : o.isCells = false) (h2 : o.isWalk = false) : KpS n₀ Bs W (W.putObj l o') :=
  ⟨belowK_b hn W l o o' hl h h1 h2, World.putObj_heap_other (by omega)⟩
def encI (x : Item) : Array Value := #[.int .i64 (x.1.1 : Int), .int .i64 x.1.2]
end Go.Proofs.YtehehmpepkgbeaaDoor
