/- The contracts of utf8.Valid, Scalars, Loose: ranges over the iterator. -/
import Derived.Test.YtnalnpidmmkfgaaDoorI
import Derived.RangeFuncNested
import Derived.RangeFuncBound
import Derived.RangeFuncCalls
import Derived.RangeFuncLeaves
import Derived.RangeFuncBox
import Derived.Shelf.Abstract
import Derived.Shelf.RegionOpen
import Derived.OwnWalkIn
import Derived.TacticsInMore
import Derived.LoopNIn
import Derived.LoopIn
namespace Go.Proofs.YtnalnpidmmkfgaaDoor
open Go.RowKit Go.Shelf
set_option linter.unusedVariables false
set_option linter.unusedSimpArgs false
attribute [local go_sem] Oper.semAt_some
theorem ok_its (l : List UInt8) : okB l = (its (prt l) 0).all (fun p => p.2 != -1) := by
  unfold okB; rw [its_all]
theorem scl_its (l : List UInt8) : scl l = (its (prt l) 0).map (·.2) := by
  unfold scl; rw [its_map]
theorem wrg_its (l : List UInt8) : wrg (prt l) 0 = wrgI (its (prt l) 0) := by rw [its_wrg]
theorem ok_of_all {l : List UInt8} {ys : List Item} (h : ys.map (·.1) = its (prt l) 0) (hp : ∀ p ∈ ys, p.1.2 ≠ -1) : okB l = true := by
  rw [ok_its, ← h]
  simp only [List.all_map, List.all_eq_true, Function.comp, bne_iff_ne, ne_eq]
  exact hp
theorem no_of_one {l : List UInt8} {pre : List Item} (h : ∃ t, its (prt l) 0 = pre.map (·.1) ++ t) {p : Item} (hp : p ∈ pre) (hr : p.1.2 = -1) : okB l = false := by
  obtain ⟨t, ht⟩ := h
  rw [ok_its, ht]
  cases hx : (pre.map (·.1) ++ t).all (fun p => p.2 != -1)
  · rfl
  · rw [List.all_eq_true] at hx
    have := hx p.1 (List.mem_append_left _ (List.mem_map.2 ⟨p, hp, rfl⟩))
    simp [hr] at this
end Go.Proofs.YtnalnpidmmkfgaaDoor
