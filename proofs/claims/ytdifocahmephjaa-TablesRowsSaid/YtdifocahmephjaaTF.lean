/- The contracts of wholes, table and origins. -/
import Derived.Test.YtdifocahmephjaaTE
namespace Go.Proofs.Ytdifocahmephjaa.Tab
open Go.RowKit Go.Maps
set_option linter.unusedVariables false
set_option linter.unusedSimpArgs false
set_option maxRecDepth 100000 in
set_option maxHeartbeats 8000000 in
theorem wholes_any (w : World) : Calls Try.prog 26 #[] w fun e w' => e = .returned (.slice (some ⟨w.heap.size, 0, none⟩) 68 68) ∧ w' = w.alloc (.cells (cells3 wl).toArray 40) := by
  have HB := Lib.hid (build_wl w)
  go_enter Try.func26, Try.ntmps26
  go_wp2_with (refine wpList_buildSlice_to _ rfl 48 68 _ rfl partsW _ _ HB.out (by kernel_rfl) ?_)
  go_ret
  exact ⟨rfl, rfl⟩
end Go.Proofs.Ytdifocahmephjaa.Tab
