/- The contracts of the document's own table and doubles. -/
import Derived.Test.YtdifocahmephjaaTL
namespace Go.Proofs.Ytdifocahmephjaa.Tab
open Go.RowKit Go.Maps
set_option linter.unusedVariables false
set_option linter.unusedSimpArgs false
set_option maxRecDepth 100000
theorem put_any (acc : List Pr) (p : Pr) (u : Value) (base : Nat) (w : World) (h7 : acc.length ≤ 1000) (hu : w.ownsRow base 33 3 u acc.length (cells3 acc)) : Calls Try.prog 29 #[u, .agg #[.int .i64 p.1, .int .i64 p.2.1, .int .i64 p.2.2]] w fun e w' => PutS acc p w e w' := by
  rcases hu.2 with ⟨rfl, h0⟩ | ⟨g, cap, cur, rfl, _⟩
  · have := List.eq_nil_of_length_eq_zero h0
    subst this
    exact put_nil p w
  · exact put_some acc acc.length g cap base rfl h7 p w hu
def allocs (w : World) (os : List Obj) : World := os.foldl World.alloc w
theorem allocs_heap : ∀ (os : List Obj) (w : World), (allocs w os).heap = w.heap ++ os.toArray
  | [], w => by simp [allocs]
  | o :: t, w => by
    have := allocs_heap t (w.alloc o)
    unfold allocs at *
    rw [List.foldl_cons, this]
    show w.heap.push o ++ t.toArray = w.heap ++ (o :: t).toArray
    rw [← Array.toList_inj]
    simp only [Array.toList_append, Array.toList_push, List.append_assoc, List.singleton_append]
theorem allocs_below : ∀ (os : List Obj) (w : World) (n : Nat), n ≤ w.heap.size → Below n w (allocs w os)
  | [], w, n, _ => Below.refl _ _
  | o :: t, w, n, h => by
    have := allocs_below t (w.alloc o) n (by simp; omega)
    unfold allocs at *
    rw [List.foldl_cons]
    exact ((Below.refl n w).alloc h o).trans this
theorem allocs_at {w : World} {os : List Obj} {i : Nat} {o : Obj} (h : os[i]? = some o) : (allocs w os).heap[w.heap.size + i]? = some o := by
  rw [allocs_heap, Array.getElem?_append_right (by omega), Nat.add_sub_cancel_left]
  simpa using h
def cellsT (H : Nat) : List (Int × List Int) → List Value
  | [] => []
  | r :: t => .int .i64 r.1 :: .slice (some ⟨H, 0, none⟩) r.2.length r.2.length :: cellsT (H + 1) t
theorem cellsT_at : ∀ (l : List (Int × List Int)) (H i : Nat) (h : i < l.length), (cellsT H l)[i * 2]? = some (.int .i64 l[i].1) ∧ (cellsT H l)[i * 2 + 1]? = some (.slice (some ⟨H + i, 0, none⟩) l[i].2.length l[i].2.length)
  | [], H, i, h => by simp at h
  | r :: t, H, 0, h => ⟨rfl, rfl⟩
  | r :: t, H, i + 1, h => by
    have := cellsT_at t (H + 1) i (by simpa using h)
    rw [show (i + 1) * 2 = i * 2 + 1 + 1 by omega]
    simp only [cellsT, List.getElem?_cons_succ, List.getElem_cons_succ]
    rw [show H + (i + 1) = H + 1 + i by omega]
    exact this
def objsT (H : Nat) : List Obj := rowsT.map (fun r => .cells (r.2.map (Value.int .i64)).toArray 3) ++ [.cells (cellsT H rowsT).toArray 54]
/-- Block B holds the document's table. -/
def TabS (w : World) (B : Nat) : Prop := B < w.heap.size ∧ ∀ i (h : i < rowsT.length), w.cell? ⟨B, i * 2, none⟩ = some (.int .i64 rowsT[i].1) ∧ ∃ g, g < w.heap.size ∧ w.cell? ⟨B, i * 2 + 1, none⟩ = some (.slice (some ⟨g, 0, none⟩) rowsT[i].2.length rowsT[i].2.length) ∧ ∀ j (hj : j < rowsT[i].2.length), w.cell? ⟨g, j, none⟩ = some (.int .i64 rowsT[i].2[j])
theorem TabS.below {w w' : World} {B : Nat} (h : TabS w B) (hb : Below w.heap.size w w') : TabS w' B := by
  obtain ⟨h1, h2⟩ := h
  refine ⟨Nat.lt_of_lt_of_le h1 hb.size, fun i hi => ?_⟩
  obtain ⟨h3, g, h4, h5, h6⟩ := h2 i hi
  exact ⟨(hb.cell (p := ⟨B, i * 2, none⟩) h1).trans h3, g, Nat.lt_of_lt_of_le h4 hb.size, (hb.cell (p := ⟨B, i * 2 + 1, none⟩) h1).trans h5, fun j hj => (hb.cell (p := ⟨g, j, none⟩) h4).trans (h6 j hj)⟩
theorem rowsT_len : rowsT.length = 11 := by decide
theorem tabS_objs (w : World) : TabS (allocs w (objsT w.heap.size)) (w.heap.size + 11) := by
  have hl : (objsT w.heap.size)[11]? = some (.cells (cellsT w.heap.size rowsT).toArray 54) := by
    unfold objsT
    rw [List.getElem?_append_right (by rw [List.length_map, rowsT_len]; exact Nat.le_refl _), List.length_map, rowsT_len]
    rfl
  have hB : Blk (allocs w (objsT w.heap.size)) (w.heap.size + 11) (cellsT w.heap.size rowsT).toArray 54 := allocs_at hl
  refine ⟨hB.lt, fun i hi => ?_⟩
  have hc := cellsT_at rowsT w.heap.size i hi
  have hi2 : (objsT w.heap.size)[i]? = some (.cells (rowsT[i].2.map (Value.int .i64)).toArray 3) := by
    unfold objsT
    rw [List.getElem?_append_left (by rw [List.length_map]; exact hi), List.getElem?_map, List.getElem?_eq_getElem hi]
    rfl
  have hG : Blk (allocs w (objsT w.heap.size)) (w.heap.size + i) (rowsT[i].2.map (Value.int .i64)).toArray 3 := allocs_at hi2
  refine ⟨by rw [hB.cell]; simpa using hc.1, w.heap.size + i, hG.lt, by rw [hB.cell]; simpa using hc.2, fun j hj => ?_⟩
  rw [hG.cell]
  simp [hj]
set_option maxHeartbeats 4000000 in
theorem rdoubles_any (w : World) : Calls Try.prog 30 #[] w fun e w' => e = .returned (.slice (some ⟨w.heap.size, 0, none⟩) 10 10) ∧ w' = w.alloc (.cells (dbls.map (Value.int .i64)).toArray 3) := by
  go_enter Try.func30, Try.ntmps30
  go_wp2_with fail
  go_ret
  exact ⟨rfl, rfl⟩
set_option maxHeartbeats 4000000 in
theorem rtable_any (w : World) : Calls Try.prog 28 #[] w fun e w' => e = .returned (.slice (some ⟨w.heap.size + 11, 0, none⟩) 11 11) ∧ w' = allocs w (objsT w.heap.size) := by
  go_enter Try.func28, Try.ntmps28
  go_wp2_with fail
  go_ret
  exact ⟨rfl, rfl⟩
end Go.Proofs.Ytdifocahmephjaa.Tab
