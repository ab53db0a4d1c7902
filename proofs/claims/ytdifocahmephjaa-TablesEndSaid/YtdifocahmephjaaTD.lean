/- Rows of three numbers in memory; the program's own rows. -/
import Derived.Test.YtdifocahmephjaaTC
import Derived.Great.BuildSlice
import Derived.Deep.AppendLies
import Derived.Maps.Own
import Derived.Maps.OwnSet
import Derived.WideKeyPair
import Derived.Deep.WholeRow
namespace Go.Proofs.Ytdifocahmephjaa.Tab
open Go.RowKit Go.Maps
set_option linter.unusedVariables false
set_option linter.unusedSimpArgs false
/-- The program's rows, mark by mark. -/
def wl : List Pr := [(192, 65, 768), (200, 69, 768), (204, 73, 768), (210, 79, 768), (217, 85, 768), (224, 97, 768), (232, 101, 768), (236, 105, 768), (242, 111, 768), (249, 117, 768), (193, 65, 769), (201, 69, 769), (205, 73, 769), (211, 79, 769), (218, 85, 769), (221, 89, 769), (225, 97, 769), (233, 101, 769), (237, 105, 769), (243, 111, 769), (250, 117, 769), (253, 121, 769), (7871, 234, 769), (472, 252, 769), (194, 65, 770), (202, 69, 770), (206, 73, 770), (212, 79, 770), (219, 85, 770), (226, 97, 770), (234, 101, 770), (238, 105, 770), (244, 111, 770), (251, 117, 770), (7879, 7865, 770), (195, 65, 771), (209, 78, 771), (213, 79, 771), (227, 97, 771), (241, 110, 771), (245, 111, 771), (470, 252, 772), (1049, 1048, 774), (1081, 1080, 774), (196, 65, 776), (203, 69, 776), (207, 73, 776), (214, 79, 776), (220, 85, 776), (228, 97, 776), (235, 101, 776), (239, 105, 776), (246, 111, 776), (252, 117, 776), (255, 121, 776), (1025, 1045, 776), (1105, 1077, 776), (197, 65, 778), (229, 97, 778), (268, 67, 780), (352, 83, 780), (381, 90, 780), (269, 99, 780), (353, 115, 780), (382, 122, 780), (7865, 101, 803), (199, 67, 807), (231, 99, 807)]
def dl : List Pr := [(8490, 75, 0), (8491, 197, 0), (8486, 937, 0), (832, 768, 0), (833, 769, 0)]
def encP (p : Pr) : List Value := [.int .i64 p.1, .int .i64 p.2.1, .int .i64 p.2.2]
def cells3 (l : List Pr) : List Value := l.flatMap encP
theorem cells3_len : ∀ l : List Pr, (cells3 l).length = l.length * 3
  | [] => rfl
  | p :: t => by have := cells3_len t; unfold cells3 at *; rw [List.flatMap_cons, List.length_append, this]; simp [encP]; omega
theorem cells3_app (a b : List Pr) : cells3 (a ++ b) = cells3 a ++ cells3 b := by simp [cells3]
theorem cells3_at : ∀ (l : List Pr) (i : Nat) (h : i < l.length), (cells3 l)[i * 3]? = some (.int .i64 l[i].1) ∧ (cells3 l)[i * 3 + 1]? = some (.int .i64 l[i].2.1) ∧ (cells3 l)[i * 3 + 2]? = some (.int .i64 l[i].2.2)
  | [], i, h => by simp at h
  | p :: t, 0, h => ⟨rfl, rfl, rfl⟩
  | p :: t, i + 1, h => by
    have := cells3_at t i (by simpa using h)
    have e : cells3 (p :: t) = .int .i64 p.1 :: .int .i64 p.2.1 :: .int .i64 p.2.2 :: cells3 t := rfl
    rw [e, show (i + 1) * 3 = i * 3 + 1 + 1 + 1 by omega]
    simpa using this
theorem cells3_one : ∀ l : List Pr, ∀ u ∈ cells3 l, u.oneCell' = true := by
  intro l u hu
  obtain ⟨p, _, h⟩ := List.mem_flatMap.1 hu
  simp [encP] at h
  rcases h with rfl | rfl | rfl <;> rfl
theorem doubles_any (w : World) : Calls Try.prog 27 #[] w fun e w' => e = .returned (.slice (some ⟨w.heap.size, 0, none⟩) 5 5) ∧ w' = w.alloc (.cells (cells3 dl).toArray 40) := by
  go_enter Try.func27, Try.ntmps27
  go_wp2_with fail
  go_ret
  exact ⟨rfl, rfl⟩
end Go.Proofs.Ytdifocahmephjaa.Tab
