/- The contract of the document's own Lower; slices of bytes that grow. -/
import Derived.Test.YtdkfbikpadehdaaDoorLE
import Derived.Lib.Bytealg
import Derived.Laws.Externs
import Derived.Laws.DeepStrings4
import Derived.Laws.BytesArg
import Derived.Laws.IdiomStrings
namespace Go.Proofs.YtdkfbikpadehdaaDoor.Lab
open Go.RowKit
set_option linter.unusedVariables false
set_option linter.unusedSimpArgs false
def Own8 (w : World) (base : Nat) (v : Value) (xs : List UInt8) : Prop := w.ownsRow base 5 1 v xs.length (xs.map u8v)
theorem own_nil (w : World) (base : Nat) : Own8 w base (.slice none 0 0) [] := World.ownsRow_nil w base 5 1
theorem conv_own {w : World} {base : Nat} {v : Value} {xs : List UInt8} (h : Own8 w base v xs) : (convert 37 9 v).run Tryd.prog w = .ok (.string (str xs)) w := by
  rcases h.2 with ⟨rfl, h0⟩ | ⟨g, cap, cur, rfl, hb, hg, hcap, hm, hsz, ht⟩
  · have : xs = [] := List.eq_nil_of_length_eq_zero h0
    subst this
    exact run_convert_bytes_nil (P := Tryd.prog) w 37 5 Tryd.underlying37 Tryd.underlying5 0 0 9 Tryd.underlying9
  · refine run_convert_bytes_back (P := Tryd.prog) w 37 9 5 ⟨g, 0, none⟩ cap xs Tryd.underlying37 Tryd.underlying5 Tryd.underlying9 ?_
    intro i hi
    have hc := (World.ownsRow.cells (g := g) h rfl) i (u8v xs[i]) (by simp [hi])
    rw [hc]; rfl
theorem lwr_take {l : List UInt8} {k : Nat} (h : k < l.length) : lwr (l.take (k + 1)) = lwr (l.take k) ++ [lo l[k]] := by
  unfold lwr
  rw [List.take_add_one, List.getElem?_eq_getElem h, List.map_append]
  rfl
theorem lwr_take_len {l : List UInt8} {k : Nat} (h : k ≤ l.length) : (lwr (l.take k)).length = k := by simp [lwr]; omega
end Go.Proofs.YtdkfbikpadehdaaDoor.Lab
