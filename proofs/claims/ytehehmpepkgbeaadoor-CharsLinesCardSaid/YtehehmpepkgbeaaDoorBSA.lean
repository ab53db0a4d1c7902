/- The contracts of utf8.Text, the comparison of lists, the document's own Loose. -/
import Derived.Test.YtehehmpepkgbeaaDoorBS
import Derived.Lib.AppendStr
import Derived.Laws.DeepStrings4
namespace Go.Proofs.YtehehmpepkgbeaaDoor
open Go.RowKit
set_option linter.unusedVariables false
set_option linter.unusedSimpArgs false
theorem drewN_add (w : World) (a b : Nat) : (w.drewN a).drewN b = w.drewN (a + b) := by simp [World.drewN, Nat.add_assoc]
def SameS (w : World) (xs ys : List Int) (e : Ending) (w' : World) : Prop := e = .returned (.bool (decide (xs = ys))) ∧ Below w.heap.size w w'
theorem below_drewN {w w' : World} {B n : Nat} (h : w' = w.drewN n) : Below B w w' := by subst h; exact ⟨rfl, rfl, rfl, Nat.le_refl _, fun _ _ => rfl⟩
/-- Where the loose walk over a text stands: behind `a` bytes, `ys` having been told, the first wrong part (or -1) being wr. -/
structure LAt (l : List UInt8) (a : Nat) (ys : List UInt8) (wr : Int) : Prop where
  le : a ≤ l.length
  few : ys.length ≤ 3 * a
  lo : loose l = ys ++ loose (l.drop a)
  wr : (wr = -1 ∧ wrg (prt l) 0 = wrg (prt (l.drop a)) a) ∨ (0 ≤ wr ∧ wr ≤ a ∧ wrg (prt l) 0 = wr)
theorem LAt.start (l : List UInt8) : LAt l 0 [] (-1) := ⟨Nat.zero_le _, by simp, by simp, .inl ⟨rfl, by simp⟩⟩
theorem loose_cons {l : List UInt8} (h : l ≠ []) : loose l = enc (fixR (dec l).1) ++ loose (l.drop (dec l).2) := by
  unfold loose; rw [scl_cons h, List.map_cons, encs_cons]
theorem enc_wrong : enc 65533 = [239, 191, 189] := by decide +kernel
theorem LAt.step {l : List UInt8} {a : Nat} {ys : List UInt8} {wr : Int} (h : LAt l a ys wr) (hl : a < l.length) {r : Int} {n : Nat} (hd : dec (l.drop a) = (r, n)) :
    LAt l (a + n) (ys ++ enc (fixR r)) (if r = -1 ∧ wr < 0 then a else wr) := by
  have hne := drop_ne hl
  have h1 := dec_pos (l.drop a)
  have h2 := dec_le hne
  rw [hd] at h1 h2
  simp only [List.length_drop] at h1 h2
  have hlo : loose (l.drop a) = enc (fixR r) ++ loose (l.drop (a + n)) := by rw [loose_cons hne, hd, List.drop_drop]
  have hp : prt (l.drop a) = (r, n) :: prt (l.drop (a + n)) := by rw [prt_cons hne, hd, List.drop_drop]
  refine ⟨by omega, ?_, by rw [h.lo, hlo]; simp, ?_⟩
  · have := h.few
    rw [List.length_append]
    by_cases hr : r = -1
    · subst hr; have : (enc (fixR (-1))).length = 3 := by decide +kernel
      omega
    · have hk := (dec_ok hd hr)
      have e : fixR r = r := by unfold fixR; rw [if_neg hr]
      rw [e, ← hk.2.1]; omega
  · rcases h.wr with ⟨w1, w2⟩ | ⟨w1, w2, w3⟩
    · by_cases hr : r = -1
      · rw [if_pos ⟨hr, by omega⟩]
        right
        refine ⟨by omega, by omega, ?_⟩
        rw [w2, hp, wrg_bad (by exact hr)]
      · rw [if_neg (by omega)]
        left
        exact ⟨w1, by rw [w2, hp, wrg_good (by exact hr)]⟩
    · rw [if_neg (by omega)]
      exact .inr ⟨w1, by omega, w3⟩
theorem LAt.done {l : List UInt8} {a : Nat} {ys : List UInt8} {wr : Int} (h : LAt l a ys wr) (hl : ¬ a < l.length) : loose l = ys ∧ wrg (prt l) 0 = wr := by
  have e : l.drop a = [] := List.drop_eq_nil_of_le (by omega)
  refine ⟨by rw [h.lo, e]; simp [loose, scl_nil, encs], ?_⟩
  rcases h.wr with ⟨w1, w2⟩ | ⟨w1, _, w2⟩
  · rw [w2, e, w1]; rfl
  · exact w2
def LooseS (w : World) (l : List UInt8) (e : Ending) (w' : World) : Prop :=
  e = .returned (.tuple #[.string (str (loose l)), .int .i64 (wrg (prt l) 0)]) ∧ Below w.heap.size w w'
theorem extract_str (s : ByteArray) (a n : Nat) (xs : List UInt8) (h : s.data.toList.drop a = xs ++ (s.data.toList.drop a).drop n) (hn : n = xs.length) : s.extract a (a + n) = str xs := by
  apply ByteArray.ext
  rw [ByteArray.data_extract]
  apply Array.ext'
  show (s.data.extract a (a + n)).toList = xs
  rw [Array.toList_extract, List.extract_eq_take_drop, h, hn]
  simp
end Go.Proofs.YtehehmpepkgbeaaDoor
