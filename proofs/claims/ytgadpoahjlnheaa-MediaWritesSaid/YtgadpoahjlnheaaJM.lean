/- A Content-Type that came in: what it holds, and how great it can be. -/
import Derived.Test.YtgadpoahjlnheaaJ
import Derived.Deep.SlicePairs
import Derived.HandedShaped
import Derived.SizedLaws
namespace Go.Proofs.Ytgadpoahjlnheaa
open Go.RowKit
set_option linter.unusedVariables false
set_option linter.unusedSimpArgs false
open Go.ChangeShapes Go.WideShapes Go.ChangeAt Go.Deep
open Lab (str str_list str_eta)
theorem cells25 : Try.prog.cellsOf 25 = 2 := by kernel_rfl
theorem cells48 : Try.prog.cellsOf 48 = 2 := by kernel_rfl
theorem cells9 : Try.prog.cellsOf 9 = 1 := by kernel_rfl
theorem cells23 : Try.prog.cellsOf 23 = 1 := by kernel_rfl
theorem bytes48 : Try.prog.bytesOf 48 = 32 := by kernel_rfl
theorem addr_add (b off j : Nat) : (⟨b, off, none⟩ : Addr).add j = ⟨b, off + j, none⟩ := by unfold Addr.add; split <;> simp_all
theorem spot_none {w : World} {a : Addr} {v : Value} (h : w.cell? a = some v) : a = ⟨a.block, a.off, none⟩ := by
  unfold World.cell? at h
  split at h
  · split at h
    · cases h
    · rename_i hs
      obtain ⟨b, o, s⟩ := a
      cases s with
      | none => rfl
      | some x => simp at hs
  · cases h
section
variable {H : Type} {enc : TypeId × Value → H} {w : World} {held : Bool}
theorem mem_weightsAll {P : Program} {e : TypeId} : ∀ {l : List (DataW H)} {d : DataW H} {n : Nat}, d ∈ l → n ∈ d.weights P e → n ∈ DataW.weightsAll P e l
  | x :: t, d, n, h, hn => by
    unfold DataW.weightsAll
    rcases List.mem_cons.1 h with rfl | h
    · exact List.mem_append_left _ hn
    · exact List.mem_append_right _ (mem_weightsAll h hn)
theorem w25 (a b : DataW H) : (DataW.agg [a, b] : DataW H).weights Try.prog 25 = a.weights Try.prog 9 ++ (b.weights Try.prog 23 ++ []) := by
  rw [DataW.weights, Try.underlying25]; simp [DataW.weightsEach]
theorem w48 (a b : DataW H) : (DataW.agg [a, b] : DataW H).weights Try.prog 48 = a.weights Try.prog 9 ++ (b.weights Try.prog 9 ++ []) := by
  rw [DataW.weights, Try.underlying48]; simp [DataW.weightsEach]
theorem w23 (a b : List (DataW H)) : (DataW.slice a b : DataW H).weights Try.prog 23 = (a.length + b.length) * 32 :: (DataW.weightsAll Try.prog 48 a ++ DataW.weightsAll Try.prog 48 b) := by
  rw [DataW.weights, Try.underlying23]; simp [bytes48]
theorem w9 (l : List UInt8) : (DataW.lit (.string l) : DataW H).weights Try.prog 9 = [l.length] := by
  rw [DataW.weights]
def strOf : Value → List UInt8
  | .string s => s.data.toList
  | _ => []
theorem open_media {v : Value} {d : DataW H} {p : List MemPlace} {r : Reach} {b : Nat} (hv : Value.okWide Try.prog w r b 25 v) (h : DataW.Trod enc Try.prog w 0 (fun _ => true) held 25 v d p) (hz : ∀ n ∈ d.weights Try.prog 25, n ≤ reachBytes) :
    ∃ (m : Med.Med) (u : Value), v = .agg #[.string (str m.1), u] ∧ Med.Prs w u m.2 ∧ m.1.length ≤ 1000000000000000 ∧ m.2.length ≤ 1000000000000000 ∧ ∀ q ∈ m.2, q.1.length ≤ 1000000000000000 ∧ q.2.length ≤ 1000000000000000 := by
  have hr : reachBytes ≤ 1000000000000000 := by decide
  obtain ⟨cs, rfl, hcs⟩ := okWide_struct Try.underlying25 hv
  obtain ⟨fuel, hf⟩ := h
  have hcl : (Value.agg cs).cells.toList = cs.toList := rfl
  rw [hcl] at hf
  obtain ⟨y0, y1, n, hx, hl, h0, h1⟩ := trod_struct2 Try.underlying25 hf
  simp only [cells9, cells23, cells25] at h0 h1 hl
  rw [cells25] at hcs
  obtain ⟨c0, c1, rfl⟩ : ∃ c0 c1, cs = #[c0, c1] := by
    obtain ⟨l⟩ := cs
    match l, hcs with
    | [a, b], _ => exact ⟨a, b, rfl⟩
  have h0' : DataW.trod enc Try.prog w 0 (fun _ => true) held n 9 [c0] = some y0 := h0
  have h1' : DataW.trod enc Try.prog w 0 (fun _ => true) held n 23 [c1] = some y1 := h1
  obtain ⟨s, e0, rfl, _⟩ := DataW.trod_string Try.underlying9 h0'
  have hd : d = .agg [.lit (.string s.data.toList), y1.1] := congrArg Prod.fst hx
  subst hd
  obtain rfl : c0 = .string s := by simpa using e0
  have hw0 : s.data.toList.length ≤ reachBytes := hz _ (by rw [w25, w9]; simp)
  have hw1 : ∀ k ∈ y1.1.weights Try.prog 23, k ≤ reachBytes := fun k hk => hz _ (by rw [w25]; simp [hk])
  rcases open_slice_pairs Try.underlying23 Try.underlying48 cells48 rfl rfl cells9 cells9 h1' with ⟨e1, hy⟩ | ⟨a, len, cap, m, n', V0, V1, D0, D1, P0, P1, e1, _, hlc, hcm, hm, hy, hall⟩
  · obtain rfl : c1 = .slice none 0 0 := by simpa using e1
    refine ⟨(s.data.toList, []), .slice none 0 0, by rw [str_eta], Med.prs_nil w, by show s.data.toList.length ≤ _; omega, by simp, by simp⟩
  · obtain rfl : c1 = .slice (some a) len cap := by simpa using e1
    have hlm : len ≤ m := by rw [hm]; simp; exact hlc
    have hstr : ∀ i, i < len → V0 i = .string (str (strOf (V0 i))) ∧ V1 i = .string (str (strOf (V1 i))) ∧ D0 i = .lit (.string (strOf (V0 i))) ∧ D1 i = .lit (.string (strOf (V1 i))) := fun i hi => by
      obtain ⟨_, _, g0, g1⟩ := hall i (by omega)
      obtain ⟨s0, k0, k1, _⟩ := DataW.trod_string Try.underlying9 g0
      obtain ⟨s1, k2, k3, _⟩ := DataW.trod_string Try.underlying9 g1
      have q0 : V0 i = .string s0 := by simpa using k0
      have q1 : V1 i = .string s1 := by simpa using k2
      have r0 : D0 i = .lit (.string s0.data.toList) := congrArg Prod.fst k1
      have r1 : D1 i = .lit (.string s1.data.toList) := congrArg Prod.fst k3
      rw [q0, q1, r0, r1]
      simp [strOf, str_eta]
    have hy1 : y1.1 = .slice ((List.range len).map fun i => .agg [D0 i, D1 i]) ((List.range (m - len)).map fun j => .agg [D0 (len + j), D1 (len + j)]) := congrArg Prod.fst hy
    rw [hy1] at hw1
    have hlen : len * 32 ≤ reachBytes := by
      have := hw1 ((len + (m - len)) * 32) (by rw [w23]; simp)
      have e : len * 32 ≤ (len + (m - len)) * 32 := by omega
      omega
    have hel : ∀ i, i < len → (strOf (V0 i)).length ≤ reachBytes ∧ (strOf (V1 i)).length ≤ reachBytes := fun i hi => by
      have hmem : (DataW.agg [D0 i, D1 i] : DataW H) ∈ (List.range len).map fun i => (DataW.agg [D0 i, D1 i] : DataW H) := List.mem_map.2 ⟨i, List.mem_range.2 hi, rfl⟩
      have hin : ∀ k ∈ (DataW.agg [D0 i, D1 i] : DataW H).weights Try.prog 48, k ≤ reachBytes := fun k hk => hw1 k (by rw [w23]; exact List.mem_cons_of_mem _ (List.mem_append_left _ (mem_weightsAll hmem hk)))
      obtain ⟨_, _, d0, d1⟩ := hstr i hi
      rw [d0, d1] at hin
      constructor
      · exact hin _ (by rw [w48, w9, w9]; simp)
      · exact hin _ (by rw [w48, w9, w9]; simp)
    refine ⟨(s.data.toList, (List.range len).map fun i => (strOf (V0 i), strOf (V1 i))), .slice (some a) len cap, by rw [str_eta], ?_, by show s.data.toList.length ≤ _; omega, by show ((List.range len).map _).length ≤ _; rw [List.length_map, List.length_range]; omega, ?_⟩
    · refine ⟨some a, cap, by simp, ?_⟩
      cases len with
      | zero => left; rfl
      | succ len =>
        right
        have h00 := (hall 0 (by omega)).1
        have ha := spot_none (show w.cell? a = _ by simpa [Addr.add] using h00)
        obtain ⟨ab, off, sp⟩ := a
        simp only [Addr.mk.injEq, true_and] at ha
        subst ha
        refine ⟨ab, off, rfl, World.block_lt_of_cell? w _ (show w.cell? ⟨ab, off, none⟩ = _ by simpa [Addr.add] using h00), fun i hi => ?_⟩
        have hi' : i < len + 1 := by simpa using hi
        obtain ⟨g0, g1, _, _⟩ := hall i (by omega)
        obtain ⟨q0, q1, _, _⟩ := hstr i hi'
        rw [addr_add] at g0 g1
        simp only [List.getElem_map, List.getElem_range]
        rw [← q0, ← q1]
        exact ⟨g0, g1⟩
    · intro q hq
      obtain ⟨i, hi, rfl⟩ := List.mem_map.1 hq
      have := hel i (List.mem_range.1 hi)
      show (strOf (V0 i)).length ≤ _ ∧ (strOf (V1 i)).length ≤ _
      omega
end
end Go.Proofs.Ytgadpoahjlnheaa
