/- Texts that are appended to a slice of bytes; where a text is cut; whether bytes are of a kind. -/
import Derived.Test.YtgadpoahjlnheaaLS
import Derived.Test.YtgadpoahjlnheaaW
namespace Go.Proofs.Ytgadpoahjlnheaa.Med
open Go.RowKit
set_option linter.unusedVariables false
set_option linter.unusedSimpArgs false
open Lab (RetS ret_str str str_size str_list str_eta str_inj u8v st_ixb sl_ixb info5 info_parts BW bw_new wpList_append_bw)
theorem bytes_u8v (x : List UInt8) : byteCells (str x) = x.map u8v := rfl
theorem bw_sets : ∀ (x : List UInt8) {w : World} {B cap : Nat} {l : List UInt8}, BW w B cap l → l.length + x.length ≤ cap → BW (w.setCells B l.length (x.map u8v)) B cap (l ++ x)
  | [], w, B, cap, l, h, _ => by simpa [World.setCells] using h
  | c :: t, w, B, cap, l, h, hr => by
    simp only [List.length_cons] at hr
    have h1 := h.push (by omega) c
    have h2 := bw_sets t h1 (by rw [List.length_append, List.length_singleton]; omega)
    rw [List.map_cons]
    unfold World.setCells
    rw [List.length_append, List.length_singleton] at h2
    simpa using h2
theorem below_sets {b B : Nat} (hb : b ≤ B) : ∀ (vs : List Value) (o : Nat) (w : World), Below b w (w.setCells B o vs)
  | [], o, w => Below.refl _ _
  | v :: r, o, w => ((Below.refl b w).setCell (p := ⟨B, o, none⟩) hb v).trans (below_sets hb r (o + 1) _)
theorem blk_sets {B : Nat} {j : Nat} {C : Array Value} {T : TypeId} (hne : j ≠ B) : ∀ (vs : List Value) (o : Nat) (w : World), Blk w j C T → Blk (w.setCells B o vs) j C T
  | [], o, w, h => h
  | v :: r, o, w, h => blk_sets hne r (o + 1) _ (h.set' (a := ⟨B, o, none⟩) hne)
theorem bw_ne {w : World} {B cap j : Nat} {l : List UInt8} {C : Array Value} {T : TypeId} (h : BW w B cap l) (hb : Blk w j C T) (hT : T ≠ 5) : j ≠ B := by
  rintro rfl
  obtain ⟨C', lo, hi, h1, _⟩ := h
  unfold Blk at hb
  rw [hb] at h1
  cases h1
  exact hT rfl
theorem bw_grown (w : World) (l x : List UInt8) (c : Nat) (h : (l ++ x).length ≤ c) : BW (w.drew.alloc (.cells (((l.map u8v) ++ (x.map u8v)).toArray ++ Builtin.zeroCells (Value.int .u8 0).cells (c - (l.length + x.length))) 5)) w.heap.size c (l ++ x) := by
  rw [List.length_append] at h
  refine ⟨_, 0, 0, heap_alloc_new w.drew _, by rw [List.length_append]; omega, ?_, by intro i _ hh; omega, fun i hi => ?_⟩
  · rw [Array.size_append, size_zeroCells]
    simp [Value.cells]; omega
  · rw [Array.getElem?_append_left (by simp at hi ⊢; omega)]
    have e : (l.map u8v ++ x.map u8v) = (l ++ x).map u8v := by simp
    rw [e, List.getElem?_toArray, List.getElem?_map, List.getElem?_eq_getElem hi]
    rfl
/-- b = append(b, s...). -/
theorem wpList_append_bws {ops : Array Oper} {rest : List Oper} {o : Oper} {a : Act} {Q : Exit → Act → World → Prop} {w : World} (hgd : o.guard = none) (s x : Operand)
    (ho : o.op = .call { callee := .builtin .append, args := #[s, x], argTypes := #[40, 9] })
    (base B cap n : Nat) (l : List UInt8) (hn : l.length = n) (hs : a.eval s = .slice (some ⟨B, 0, none⟩) n cap) (hB : base ≤ B) (hbase : base ≤ w.heap.size) (hbw : BW w B cap l) (hl : n ≤ 200000)
    (y : List UInt8) (hx : a.eval x = .string (str y)) (hy : y.length ≤ 200000)
    (h : ∀ B' cap' w', base ≤ B' → BW w' B' cap' (l ++ y) → Below base w w' → (∀ j C T, T ≠ 5 → Blk w j C T → Blk w' j C T) → wpList Try.prog ops Q rest (a.put o.dst (.slice (some ⟨B', 0, none⟩) (n + y.length) cap')) w') : wpList Try.prog ops Q (o :: rest) a w := by
  obtain ⟨i0, hi, hz0, hz1, hz2⟩ := info_parts info5
  subst hn
  refine wpList_plain hgd fun K hK => ?_
  have hsrc := Src.ofString (P := Try.prog) w (tx := 9) Try.underlying9 (str y)
  have hsz : (str y).size = y.length := str_size y
  rw [hsz, bytes_u8v] at hsrc
  by_cases hroom : l.length + y.length ≤ cap
  · have hrun := run_append_room_src (P := Try.prog) w 40 9 o.type 5 i0 Try.underlying40 hi B 0 l.length cap (.string (str y)) y.length (y.map u8v) (by rw [hz1]; exact hsrc) hroom
      (fun j hj => by rw [hz1]; simpa using (hbw.there (i := l.length + j) (by simp at hj; omega)).1)
      (fun j hj => by rw [hz1]; simpa using (hbw.there (i := l.length + j) (by simp at hj; omega)).2)
    rw [hz1, Nat.zero_add, Nat.mul_one] at hrun
    unfold Oper.wp execOp
    simp only [ho, resolve, invoke, builtin, Sem.run_bind, Sem.run_pure, Result.andThen_ok, List.map_toArray, List.map_cons, List.map_nil, hs, hx, hrun]
    exact hK _ _ (h B cap _ hB (bw_sets y hbw hroom) (below_sets hB _ _ _) (fun j C T hT hj => blk_sets (bw_ne hbw hj hT) _ _ _ hj))
  · have hold : (Builtin.firstCells i0.size l.length (.slice (some ⟨B, 0, none⟩) l.length cap)).run Try.prog w.drew = .ok (l.map u8v).toArray w.drew := by
      rw [hz1]
      refine run_firstCells_some w.drew 1 l.length ⟨B, 0, none⟩ l.length cap (l.map u8v) (by simp) (fun j u hj => ?_)
      have hadd : (⟨B, 0, none⟩ : Addr).add j = ⟨B, 0 + j, none⟩ := by unfold Addr.add; split <;> simp_all
      rw [hadd]; exact hbw.cells j u hj
    have hrun := run_append_grow_src (P := Try.prog) w 40 9 o.type 5 i0 (.int .u8 0) Try.underlying40 hi hz0 (some ⟨B, 0, none⟩) l.length cap (l.map u8v) hold (.string (str y)) y.length (y.map u8v) (by rw [hz1]; exact hsrc)
      (by omega) (by omega) (by rw [hz2]; exact growslice_fits (by omega) (by omega))
    unfold Oper.wp execOp
    simp only [ho, resolve, invoke, builtin, Sem.run_bind, Sem.run_pure, Result.andThen_ok, List.map_toArray, List.map_cons, List.map_nil, hs, hx, hrun]
    refine hK _ _ (h w.heap.size _ _ hbase (bw_grown w l y _ ?_) (((Below.refl base w).drew).alloc hbase _) (fun j C T hT hj => (hj.drew).alloc _))
    rw [List.length_append]
    exact grownCap_ge w (l.length + y.length) cap 5
end Go.Proofs.Ytgadpoahjlnheaa.Med
