/- The contracts of utf8.Valid, Scalars, Loose: ranges over the iterator. -/
import Derived.Test.YtnalnpidmmkfgaaDoorV
import Derived.RangeFuncNested
import Derived.RangeFuncBound
import Derived.RangeFuncCalls
import Derived.RangeFuncLeaves
import Derived.RangeFuncBox
import Derived.Shelf.Abstract
import Derived.Shelf.RegionOpen
import Derived.OwnWalkIn
import Derived.TacticsInMore
import Derived.LoopNIn
import Derived.LoopIn
namespace Go.Proofs.YtnalnpidmmkfgaaDoor
open Go.RowKit Go.Shelf
set_option linter.unusedVariables false
set_option linter.unusedSimpArgs false
attribute [local go_sem] Oper.semAt_some
def itR (x : Item) : Value := .int .i64 x.1.2
theorem scl_items {l : List UInt8} {ys : List Item} (h : ys.map (·.1) = its (prt l) 0) : ys.map (fun x => x.1.2) = scl l := by
  rw [scl_its, ← h, List.map_map]; rfl
theorem ownsRow_setCell {W : World} {base B : Nat} {e t : TypeId} {size k : Nat} {v u : Value} {xs : List Value} (h : W.ownsRow base e size v k xs) (hb : Boxed W B t u) (hte : t ≠ e) (x : Value) : (W.setCell ⟨B, 0, none⟩ x).ownsRow base e size v k xs :=
  h.kept (grownBy_setCell' W B x) (.inr (hb.not_row hte h).symm)
theorem boxed_putObj {W : World} {B D : Nat} {t : TypeId} {v : Value} (h : Boxed W B t v) (o : Obj) (hne : B ≠ D) : Boxed (W.putObj D o) B t v :=
  h.kept (grownBy_putObj' W D o) (fun e => hne (by cases e; rfl))
theorem own_form {W : World} {base k size : Nat} {e : TypeId} {v : Value} {xs : List Value} (h : W.ownsRow base e size v k xs) : ∃ p cap, v = .slice p k cap := by
  rcases h.2 with ⟨rfl, rfl⟩ | ⟨g, cap, cur, rfl, _⟩
  · exact ⟨_, _, rfl⟩
  · exact ⟨_, _, rfl⟩
set_option maxRecDepth 100000 in
set_option maxHeartbeats 4000000 in
theorem scal_any (s : ByteArray) (w : World) (hg : Gl w) (hs : s.size ≤ 100000) : Calls Tryd.prog 37 #[.string s] w fun e w' => ScalS w s.data.toList e w' := by
  obtain ⟨i0, hi, hz0, hz1, hz2⟩ := info_parts info3
  refine (callsIn_wide (n := 5)).1 ?_
  have h2 := hg.size
  refine callsIn_of_wp_marks Tryd.func37 rfl trivial ?_ rfl
  simp only [Tryd.ntmps37, List.size_toArray, List.length_cons, List.length_nil, Nat.reduceAdd, Nat.reduceSub, Array.replicate_succ, Array.replicate_zero, List.push_toArray, List.append_toArray, List.nil_append, List.cons_append]
  gi_wp2_with (refine ⟨trivial, ?_⟩; gi_at_call 43; refine (scalars_in _ s _).mono ?_; rintro e w' ⟨rfl, rfl⟩)
  have bR0 := Boxed.new w 23 (.slice none 0 0)
  have bR1 := Boxed.new (w.alloc (.cells #[.slice none 0 0] 23)) 4 (.bool false)
  rw [World.size_alloc] at bR1
  have bL := Boxed.new ((w.alloc (.cells #[.slice none 0 0] 23)).alloc (.cells #[.bool false] 4)) 23 (.slice none 0 0)
  rw [World.size_alloc, World.size_alloc] at bL
  have bN := Boxed.new (((w.alloc (.cells #[.slice none 0 0] 23)).alloc (.cells #[.bool false] 4)).alloc (.cells #[.slice none 0 0] 23)) 9 (.string s)
  rw [World.size_alloc, World.size_alloc, World.size_alloc] at bN
  have hB0 : Below w.heap.size w ((((w.alloc (.cells #[.slice none 0 0] 23)).alloc (.cells #[.bool false] 4)).alloc (.cells #[.slice none 0 0] 23)).alloc (.cells #[.string s] 9)) := ((((Below.refl _ w).alloc (Nat.le_refl _) _).alloc (by simp) _).alloc (by simp; omega) _).alloc (by simp; omega) _
  refine wpIn_rangeFunc_ownG rfl (by omega) (gf := 47) (lb := #[.pointer (some ⟨w.heap.size + 1 + 1 + 1, 0, none⟩)]) rfl trivial (enters_of Tryd.func47 (by kernel_rfl) rfl)
    (scalars_stops 4 (by omega) (w.heap.size + 1 + 1 + 1) w.heap.size s hs _ (hg.below' hB0) (by omega) (by simp) (by simp; omega) bN.cell) KpS.trans (kpS_b (by simp; omega) (by simp)) (Below.refl _ _) (fun _ => rfl)
    (fun pre W => (∃ v, Boxed W (w.heap.size + 1 + 1) 23 v ∧ W.ownsRow w.heap.size 3 1 v pre.length (pre.map itR) ∧ True) ∧ Boxed W w.heap.size 23 (.slice none 0 0) ∧ Boxed W (w.heap.size + 1) 4 (.bool false) ∧ Boxed W (w.heap.size + 1 + 1 + 1) 9 (.string s) ∧ (∀ p ∈ pre, p.1.2 ≠ -1) ∧ Below w.heap.size w W)
    (fun c pre W => (c = .ret ∧ ∃ p ∈ pre, p.1.2 = -1) ∧ Boxed W w.heap.size 23 (.slice none 0 0) ∧ Boxed W (w.heap.size + 1) 4 (.bool false) ∧ Below w.heap.size w W)
    (OwnFrom.and (Own.from (holdsRow_own w.heap.size (w.heap.size + 1 + 1) 23 3 1 (fun (pre : List Item) => pre.length) (fun pre => pre.map itR) (fun _ _ => True)) _) (OwnFrom.and (Own.from (boxed_own _ _ _) _) (OwnFrom.and (Own.from (boxed_own _ _ _) _) (OwnFrom.and (Own.from (boxed_own _ _ _) _) (OwnFrom.and (ownFrom_pure _ _) (ownFrom_below (Nat.le_refl _) (by simp; omega)))))))
    (fun c => OwnFrom.and (ownFrom_pure _ _) (OwnFrom.and (Own.from (boxed_own _ _ _) _) (OwnFrom.and (Own.from (boxed_own _ _ _) _) (ownFrom_below (Nat.le_refl _) (by simp; omega)))))
    ⟨⟨_, bL.alloc _, World.ownsRow_nil _ _ _ _, trivial⟩, ((bR0.alloc _).alloc _).alloc _, (bR1.alloc _).alloc _, bN, by simp, hB0⟩
    (fun x => { tmps := #[.string s, undef, .pointer (some ⟨w.heap.size, 0, none⟩), .pointer (some ⟨w.heap.size + 1, 0, none⟩), .pointer (some ⟨w.heap.size + 1 + 1, 0, none⟩), undef, .int .i64 x.1.2, .string s, .func (.func 47) #[] #[.pointer (some ⟨w.heap.size + 1 + 1 + 1, 0, none⟩)], .int .i64 (x.1.1 : Int), .int .i64 x.1.2, undef, undef, undef, undef, undef, undef, undef], defers := [] }) ?assign ?body ?done ?stop
  case assign =>
    intro l x W K hK
    simp only [encI]
    gi_wp2
    exact hK
  case body =>
    rintro l pre x W ⟨⟨v, hv, hrow, _⟩, hR0, hR1, hN, hp, hB⟩ hlt
    have HP := Lib.hid hp
    have HB := Lib.hid hB
    have hwz := hB.size
    have HV := Lib.hid hv
    have HRow := Lib.hid hrow
    have H0 := Lib.hid hR0
    have H1 := Lib.hid hR1
    have HN := Lib.hid hN
    have hc := hv.cell
    have c0 := hR0.cell
    have c1 := hR1.cell
    have f0 := hR0.frozen
    have f1 := hR1.frozen
    clear hp hB hv hrow hR0 hR1 hN
    by_cases hx : x.1.2 = -1
    · have hxb : (x.1.2 == -1) = true := by simpa using hx
      have HX := Lib.hid hx
      clear hx
      gi_wp2
      refine ⟨((KeepsOthers.setCell _ _ _).trans (KeepsOthers.setCell _ _ _)).from _, ⟨rfl, x, by simp, HX.out⟩, (H0.out.set _).other (by omega) _, (H1.out.other (by omega) _).set _, ?_⟩
      exact (HB.out.setCell (p := ⟨w.heap.size, 0, none⟩) (Nat.le_refl _) _).setCell (p := ⟨w.heap.size + 1, 0, none⟩) (by simp) _
    · have hxb : (x.1.2 == -1) = false := by simpa using hx
      have HX := Lib.hid hx
      clear hx
      gi_wp2_with (gi_at_builtin; refine wpListIn_append_own _ rfl _ _ 23 rfl w.heap.size 3 i0 (.int .i64 0) 1 8 Tryd.underlying23 hi hz0 hz1 hz2 rfl (by decide) v pre.length (pre.map itR) rfl (HRow.out.alloc _) ⟨W.heap.size, 0, none⟩ 1 1 [.int .i64 x.1.2] rfl rfl (cell_one_new _ _ _) (by simp [Value.oneCell']) (by unfold maxLen; omega) (by omega) (by simp; omega) ?_; intro v' w1 hown' hgrow _; obtain ⟨g', cap', rfl⟩ := ownsRow_succ hown'; obtain ⟨hv1, hv2, hr2, hk2, hb2⟩ := HV.out.appended (by decide) HRow.out hwz (by omega) hown' hgrow; have hc1 := hv1.cell; have hf1 := hv1.frozen; have K0 := Lib.hid ((H0.out.alloc (.cells #[.int .i64 x.1.2] 3)).kept hgrow (H0.out.not_row (by decide) HRow.out)); have K1 := Lib.hid ((H1.out.alloc (.cells #[.int .i64 x.1.2] 3)).kept hgrow (H1.out.not_row (by decide) HRow.out)); have KN := Lib.hid ((HN.out.alloc (.cells #[.int .i64 x.1.2] 3)).kept hgrow (HN.out.not_row (by decide) HRow.out)); have V2 := Lib.hid hv2; have R2 := Lib.hid hr2; have K2 := Lib.hid hk2; have B2 := Lib.hid hb2; clear hown' hgrow hv1 hv2 hr2 hk2 hb2)
      refine ⟨K2.out.from _, ⟨B2.out, (((KN.out.other (B' := w.heap.size + 1 + 1) (by omega) _).trans HN.out.symm))⟩, ⟨_, V2.out, by rw [List.length_append, List.map_append]; exact R2.out, trivial⟩, K0.out.other (by omega) _, K1.out.other (by omega) _, KN.out.other (by omega) _, fun p hp' => (List.mem_append.1 hp').elim (HP.out p) (fun e => by simp at e; subst e; exact HX.out), HB.out.trans B2.out⟩
  case done =>
    rintro D ys W hD hy ⟨⟨v, hv, hrow, _⟩, hR0, hR1, hN, hne, hB⟩ hK
    obtain ⟨p, cap, rfl⟩ := own_form hrow
    have HOK := Lib.hid (ok_of_all hy hne)
    have HSC := Lib.hid (scl_items hy)
    have hc := hv.cell
    have c0 := hR0.cell
    have c1 := hR1.cell
    have f0 := hR0.frozen
    have f1 := hR1.frozen
    have HV := Lib.hid hv
    have HRow := Lib.hid hrow
    have H0 := Lib.hid hR0
    have H1 := Lib.hid hR1
    have HB := Lib.hid hB
    have hd1 : w.heap.size + 1 < D := by simp at hD; omega
    clear hy hne hB hv hrow hR0 hR1 hN
    have hdl : w.heap.size ≤ D := by omega
    gi_wp2
    have hK' := ((KeepsOthers.setCell W ⟨w.heap.size, 0, none⟩ (.slice p ys.length cap)).trans (KeepsOthers.setCell _ ⟨w.heap.size + 1, 0, none⟩ (.bool true))).same D _ hK rfl
    have h0 := (boxed_putObj ((H0.out.set (.slice p ys.length cap)).other (B' := w.heap.size + 1) (by omega) (.bool true)) (.deferred none) (show w.heap.size ≠ D by omega)).cell
    have h1 := (boxed_putObj ((H1.out.other (B' := w.heap.size) (by omega) (.slice p ys.length cap)).set (.bool true)) (.deferred none) (show w.heap.size + 1 ≠ D by omega)).cell
    have hr3 := ownsRow_putObj (ownsRow_setCell (ownsRow_setCell HRow.out H0.out (by decide) (.slice p ys.length cap)) (H1.out.other (B' := w.heap.size) (by omega) (.slice p ys.length cap)) (by decide) (.bool true)) (.deferred none) hK' rfl
    refine ⟨by simp, .inl ⟨_, _, rfl, run_takeDeferred hK', ?_⟩⟩
    refine ⟨.tuple #[.slice p ys.length cap, .bool true], ?_, ⟨_, by rw [HOK.out], ?_, ?_⟩⟩
    · simp [results, Tryd.f37, go_sem, h0, h1]
    · rw [HOK.out, if_pos rfl, ← HSC.out]
      unfold OwnI
      rw [List.length_map, List.map_map]
      exact hr3
    · exact ((HB.out.setCell (p := ⟨w.heap.size, 0, none⟩) (Nat.le_refl _) _).setCell (p := ⟨w.heap.size + 1, 0, none⟩) (by simp) _).trans (belowK_b (w := w) (Nat.le_refl _) _ D _ _ hdl hK' rfl rfl)
  case stop =>
    rintro D c pre W hD hsp ⟨⟨rfl, p, hp, hr⟩, hR0, hR1, hB⟩ hK
    have HOK := Lib.hid (no_of_one hsp hp hr)
    have HB := Lib.hid hB
    have H0 := Lib.hid hR0
    have H1 := Lib.hid hR1
    have hd1 : w.heap.size + 1 < D := by simp at hD; omega
    clear hsp hp hr hB hR0 hR1
    gi_wp2
    refine ⟨by simp, .inl ⟨_, _, rfl, run_takeDeferred hK, ?_⟩⟩
    have h0 := (boxed_putObj H0.out (.deferred none) (show w.heap.size ≠ D by omega)).cell
    have h1 := (boxed_putObj H1.out (.deferred none) (show w.heap.size + 1 ≠ D by omega)).cell
    refine ⟨.tuple #[.slice none 0 0, .bool false], ?_, ⟨_, by rw [HOK.out], by rw [HOK.out]; exact ownI_nil _ _, HB.out.trans (belowK_b (w := w) (Nat.le_refl _) W D _ _ (by simp at hD; omega) hK rfl rfl)⟩⟩
    simp [results, Tryd.f37, go_sem, h0, h1]
end Go.Proofs.YtnalnpidmmkfgaaDoor
