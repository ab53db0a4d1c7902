/- The contract of All: a range over the iterator. -/
import Derived.Test.YtfpncdhneikkaaaDoorH
import Derived.RangeFuncNested
import Derived.RangeFuncBound
import Derived.RangeFuncCalls
import Derived.RangeFuncLeaves
import Derived.RangeFuncBox
import Derived.Shelf.Abstract
import Derived.Shelf.RegionOpen
import Derived.OwnWalkIn
import Derived.TacticsInMore
import Derived.LoopNIn
import Derived.LoopIn
namespace Go.Proofs.YtfpncdhneikkaaaDoor
open Go.RowKit Go.Shelf
set_option linter.unusedVariables false
set_option linter.unusedSimpArgs false
attribute [local go_sem] Oper.semAt_some
def sel (e : Int) (l : List Item) : List (List UInt8) := (l.filter (fun x => x.1 == e)).map (·.2)
theorem sel_len (e : Int) (l : List Item) : (sel e l).length ≤ l.length := by unfold sel; simp [List.length_filter_le]
theorem sel_yes {e : Int} {l : List Item} {x : Item} (h : x.1 = e) : sel e (l ++ [x]) = sel e l ++ [x.2] := by unfold sel; simp [List.filter_append, h]
theorem sel_no {e : Int} {l : List Item} {x : Item} (h : x.1 ≠ e) : sel e (l ++ [x]) = sel e l := by unfold sel; simp [List.filter_append, h]
theorem own_form {W : World} {base k size : Nat} {e : TypeId} {v : Value} {xs : List Value} (h : W.ownsRow base e size v k xs) : ∃ p cap, v = .slice p k cap := by
  rcases h.2 with ⟨rfl, rfl⟩ | ⟨g, cap, cur, rfl, _⟩
  · exact ⟨_, _, rfl⟩
  · exact ⟨_, _, rfl⟩
def AllS (w : World) (e : Int) (r : Ending) (w' : World) : Prop := ∃ v, r = .returned v ∧ Strs w' v (allL e) ∧ Below w.heap.size w w'
set_option maxRecDepth 100000 in
set_option maxHeartbeats 2000000 in
theorem all_any (e : Int) (w : World) (hg : Gl w) : Calls Tryd.prog 13 #[.int .i8 e] w fun r w' => AllS w e r w' := by
  obtain ⟨i0, hi, hz0, hz1, hz2⟩ := info_parts info9
  refine (callsIn_wide (n := 5)).1 ?_
  have h2 := hg.pos
  refine callsIn_of_wp_marks Tryd.func13 rfl trivial ?_ rfl
  simp only [Tryd.ntmps13, List.size_toArray, List.length_cons, List.length_nil, Nat.reduceAdd, Nat.reduceSub, Array.replicate_succ, Array.replicate_zero, List.push_toArray, List.append_toArray, List.nil_append, List.cons_append]
  gi_wp2_with (refine ⟨trivial, ?_⟩; gi_at_call 19; refine (labels_in _ _).mono ?_; rintro e w' ⟨rfl, rfl⟩)
  have bE := Boxed.new w 22 (.int .i8 e)
  have bL := Boxed.new (w.alloc (.cells #[.int .i8 e] 22)) 28 (.slice none 0 0)
  rw [World.size_alloc] at bL
  have hB0 : Below w.heap.size w ((w.alloc (.cells #[.int .i8 e] 22)).alloc (.cells #[.slice none 0 0] 28)) := ((Below.refl _ w).alloc (Nat.le_refl _) _).alloc (by simp) _
  refine wpIn_rangeFunc_ownG rfl (by omega) (gf := 23) (lb := #[]) rfl trivial (enters_of Tryd.func23 (by kernel_rfl) rfl)
    (labels_stops 4 (by omega) w.heap.size _ (GlN.below hg hB0 (Nat.le_refl _))) Below.trans (belowK_b (by simp; omega)) (Below.refl _ _) (fun _ => rfl)
    (fun pre W => (∃ v, Boxed W (w.heap.size + 1) 28 v ∧ W.ownsRow w.heap.size 9 1 v (sel e pre).length ((sel e pre).map strV) ∧ True) ∧ Boxed W w.heap.size 22 (.int .i8 e) ∧ Below w.heap.size w W)
    (fun c pre W => False)
    (OwnFrom.and (Own.from (holdsRow_own w.heap.size (w.heap.size + 1) 28 9 1 (fun (pre : List Item) => (sel e pre).length) (fun pre => (sel e pre).map strV) (fun _ _ => True)) _) (OwnFrom.and (Own.from (boxed_own _ _ _) _) (ownFrom_below (Nat.le_refl _) (by simp; omega))))
    (fun c => ownFrom_pure _ _)
    ⟨⟨_, bL, World.ownsRow_nil _ _ _ _, trivial⟩, bE.alloc _, hB0⟩
    (fun x => { tmps := #[.int .i8 e, .pointer (some ⟨w.heap.size, 0, none⟩), .slice none 0 0, .pointer (some ⟨w.heap.size + 1, 0, none⟩), .int .i8 x.1, .string (str x.2), .func (.func 23) #[] #[], .int .i8 x.1, .string (str x.2), undef, undef, undef, undef, undef, undef, undef, undef], defers := [] }) ?assign ?body ?done ?stop
  case assign =>
    intro l x W K hK
    simp only [encI]
    gi_wp2
    exact hK
  case body =>
    rintro l pre x W ⟨⟨v, hv, hrow, _⟩, hbe, hB⟩ hlt
    have HB := Lib.hid hB
    have hwz := hB.size
    have HV := Lib.hid hv
    have HRow := Lib.hid hrow
    have HE := Lib.hid hbe
    have ce := hbe.cell
    have cv := hv.cell
    have hsl : Hid ((sel e pre).length ≤ 41) := Lib.hid (by have := sel_len e pre; omega)
    clear hB hbe hv hrow hlt
    by_cases hx : x.1 = e
    · have hxb : (x.1 == e) = true := by simpa using hx
      have HX := Lib.hid (sel_yes (l := pre) hx)
      clear hx
      gi_wp2_with (gi_at_builtin; refine wpListIn_append_own _ rfl _ _ 28 rfl w.heap.size 9 i0 (.string ⟨#[]⟩) 1 16 Tryd.underlying28 hi hz0 hz1 hz2 rfl (by decide) v (sel e pre).length ((sel e pre).map strV) rfl (HRow.out.alloc _) ⟨W.heap.size, 0, none⟩ 1 1 [.string (str x.2)] rfl rfl (cell_one_new _ _ _) (by simp [Value.oneCell']) (by have := hsl.out; unfold maxLen; omega) (by have := hsl.out; omega) (by simp; omega) ?_; intro v' w1 hown' hgrow _; obtain ⟨g', cap', rfl⟩ := ownsRow_succ hown'; obtain ⟨hv1, hv2, hr2, hk2, hb2⟩ := HV.out.appended (by decide) HRow.out hwz (by omega) hown' hgrow; have hc1 := hv1.cell; have hf1 := hv1.frozen; have K0 := Lib.hid ((HE.out.alloc (.cells #[.string (str x.2)] 9)).kept hgrow (HE.out.not_row (by decide) HRow.out)); have V2 := Lib.hid hv2; have R2 := Lib.hid hr2; have K2 := Lib.hid hk2; have B2 := Lib.hid hb2; clear hown' hgrow hv1 hv2 hr2 hk2 hb2)
      refine ⟨K2.out.from _, B2.out, ⟨_, V2.out, by rw [HX.out, List.length_append, List.map_append]; exact R2.out, trivial⟩, K0.out.other (by omega) _, HB.out.trans B2.out⟩
    · have hxb : (x.1 == e) = false := by simpa using hx
      have HX := Lib.hid (sel_no (l := pre) hx)
      clear hx
      gi_wp2
      exact ⟨KeepsFrom.refl _ _, Below.refl _ _, ⟨v, HV.out, by rw [HX.out]; exact HRow.out, trivial⟩, HE.out, HB.out⟩
  case done =>
    rintro D ys W hD rfl ⟨⟨v, hv, hrow, _⟩, hbe, hB⟩ hK
    have HRow := Lib.hid hrow
    have HB := Lib.hid hB
    obtain ⟨p, cap, rfl⟩ := own_form hrow
    have cv := hv.cell
    have hd1 : w.heap.size + 1 < D := by simp at hD; omega
    clear hrow hv hbe hB
    gi_wp2
    have hr3 := ownsRow_putObj HRow.out (.deferred none) hK rfl
    refine ⟨by simp, .inl ⟨_, _, rfl, run_takeDeferred hK, ?_⟩⟩
    refine ⟨.slice p (sel e allI).length cap, ?_, ⟨_, rfl, strs_of_own (base := w.heap.size) hr3, HB.out.trans (belowK_b (w := w) (Nat.le_refl _) W D _ _ (by omega) hK rfl rfl)⟩⟩
    simp [results, Tryd.f13, go_sem]
  case stop =>
    rintro D c pre W hD hsp hf hK
    exact hf.elim
end Go.Proofs.YtfpncdhneikkaaaDoor
