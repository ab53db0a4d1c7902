/- The contracts of Of, Name, All: ranges over the iterator. -/
import Derived.Test.YtfpncdhneikkaaaDoorG
import Derived.RangeFuncNested
import Derived.RangeFuncBound
import Derived.RangeFuncCalls
import Derived.RangeFuncLeaves
import Derived.RangeFuncBox
import Derived.Shelf.Abstract
import Derived.Shelf.RegionOpen
import Derived.OwnWalkIn
import Derived.TacticsInMore
import Derived.LoopNIn
import Derived.LoopIn
namespace Go.Proofs.YtfpncdhneikkaaaDoor
open Go.RowKit Go.Shelf
set_option linter.unusedVariables false
set_option linter.unusedSimpArgs false
attribute [local go_sem] Oper.semAt_some
theorem boxed_putObj {W : World} {B D : Nat} {t : TypeId} {v : Value} (h : Boxed W B t v) (o : Obj) (hne : B ≠ D) : Boxed (W.putObj D o) B t v :=
  h.kept (grownBy_putObj' W D o) (fun e => hne (by cases e; rfl))
theorem name_yes {e : Int} {t : List Item} {x : Item} (h : ∃ u, allI = (t ++ [x]) ++ u) (ht : ∀ p ∈ t, p.1 ≠ e) (hx : x.1 = e) : nameL e = x.2 := by
  obtain ⟨u, hu⟩ := h
  have : allI.find? (fun x => x.1 == e) = some x := by
    rw [hu, List.append_assoc, List.find?_append, List.find?_eq_none.2 (by intro p hp; simpa using ht p hp)]
    simp [hx]
  unfold nameL; rw [this]
theorem name_no {e : Int} (h : ∀ p ∈ allI, p.1 ≠ e) : nameL e = [] := by
  unfold nameL; rw [List.find?_eq_none.2 (by intro p hp; simpa using h p hp)]
set_option maxRecDepth 100000 in
set_option maxHeartbeats 2000000 in
theorem name_any (e : Int) (w : World) (hg : Gl w) : Calls Tryd.prog 10 #[.int .i8 e] w fun r w' => RetS (nameL e) w r w' := by
  refine (callsIn_wide (n := 5)).1 ?_
  have h2 := hg.pos
  refine callsIn_of_wp_marks Tryd.func10 rfl trivial ?_ rfl
  simp only [Tryd.ntmps10, List.size_toArray, List.length_cons, List.length_nil, Nat.reduceAdd, Nat.reduceSub, Array.replicate_succ, Array.replicate_zero, List.push_toArray, List.append_toArray, List.nil_append, List.cons_append]
  gi_wp2_with (refine ⟨trivial, ?_⟩; gi_at_call 19; refine (labels_in _ _).mono ?_; rintro e w' ⟨rfl, rfl⟩)
  have bE := Boxed.new w 22 (.int .i8 e)
  have bR := Boxed.new (w.alloc (.cells #[.int .i8 e] 22)) 9 (.string ⟨#[]⟩)
  rw [World.size_alloc] at bR
  have hB0 : Below w.heap.size w ((w.alloc (.cells #[.int .i8 e] 22)).alloc (.cells #[.string ⟨#[]⟩] 9)) := ((Below.refl _ w).alloc (Nat.le_refl _) _).alloc (by simp) _
  refine wpIn_rangeFunc_ownG rfl (by omega) (gf := 23) (lb := #[]) rfl trivial (enters_of Tryd.func23 (by kernel_rfl) rfl)
    (labels_stops 4 (by omega) w.heap.size _ (GlN.below hg hB0 (Nat.le_refl _))) Below.trans (belowK_b (by simp; omega)) (Below.refl _ _) (fun _ => rfl)
    (fun pre W => (∀ p ∈ pre, p.1 ≠ e) ∧ Boxed W w.heap.size 22 (.int .i8 e) ∧ Boxed W (w.heap.size + 1) 9 (.string ⟨#[]⟩) ∧ Below w.heap.size w W)
    (fun c pre W => ∃ t x, (c = .ret ∧ pre = t ++ [x] ∧ x.1 = e ∧ ∀ p ∈ t, p.1 ≠ e) ∧ Boxed W (w.heap.size + 1) 9 (.string (str x.2)) ∧ Below w.heap.size w W)
    (OwnFrom.and (ownFrom_pure _ _) (OwnFrom.and (Own.from (boxed_own _ _ _) _) (OwnFrom.and (Own.from (boxed_own _ _ _) _) (ownFrom_below (Nat.le_refl _) (by simp; omega)))))
    ?ixown
    ⟨by simp, bE.alloc _, bR, hB0⟩
    (fun x => { tmps := #[.int .i8 e, .pointer (some ⟨w.heap.size, 0, none⟩), .pointer (some ⟨w.heap.size + 1, 0, none⟩), .int .i8 x.1, .string (str x.2), .func (.func 23) #[] #[], .int .i8 x.1, .string (str x.2), undef, undef, undef, undef], defers := [] }) ?assign ?body ?done ?stop
  case ixown =>
    intro c s A B row hs hg hr
    obtain ⟨t, x, h1, h2, h3⟩ := hs
    exact ⟨t, x, h1, (OwnFrom.and (Own.from (boxed_own _ _ _) _) (ownFrom_below (Nat.le_refl _) (by simp; omega)) : OwnFrom _ (fun (_ : List Item) W => Boxed W (w.heap.size + 1) 9 (.string (str x.2)) ∧ Below w.heap.size w W)) s A B row ⟨h2, h3⟩ hg hr⟩
  case assign =>
    intro l x W K hK
    simp only [encI]
    gi_wp2
    exact hK
  case body =>
    rintro l pre x W ⟨hp, hbe, hbr, hB⟩ _
    have HP := Lib.hid hp
    have HB := Lib.hid hB
    have HR := Lib.hid hbr
    have HE := Lib.hid hbe
    have ce := hbe.cell
    have cr := hbr.cell
    have fr := hbr.frozen
    clear hp hB hbe hbr
    by_cases hx : x.1 = e
    · have hxb : (x.1 == e) = true := by simpa using hx
      have HX := Lib.hid hx
      clear hx
      gi_wp2
      exact ⟨(KeepsOthers.setCell _ _ _).from _, _, x, ⟨rfl, rfl, HX.out, HP.out⟩, HR.out.set _, HB.out.setCell (p := ⟨w.heap.size + 1, 0, none⟩) (by simp) _⟩
    · have hxb : (x.1 == e) = false := by simpa using hx
      have HX := Lib.hid hx
      clear hx
      gi_wp2
      exact ⟨KeepsFrom.refl _ _, Below.refl _ _, fun p hp' => (List.mem_append.1 hp').elim (HP.out p) (fun e => by simp at e; subst e; exact HX.out), HE.out, HR.out, HB.out⟩
  case done =>
    rintro D ys W hD rfl ⟨hne, hbe, hbr, hB⟩ hK
    have HN := Lib.hid (name_no hne)
    have HB := Lib.hid hB
    have HR := Lib.hid hbr
    have cr := hbr.cell
    have fr := hbr.frozen
    have hd1 : w.heap.size + 1 < D := by simp at hD; omega
    clear hne hbe hbr hB
    gi_wp2
    have hK' := (KeepsOthers.setCell W ⟨w.heap.size + 1, 0, none⟩ (.string ⟨#[]⟩)).same D _ hK rfl
    refine ⟨by simp, .inl ⟨_, _, rfl, run_takeDeferred hK', ?_⟩⟩
    have h1 := (boxed_putObj (HR.out.set (.string ⟨#[]⟩)) (.deferred none) (show w.heap.size + 1 ≠ D by omega)).cell
    refine ⟨.string ⟨#[]⟩, ?_, by rw [HN.out]; rfl, (HB.out.setCell (p := ⟨w.heap.size + 1, 0, none⟩) (by simp) _).trans (belowK_b (w := w) (Nat.le_refl _) _ D _ _ (by omega) hK' rfl rfl)⟩
    simp [results, Tryd.f10, go_sem, h1]
  case stop =>
    rintro D c pre W hD hsp ⟨t, x, ⟨rfl, rfl, hx, ht⟩, hbr, hB⟩ hK
    have HN := Lib.hid (name_yes hsp ht hx)
    have HB := Lib.hid hB
    have HR := Lib.hid hbr
    have hd1 : w.heap.size + 1 < D := by simp at hD; omega
    clear hsp hx ht hbr hB
    gi_wp2
    refine ⟨by simp, .inl ⟨_, _, rfl, run_takeDeferred hK, ?_⟩⟩
    have h1 := (boxed_putObj HR.out (.deferred none) (show w.heap.size + 1 ≠ D by omega)).cell
    refine ⟨.string (str x.2), ?_, by rw [HN.out], HB.out.trans (belowK_b (w := w) (Nat.le_refl _) W D _ _ (by omega) hK rfl rfl)⟩
    simp [results, Tryd.f10, go_sem, h1]
end Go.Proofs.YtfpncdhneikkaaaDoor
