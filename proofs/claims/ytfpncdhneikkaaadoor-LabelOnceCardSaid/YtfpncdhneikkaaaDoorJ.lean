/- The contract of Of: a range over the iterator. -/
import Derived.Test.YtfpncdhneikkaaaDoorI
import Derived.Test.YtfpncdhneikkaaaDoorD
import Derived.RangeFuncNested
import Derived.RangeFuncBound
import Derived.RangeFuncCalls
import Derived.RangeFuncLeaves
import Derived.RangeFuncBox
import Derived.Shelf.Abstract
import Derived.Shelf.RegionOpen
import Derived.OwnWalkIn
import Derived.TacticsInMore
import Derived.LoopNIn
import Derived.LoopIn
namespace Go.Proofs.YtfpncdhneikkaaaDoor
open Go.RowKit Go.Shelf
set_option linter.unusedVariables false
set_option linter.unusedSimpArgs false
attribute [local go_sem] Oper.semAt_some
theorem of_yes {p : List UInt8} {t : List Item} {x : Item} (h : ∃ u, allI = (t ++ [x]) ++ u) (ht : ∀ q ∈ t, q.2 ≠ p) (hx : x.2 = p) : ofP p = (x.1, true) := by
  obtain ⟨u, hu⟩ := h
  have : allI.find? (fun x => x.2 == p) = some x := by
    rw [hu, List.append_assoc, List.find?_append, List.find?_eq_none.2 (by intro q hq; simpa using ht q hq)]
    simp [hx]
  unfold ofP; rw [this]
theorem of_no {p : List UInt8} (h : ∀ q ∈ allI, q.2 ≠ p) : ofP p = (0, false) := by
  unfold ofP; rw [List.find?_eq_none.2 (by intro q hq; simpa using h q hq)]
def OfS (w : World) (o : Int × Bool) (r : Ending) (w' : World) : Prop := r = .returned (.tuple #[.int .i8 o.1, .bool o.2]) ∧ Below w.heap.size w w'
theorem toList_str (x : List UInt8) : (str x).toList = x := by
  rw [ByteArray.toList_eq]; rfl
set_option maxRecDepth 100000 in
set_option maxHeartbeats 4000000 in
theorem of_any (s : ByteArray) (w : World) (hg : Gl w) (hs : s.size ≤ maxLen) : Calls Tryd.prog 8 #[.string s] w fun r w' => OfS w (ofL s.data.toList) r w' := by
  have HT : Hid (∀ w, Calls Tryd.prog 15 #[.string s] w fun r w' => RetS (trm s.data.toList) w r w') := Lib.hid fun w => trim_any s w hs
  have HL : Hid (∀ w, Calls Tryd.prog 17 #[.string (str (trm s.data.toList))] w fun r w' => RetS (lwr (trm s.data.toList)) w r w') := Lib.hid fun w => by
    have := lower_any (str (trm s.data.toList)) w (by
      rw [str_size]
      have h1 := trm_len s.data.toList
      have h2 : s.data.toList.length = s.size := by simp
      omega)
    rwa [str_list] at this
  obtain ⟨t, ht⟩ : ∃ t, trm s.data.toList = t := ⟨_, rfl⟩
  obtain ⟨p, hp⟩ : ∃ p, lwr t = p := ⟨_, rfl⟩
  have HP : Hid (ofL s.data.toList = ofP p) := Lib.hid (by unfold ofL; rw [ht, hp])
  rw [ht] at HT HL
  rw [hp] at HL
  rw [HP.out]
  clear ht hp
  refine (callsIn_wide (n := 5)).1 ?_
  have h2 := hg.pos
  have HG := Lib.hid hg
  clear hg
  have bR0 := Boxed.new w 22 (.int .i8 0)
  have bR1 := Boxed.new (w.alloc (.cells #[.int .i8 0] 22)) 4 (.bool false)
  rw [World.size_alloc] at bR1
  have hB0 : Below w.heap.size w ((w.alloc (.cells #[.int .i8 0] 22)).alloc (.cells #[.bool false] 4)) := ((Below.refl _ w).alloc (Nat.le_refl _) _).alloc (by simp) _
  have HR0 := Lib.hid (bR0.alloc (.cells #[.bool false] 4))
  have HR1 := Lib.hid bR1
  have HB0 := Lib.hid hB0
  clear bR0 bR1 hB0
  refine callsIn_of_wp_marks Tryd.func8 rfl trivial ?_ rfl
  simp only [Tryd.ntmps8, List.size_toArray, List.length_cons, List.length_nil, Nat.reduceAdd, Nat.reduceSub, Array.replicate_succ, Array.replicate_zero, List.push_toArray, List.append_toArray, List.nil_append, List.cons_append]
  gi_wp2_with (first
    | (refine ⟨trivial, ?_⟩; gi_at_call 15; refine (callsIn_wide.2 (HT.out _)).mono ?_; rintro r w1 ⟨rfl, hb1⟩; have HB1 := Lib.hid hb1; clear hb1 HT)
    | (refine ⟨trivial, ?_⟩; gi_at_call 17; refine (callsIn_wide.2 (HL.out _)).mono ?_; rintro r w2 ⟨rfl, hb2⟩; have HB2 := Lib.hid (below_call HB1.out hb2); clear hb2 HL)
    | (refine ⟨trivial, ?_⟩; gi_at_call 19; refine (labels_in _ _).mono ?_; rintro e w' ⟨rfl, rfl⟩))
  have bP := Boxed.new w2 9 (.string (str p))
  have hw2 := HB2.out.size
  have hw20 : w.heap.size + 1 < w2.heap.size := by simp at hw2; omega
  have k0 : Boxed w2 w.heap.size 22 (.int .i8 0) := (HB2.out.block _ (by simp; omega)).trans HR0.out
  have k1 : Boxed w2 (w.heap.size + 1) 4 (.bool false) := (HB2.out.block _ (by simp)).trans HR1.out
  have hB3 : Below w.heap.size w (w2.alloc (.cells #[.string (str p)] 9)) := (HB0.out.trans (HB2.out.mono (by simp; omega))).alloc (by omega) _
  refine wpIn_rangeFunc_ownG rfl (by omega) (gf := 23) (lb := #[]) rfl trivial (enters_of Tryd.func23 (by kernel_rfl) rfl)
    (labels_stops 4 (by omega) w.heap.size _ (GlN.below HG.out hB3 (Nat.le_refl _))) Below.trans (belowK_b (by simp; omega)) (Below.refl _ _) (fun _ => rfl)
    (fun pre W => (∀ q ∈ pre, q.2 ≠ p) ∧ Boxed W w.heap.size 22 (.int .i8 0) ∧ Boxed W (w.heap.size + 1) 4 (.bool false) ∧ Boxed W w2.heap.size 9 (.string (str p)) ∧ Below w.heap.size w W)
    (fun c pre W => ∃ t x, (c = .ret ∧ pre = t ++ [x] ∧ x.2 = p ∧ ∀ q ∈ t, q.2 ≠ p) ∧ Boxed W w.heap.size 22 (.int .i8 x.1) ∧ Boxed W (w.heap.size + 1) 4 (.bool true) ∧ Below w.heap.size w W)
    (OwnFrom.and (ownFrom_pure _ _) (OwnFrom.and (Own.from (boxed_own _ _ _) _) (OwnFrom.and (Own.from (boxed_own _ _ _) _) (OwnFrom.and (Own.from (boxed_own _ _ _) _) (ownFrom_below (Nat.le_refl _) (by simp; omega))))))
    ?ixown
    ⟨by simp, k0.alloc _, k1.alloc _, bP, hB3⟩
    (fun x => { tmps := #[.string s, undef, .pointer (some ⟨w.heap.size, 0, none⟩), .pointer (some ⟨w.heap.size + 1, 0, none⟩), .pointer (some ⟨w2.heap.size, 0, none⟩), .int .i8 x.1, .string (str x.2), .string s, .string (str t), .string (str p), .func (.func 23) #[] #[], .int .i8 x.1, .string (str x.2), undef, undef, undef, undef], defers := [] }) ?assign ?body ?done ?stop
  case ixown =>
    intro c s A B row hs hg hr
    obtain ⟨t, x, h1, h2, h3, h4⟩ := hs
    exact ⟨t, x, h1, (OwnFrom.and (Own.from (boxed_own _ _ _) _) (OwnFrom.and (Own.from (boxed_own _ _ _) _) (ownFrom_below (Nat.le_refl _) (by simp; omega))) : OwnFrom _ (fun (_ : List Item) W => Boxed W w.heap.size 22 (.int .i8 x.1) ∧ Boxed W (w.heap.size + 1) 4 (.bool true) ∧ Below w.heap.size w W)) s A B row ⟨h2, h3, h4⟩ hg hr⟩
  case assign =>
    intro l x W K hK
    simp only [encI]
    gi_wp2
    exact hK
  case body =>
    rintro l pre x W ⟨hp, hb0, hb1, hbp, hB⟩ _
    have HQ := Lib.hid hp
    have HB := Lib.hid hB
    have H0 := Lib.hid hb0
    have H1 := Lib.hid hb1
    have HBP := Lib.hid hbp
    have c0 := hb0.cell
    have c1 := hb1.cell
    have f0 := hb0.frozen
    have f1 := hb1.frozen
    have cp := hbp.cell
    clear hp hB hb0 hb1 hbp
    by_cases hx : x.2 = p
    · have hxb : (str x.2).toList = (str p).toList := by rw [hx]
      have HX := Lib.hid hx
      clear hx
      gi_wp2
      exact ⟨((KeepsOthers.setCell _ _ _).trans (KeepsOthers.setCell _ _ _)).from _, _, x, ⟨rfl, rfl, HX.out, HQ.out⟩, (H0.out.set _).other (by omega) _, (H1.out.other (by omega) _).set _, (HB.out.setCell (p := ⟨w.heap.size, 0, none⟩) (Nat.le_refl _) _).setCell (p := ⟨w.heap.size + 1, 0, none⟩) (by simp) _⟩
    · have hxb : ¬ (str x.2).toList = (str p).toList := fun h => hx (by rwa [toList_str, toList_str] at h)
      have HX := Lib.hid hx
      clear hx
      gi_wp2
      · rename_i hbad
        exact (hxb (eq_of_beq hbad)).elim
      exact ⟨KeepsFrom.refl _ _, Below.refl _ _, fun q hq => (List.mem_append.1 hq).elim (HQ.out q) (fun e => by simp at e; subst e; exact HX.out), H0.out, H1.out, HBP.out, HB.out⟩
  case done =>
    rintro D ys W hD rfl ⟨hne, hb0, hb1, -, hB⟩ hK
    have HN := Lib.hid (of_no hne)
    have HB := Lib.hid hB
    have H0 := Lib.hid hb0
    have H1 := Lib.hid hb1
    have c0 := hb0.cell
    have c1 := hb1.cell
    have f0 := hb0.frozen
    have f1 := hb1.frozen
    have hd1 : w.heap.size + 1 < D := by simp at hD; omega
    clear hne hb0 hb1 hB
    gi_wp2
    have hK' := ((KeepsOthers.setCell W ⟨w.heap.size, 0, none⟩ (.int .i8 0)).trans (KeepsOthers.setCell _ ⟨w.heap.size + 1, 0, none⟩ (.bool false))).same D _ hK rfl
    have h0 := (boxed_putObj ((H0.out.set (.int .i8 0)).other (B' := w.heap.size + 1) (by omega) (.bool false)) (.deferred none) (show w.heap.size ≠ D by omega)).cell
    have h1 := (boxed_putObj ((H1.out.other (B' := w.heap.size) (by omega) (.int .i8 0)).set (.bool false)) (.deferred none) (show w.heap.size + 1 ≠ D by omega)).cell
    refine ⟨by simp, .inl ⟨_, _, rfl, run_takeDeferred hK', ?_⟩⟩
    refine ⟨.tuple #[.int .i8 0, .bool false], ?_, by rw [HN.out], ((HB.out.setCell (p := ⟨w.heap.size, 0, none⟩) (Nat.le_refl _) _).setCell (p := ⟨w.heap.size + 1, 0, none⟩) (by simp) _).trans (belowK_b (w := w) (Nat.le_refl _) _ D _ _ (by omega) hK' rfl rfl)⟩
    simp [results, Tryd.f8, go_sem, h0, h1]
  case stop =>
    rintro D c pre W hD hsp ⟨t, x, ⟨rfl, rfl, hx, ht⟩, hb0, hb1, hB⟩ hK
    have HN := Lib.hid (of_yes hsp ht hx)
    have HB := Lib.hid hB
    have H0 := Lib.hid hb0
    have H1 := Lib.hid hb1
    have hd1 : w.heap.size + 1 < D := by simp at hD; omega
    clear hsp hx ht hb0 hb1 hB
    gi_wp2
    refine ⟨by simp, .inl ⟨_, _, rfl, run_takeDeferred hK, ?_⟩⟩
    have h0 := (boxed_putObj H0.out (.deferred none) (show w.heap.size ≠ D by omega)).cell
    have h1 := (boxed_putObj H1.out (.deferred none) (show w.heap.size + 1 ≠ D by omega)).cell
    refine ⟨.tuple #[.int .i8 x.1, .bool true], ?_, by rw [HN.out], HB.out.trans (belowK_b (w := w) (Nat.le_refl _) W D _ _ (by omega) hK rfl rfl)⟩
    simp [results, Tryd.f8, go_sem, h0, h1]
end Go.Proofs.YtfpncdhneikkaaaDoor
