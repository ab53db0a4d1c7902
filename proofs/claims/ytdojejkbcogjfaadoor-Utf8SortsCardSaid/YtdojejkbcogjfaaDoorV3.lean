/- The contracts of utf8.Valid, Scalars, Loose: ranges over the iterator. -/
import Derived.Test.YtdojejkbcogjfaaDoorV2
import Derived.RangeFuncNested
import Derived.RangeFuncBound
import Derived.RangeFuncCalls
import Derived.RangeFuncLeaves
import Derived.RangeFuncBox
import Derived.Shelf.Abstract
import Derived.Shelf.RegionOpen
import Derived.OwnWalkIn
import Derived.TacticsInMore
import Derived.LoopNIn
import Derived.LoopIn
namespace Go.Proofs.YtdojejkbcogjfaaDoor
open Go.RowKit Go.Shelf
set_option linter.unusedVariables false
set_option linter.unusedSimpArgs false
attribute [local go_sem] Oper.semAt_some
def looseI (pre : List Item) : List UInt8 := encs (pre.map fun x => fixR x.1.2)
theorem looseI_snoc (pre : List Item) (x : Item) : looseI (pre ++ [x]) = looseI pre ++ enc (fixR x.1.2) := by
  unfold looseI; rw [List.map_append, encs_app]; simp [encs]
theorem looseI_len (pre : List Item) : (looseI pre).length ≤ 4 * pre.length := by
  have := encs_len (pre.map fun x => fixR x.1.2)
  rw [List.length_map] at this; exact this
theorem loose_items {l : List UInt8} {ys : List Item} (h : ys.map (·.1) = its (prt l) 0) : looseI ys = loose l := by
  unfold looseI loose
  rw [← scl_items h, List.map_map]; rfl
theorem wrgI_ge : ∀ ps : List (Nat × Int), wrgI ps = -1 ∨ 0 ≤ wrgI ps
  | [] => .inl rfl
  | p :: t => by
    by_cases h : p.2 = -1
    · simp only [wrgI]; rw [if_pos h]; omega
    · simp only [wrgI]; rw [if_neg h]; exact wrgI_ge t
theorem wrgI_bad {p : Nat × Int} (h : p.2 = -1) (t : List (Nat × Int)) : wrgI (p :: t) = (p.1 : Int) := by simp only [wrgI]; rw [if_pos h]
theorem wrgI_good {p : Nat × Int} (h : ¬ p.2 = -1) (t : List (Nat × Int)) : wrgI (p :: t) = wrgI t := by simp only [wrgI]; rw [if_neg h]
theorem wrgI_snoc : ∀ (ps : List (Nat × Int)) (p : Nat × Int), wrgI (ps ++ [p]) = if wrgI ps < 0 then (if p.2 = -1 then (p.1 : Int) else -1) else wrgI ps
  | [], p => by simp [wrgI]
  | q :: t, p => by
    rw [List.cons_append]
    by_cases h : q.2 = -1
    · rw [wrgI_bad h, wrgI_bad h, if_neg (by omega)]
    · rw [wrgI_good h, wrgI_good h, wrgI_snoc t p]
def wrgP (pre : List Item) : Int := wrgI (pre.map (·.1))
theorem wrgP_snoc (pre : List Item) (x : Item) : wrgP (pre ++ [x]) = if wrgP pre < 0 then (if x.1.2 = -1 then (x.1.1 : Int) else -1) else wrgP pre := by
  unfold wrgP; rw [List.map_append]; exact wrgI_snoc _ _
theorem wrgP_neg {pre : List Item} (h : wrgP pre < 0) : wrgP pre = -1 := by
  rcases wrgI_ge (pre.map (·.1)) with e | e
  · exact e
  · unfold wrgP at h; omega
theorem keeps_grown {W W' : World} {base k size : Nat} {e : TypeId} {v : Value} {xs : List Value} (h : W.ownsRow base e size v k xs) (hg : W.grownBy W' v.ownBlock) : KeepsOthers W W' :=
  KeepsOthers.of_grownBy hg fun j o ej hj => by
    rcases h.2 with ⟨rfl, _⟩ | ⟨g, cap, cur, rfl, _, hgb, _⟩
    · simp [Value.ownBlock] at ej
    · obtain rfl : g = j := by simpa [Value.ownBlock] using ej
      rw [hgb] at hj; cases hj; rfl
set_option maxRecDepth 100000 in
set_option maxHeartbeats 4000000 in
theorem loose_any (s : ByteArray) (w : World) (hg : Gl w) (hs : s.size ≤ 20000) : Calls Tryd.prog 25 #[.string s] w fun e w' => LooseS w s.data.toList e w' := by
  refine (callsIn_wide (n := 5)).1 ?_
  have h2 := hg.size
  have HGw := Lib.hid hg
  refine callsIn_of_wp_marks Tryd.func25 rfl trivial ?_ rfl
  simp only [Tryd.ntmps25, List.size_toArray, List.length_cons, List.length_nil, Nat.reduceAdd, Nat.reduceSub, Array.replicate_succ, Array.replicate_zero, List.push_toArray, List.append_toArray, List.nil_append, List.cons_append]
  gi_wp2_with (refine ⟨trivial, ?_⟩; gi_at_call 30; refine (scalars_in _ s _).mono ?_; rintro e w' ⟨rfl, rfl⟩)
  have bR := Boxed.new w 3 (.int .i64 (-1))
  have bL := Boxed.new (w.alloc (.cells #[.int .i64 (-1)] 3)) 41 (.slice none 0 0)
  rw [World.size_alloc] at bL
  have bN := Boxed.new ((w.alloc (.cells #[.int .i64 (-1)] 3)).alloc (.cells #[.slice none 0 0] 41)) 9 (.string s)
  rw [World.size_alloc, World.size_alloc] at bN
  have hB0 : Below w.heap.size w (((w.alloc (.cells #[.int .i64 (-1)] 3)).alloc (.cells #[.slice none 0 0] 41)).alloc (.cells #[.string s] 9)) := (((Below.refl _ w).alloc (Nat.le_refl _) _).alloc (by simp) _).alloc (by simp; omega) _
  refine wpIn_rangeFunc_ownG rfl (by omega) (gf := 33) (lb := #[.pointer (some ⟨w.heap.size + 1 + 1, 0, none⟩)]) rfl trivial (enters_of Tryd.func33 (by kernel_rfl) rfl)
    (scalars_stops 4 (by omega) (w.heap.size + 1 + 1) w.heap.size s (by omega) _ (hg.below' hB0) (by omega) (by simp) (by simp; omega) bN.cell) KpS.trans (kpS_b (by simp; omega) (by simp)) (Below.refl _ _) (fun _ => rfl)
    (fun pre W => (∃ v, Boxed W (w.heap.size + 1) 41 v ∧ W.ownsRow w.heap.size 5 1 v (looseI pre).length ((looseI pre).map u8v) ∧ True) ∧ Boxed W w.heap.size 3 (.int .i64 (wrgP pre)) ∧ Boxed W (w.heap.size + 1 + 1) 9 (.string s) ∧ Below w.heap.size w W)
    (fun _ _ _ => False)
    (OwnFrom.and (Own.from (holdsRow_own w.heap.size (w.heap.size + 1) 41 5 1 (fun (pre : List Item) => (looseI pre).length) (fun pre => (looseI pre).map u8v) (fun _ _ => True)) _) (OwnFrom.and (Own.from (boxed_own _ _ _) _) (OwnFrom.and (Own.from (boxed_own _ _ _) _) (ownFrom_below (Nat.le_refl _) (by simp; omega)))))
    (fun _ _ _ _ _ hs _ _ => hs)
    ⟨⟨_, bL.alloc _, World.ownsRow_nil _ _ _ _, trivial⟩, (bR.alloc _).alloc _, bN, hB0⟩
    (fun x => { tmps := #[.string s, undef, .string { data := #[] }, .pointer (some ⟨w.heap.size, 0, none⟩), .pointer (some ⟨w.heap.size + 1, 0, none⟩), .int .i64 (x.1.1 : Int), .int .i64 x.1.2, .string s, .func (.func 33) #[] #[.pointer (some ⟨w.heap.size + 1 + 1, 0, none⟩)], .int .i64 (x.1.1 : Int), .int .i64 x.1.2, undef, undef, undef, undef, undef, undef, undef, undef, undef, undef, undef], defers := [] }) ?assign ?body ?done ?stop
  case assign =>
    intro l x W K hK
    simp only [encI]
    gi_wp2
    exact hK
  case body =>
    rintro l pre x W ⟨⟨v, hv, hrow, _⟩, hR, hN, hB⟩ hlt
    have HB := Lib.hid hB
    have hwz := hB.size
    have HV := Lib.hid hv
    have HRow : Hid (Own8 W w.heap.size v (looseI pre)) := Lib.hid hrow
    have H0 := Lib.hid hR
    have HN := Lib.hid hN
    have hc := hv.cell
    have c0 := hR.cell
    have f0 := hR.frozen
    have hpl := looseI_len pre
    have HGW : Hid (Gl W) := Lib.hid (HGw.out.below' HB.out)
    obtain ⟨y, hy⟩ : ∃ y, wrgP pre = y := ⟨_, rfl⟩
    have HS := Lib.hid (wrgP_snoc pre x)
    have HSn := Lib.hid (looseI_snoc pre x)
    have HXp := Lib.hid x.2.2
    rw [hy] at c0
    have HY := Lib.hid hy
    clear hB hv hrow hR hN hy
    by_cases hx : x.1.2 = -1
    · have hxb : (x.1.2 == -1) = true := by simpa using hx
      have HX := Lib.hid hx
      have HR : Hid (isB 65533 = true) := Lib.hid (by decide +kernel)
      have HF : Hid (fixR x.1.2 = 65533) := Lib.hid (by rw [hx]; rfl)
      clear hx
      by_cases hyn : y < 0
      · have HW : Hid (wrgP (pre ++ [x]) = (x.1.1 : Int)) := Lib.hid (by rw [HS.out, HY.out, if_pos hyn, if_pos HX.out])
        have D0 := Lib.hid ((H0.out.set (.int .i64 (x.1.1 : Int))))
        have DL := Lib.hid (HV.out.other (B' := w.heap.size) (by omega) (.int .i64 (x.1.1 : Int)))
        have DN := Lib.hid (HN.out.other (B' := w.heap.size) (by omega) (.int .i64 (x.1.1 : Int)))
        have DO : Hid (Own8 (W.setCell ⟨w.heap.size, 0, none⟩ (.int .i64 (x.1.1 : Int))) w.heap.size v (looseI pre)) := Lib.hid (ownsRow_setCell HRow.out H0.out (by decide) _)
        have DB : Hid (Below w.heap.size w (W.setCell ⟨w.heap.size, 0, none⟩ (.int .i64 (x.1.1 : Int)))) := Lib.hid (HB.out.setCell (p := ⟨w.heap.size, 0, none⟩) (Nat.le_refl _) _)
        have DG : Hid (Gl (W.setCell ⟨w.heap.size, 0, none⟩ (.int .i64 (x.1.1 : Int)))) := Lib.hid (HGw.out.below' DB.out)
        have cL := DL.out.cell
        have hwz2 := DB.out.size
        gi_wp2_with (refine ⟨trivial, ?_⟩; gi_at_call 27; refine (CallsIn.inRound l (callsIn_wide.2 (add_any v w.heap.size (looseI pre) 65533 _ DG.out h2 hwz2 DO.out (by omega) HR.out))).mono ?_; rintro e w1 ⟨v1, rfl, hown1, hgrow1⟩; obtain ⟨p1, cap1, rfl⟩ := own_form hown1; have K9 := Lib.hid (D0.out.kept hgrow1 (D0.out.not_row (by decide) DO.out)); have KL := Lib.hid (DL.out.kept hgrow1 (DL.out.not_row (by decide) DO.out)); have KN := Lib.hid (DN.out.kept hgrow1 (DN.out.not_row (by decide) DO.out)); have O1 := Lib.hid hown1; have G1 := Lib.hid hgrow1; have hc1 := KL.out.cell; have hf1 := KL.out.frozen; clear hown1 hgrow1)
        refine ⟨(((KeepsOthers.setCell _ _ _).trans (keeps_grown DO.out G1.out)).trans (KeepsOthers.setCell _ _ _)).from _, ⟨?_, (KN.out.other (B' := w.heap.size + 1) (by omega) _).trans HN.out.symm⟩, ⟨_, KL.out.set _, ?_, trivial⟩, ?_, KN.out.other (by omega) _, ?_⟩
        · exact (((Below.refl w.heap.size W).setCell (p := ⟨w.heap.size, 0, none⟩) (Nat.le_refl _) _).grown G1.out hwz2 (fun j e => (World.ownsRow.lt DO.out j e).1)).setCell (p := ⟨w.heap.size + 1, 0, none⟩) (by simp) _
        · rw [HSn.out, HF.out]; refine ownsRow_setCell ?_ KL.out (by decide) _; have := O1.out; unfold Own8 at this; rw [List.length_append] at this ⊢; exact this
        · rw [HW.out]; exact K9.out.other (by omega) _
        · exact (DB.out.grown G1.out hwz2 (fun j e => (World.ownsRow.lt DO.out j e).1)).setCell (p := ⟨w.heap.size + 1, 0, none⟩) (by simp) _
      · have HW : Hid (wrgP (pre ++ [x]) = wrgP pre) := Lib.hid (by rw [HS.out, HY.out, if_neg hyn])
        have cL := HV.out.cell
        gi_wp2_with (refine ⟨trivial, ?_⟩; gi_at_call 27; refine (CallsIn.inRound l (callsIn_wide.2 (add_any v w.heap.size (looseI pre) 65533 _ HGW.out h2 hwz HRow.out (by omega) HR.out))).mono ?_; rintro e w1 ⟨v1, rfl, hown1, hgrow1⟩; obtain ⟨p1, cap1, rfl⟩ := own_form hown1; have K9 := Lib.hid (H0.out.kept hgrow1 (H0.out.not_row (by decide) HRow.out)); have KL := Lib.hid (HV.out.kept hgrow1 (HV.out.not_row (by decide) HRow.out)); have KN := Lib.hid (HN.out.kept hgrow1 (HN.out.not_row (by decide) HRow.out)); have O1 := Lib.hid hown1; have G1 := Lib.hid hgrow1; have hc1 := KL.out.cell; have hf1 := KL.out.frozen; clear hown1 hgrow1)
        refine ⟨((keeps_grown HRow.out G1.out).trans (KeepsOthers.setCell _ _ _)).from _, ⟨?_, (KN.out.other (B' := w.heap.size + 1) (by omega) _).trans HN.out.symm⟩, ⟨_, KL.out.set _, ?_, trivial⟩, ?_, KN.out.other (by omega) _, ?_⟩
        · exact ((Below.refl w.heap.size W).grown G1.out hwz (fun j e => (World.ownsRow.lt HRow.out j e).1)).setCell (p := ⟨w.heap.size + 1, 0, none⟩) (by simp) _
        · rw [HSn.out, HF.out]; refine ownsRow_setCell ?_ KL.out (by decide) _; have := O1.out; unfold Own8 at this; rw [List.length_append] at this ⊢; exact this
        · rw [HW.out]; exact K9.out.other (by omega) _
        · exact (HB.out.grown G1.out hwz (fun j e => (World.ownsRow.lt HRow.out j e).1)).setCell (p := ⟨w.heap.size + 1, 0, none⟩) (by simp) _
    · have hxb : (x.1.2 == -1) = false := by simpa using hx
      have HR : Hid (isB x.1.2 = true) := Lib.hid (by
        rcases HXp.out with e | e
        · exact absurd e hx
        · exact e)
      have HF : Hid (fixR x.1.2 = x.1.2) := Lib.hid (by unfold fixR; rw [if_neg hx])
      have HW : Hid (wrgP (pre ++ [x]) = wrgP pre) := Lib.hid (by
        rw [HS.out, if_neg hx]
        by_cases g : wrgP pre < 0
        · rw [if_pos g, wrgP_neg g]
        · rw [if_neg g])
      clear hx
      have cL := HV.out.cell
      gi_wp2_with (refine ⟨trivial, ?_⟩; gi_at_call 27; refine (CallsIn.inRound l (callsIn_wide.2 (add_any v w.heap.size (looseI pre) x.1.2 _ HGW.out h2 hwz HRow.out (by omega) HR.out))).mono ?_; rintro e w1 ⟨v1, rfl, hown1, hgrow1⟩; obtain ⟨p1, cap1, rfl⟩ := own_form hown1; have K9 := Lib.hid (H0.out.kept hgrow1 (H0.out.not_row (by decide) HRow.out)); have KL := Lib.hid (HV.out.kept hgrow1 (HV.out.not_row (by decide) HRow.out)); have KN := Lib.hid (HN.out.kept hgrow1 (HN.out.not_row (by decide) HRow.out)); have O1 := Lib.hid hown1; have G1 := Lib.hid hgrow1; have hc1 := KL.out.cell; have hf1 := KL.out.frozen; clear hown1 hgrow1)
      refine ⟨((keeps_grown HRow.out G1.out).trans (KeepsOthers.setCell _ _ _)).from _, ⟨?_, (KN.out.other (B' := w.heap.size + 1) (by omega) _).trans HN.out.symm⟩, ⟨_, KL.out.set _, ?_, trivial⟩, ?_, KN.out.other (by omega) _, ?_⟩
      · exact ((Below.refl w.heap.size W).grown G1.out hwz (fun j e => (World.ownsRow.lt HRow.out j e).1)).setCell (p := ⟨w.heap.size + 1, 0, none⟩) (by simp) _
      · rw [HSn.out, HF.out]; refine ownsRow_setCell ?_ KL.out (by decide) _; have := O1.out; unfold Own8 at this; rw [List.length_append] at this ⊢; exact this
      · rw [HW.out]; exact K9.out.other (by omega) _
      · exact (HB.out.grown G1.out hwz (fun j e => (World.ownsRow.lt HRow.out j e).1)).setCell (p := ⟨w.heap.size + 1, 0, none⟩) (by simp) _
  case done =>
    rintro D ys W hD hy ⟨⟨v, hv, hrow, _⟩, hR, hN, hB⟩ hK
    have HLo := Lib.hid (loose_items hy)
    have HWr : Hid (wrg (prt s.data.toList) 0 = wrgP ys) := Lib.hid (by rw [wrg_its, ← hy]; rfl)
    have HRow : Hid (Own8 W w.heap.size v (looseI ys)) := Lib.hid hrow
    have hc := hv.cell
    have c0 := hR.cell
    have f0 := hR.frozen
    have HV := Lib.hid hv
    have H0 := Lib.hid hR
    have HB := Lib.hid hB
    have hd1 : w.heap.size + 1 < D := by simp at hD; omega
    have hconv := conv_own hrow
    have hconvd : (convert 41 9 v).run Tryd.prog W.drew = .ok (.string (str (looseI ys))) W.drew := conv_own (w := W.drew) (by exact hrow.drew)
    clear hy hB hv hrow hR hN
    gi_wp2
    gi_region
    all_goals gi_wp2
    have hdl : w.heap.size ≤ D := by omega
    have hK' : ((W.setCell ⟨w.heap.size, 0, none⟩ (.int .i64 (wrgP ys))).drew).heap[D]? = some (.deferred (some [])) := (KeepsOthers.setCell W ⟨w.heap.size, 0, none⟩ (.int .i64 (wrgP ys))).same D _ hK rfl
    refine ⟨by simp, .inl ⟨_, _, rfl, run_takeDeferred hK', ?_⟩⟩
    have h0 := (boxed_putObj (W := (W.setCell ⟨w.heap.size, 0, none⟩ (.int .i64 (wrgP ys))).drew) (H0.out.set (.int .i64 (wrgP ys))) (.deferred none) (show w.heap.size ≠ D by omega)).cell
    refine ⟨.tuple #[.string (str (looseI ys)), .int .i64 (wrgP ys)], ?_, ⟨by rw [HLo.out, HWr.out], ?_⟩⟩
    · simp [results, Tryd.f25, go_sem, h0]
    · exact ((HB.out.setCell (p := ⟨w.heap.size, 0, none⟩) (Nat.le_refl _) _).drew).trans (belowK_b (w := w) (Nat.le_refl _) _ D _ _ hdl hK' rfl rfl)
  case stop =>
    rintro D c pre W _ _ h _
    exact h.elim
end Go.Proofs.YtdojejkbcogjfaaDoor
