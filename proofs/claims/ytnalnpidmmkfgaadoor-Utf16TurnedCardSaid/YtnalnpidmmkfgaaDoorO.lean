/- The contract of utf16.Decode. -/
import Derived.Test.YtnalnpidmmkfgaaDoorK
import Derived.RangeFuncNested
import Derived.RangeFuncBound
import Derived.RangeFuncCalls
import Derived.RangeFuncLeaves
import Derived.RangeFuncBox
import Derived.Shelf.Abstract
import Derived.Shelf.RegionOpen
import Derived.OwnWalkIn
import Derived.TacticsInMore
import Derived.LoopNIn
import Derived.LoopIn
import Derived.Deep.AppendLies
namespace Go.Proofs.YtnalnpidmmkfgaaDoor
open Go.RowKit Go.Shelf
set_option linter.unusedVariables false
set_option linter.unusedSimpArgs false
attribute [local go_sem] Oper.semAt_some
def Dec16S (w : World) (big : Bool) (l : List UInt8) (e : Ending) (w' : World) : Prop :=
  ∃ v, e = .returned (.tuple #[.string (str (t16 big l)), v]) ∧ OwnI w' w.heap.size v (b16 big l) ∧ Below w.heap.size w w'
theorem cell_one_at (w : World) (x : Value) (t : TypeId) (H : Nat) (hH : w.heap.size = H) : ∀ j u, [x][j]? = some u → (w.alloc (.cells #[x] t)).cell? ((⟨H, 0, none⟩ : Addr).add j) = some u := by
  subst hH; exact cell_one_new w x t
set_option maxRecDepth 100000 in
set_option maxHeartbeats 4000000 in
theorem decode_any (s : ByteArray) (big : Bool) (w : World) (hg : Gl w) (hs : s.size ≤ 10000) : Calls Tryd.prog 9 #[.string s, .bool big] w fun e w' => Dec16S w big s.data.toList e w' := by
  obtain ⟨i0, hi, hz0, hz1, hz2⟩ := info_parts info3
  refine (callsIn_wide (n := 5)).1 ?_
  have h2 := hg.size
  have HGw := Lib.hid hg
  have hfew := Lib.hid (t16_few big _ s.data.toList (Nat.le_refl _))
  refine callsIn_of_wp_marks Tryd.func9 rfl trivial ?_ rfl
  simp only [Tryd.ntmps9, List.size_toArray, List.length_cons, List.length_nil, Nat.reduceAdd, Nat.reduceSub, Array.replicate_succ, Array.replicate_zero, List.push_toArray, List.append_toArray, List.nil_append, List.cons_append]
  gi_wp2_with (refine ⟨trivial, ?_⟩; gi_at_call 20; refine (scalarsU_in _ s big _).mono ?_; rintro e w' ⟨rfl, rfl⟩)
  have bR := Boxed.new w 23 (.slice none 0 0)
  have bL := Boxed.new (w.alloc (.cells #[.slice none 0 0] 23)) 23 (.slice none 0 0)
  rw [World.size_alloc] at bL
  have bN := Boxed.new ((w.alloc (.cells #[.slice none 0 0] 23)).alloc (.cells #[.slice none 0 0] 23)) 9 (.string s)
  rw [World.size_alloc, World.size_alloc] at bN
  have bG := Boxed.new (((w.alloc (.cells #[.slice none 0 0] 23)).alloc (.cells #[.slice none 0 0] 23)).alloc (.cells #[.string s] 9)) 4 (.bool big)
  rw [World.size_alloc, World.size_alloc, World.size_alloc] at bG
  have hB0 : Below w.heap.size w ((((w.alloc (.cells #[.slice none 0 0] 23)).alloc (.cells #[.slice none 0 0] 23)).alloc (.cells #[.string s] 9)).alloc (.cells #[.bool big] 4)) := ((((Below.refl _ w).alloc (Nat.le_refl _) _).alloc (by simp) _).alloc (by simp; omega) _).alloc (by simp; omega) _
  refine wpIn_rangeFunc_ownG rfl (by omega) (gf := 32) (lb := #[.pointer (some ⟨w.heap.size + 1 + 1, 0, none⟩), .pointer (some ⟨w.heap.size + 1 + 1 + 1, 0, none⟩)]) rfl trivial (enters_of Tryd.func32 (by kernel_rfl) rfl)
    (scalarsU_stops 4 (by omega) (w.heap.size + 1 + 1) (w.heap.size + 1 + 1 + 1) w.heap.size s big (by omega) _ (by omega) (by first | (simp; done) | (simp; omega)) (by first | (simp; done) | (simp; omega)) (by first | (simp; done) | (simp; omega)) (bN.alloc _).cell bG.cell) KpU.trans (kpU_b (by first | (simp; done) | (simp; omega)) (by first | (simp; done) | (simp; omega)) (by first | (simp; done) | (simp; omega))) (Below.refl _ _) (fun _ => rfl)
    (fun pre W => (∃ u v, TwoRows W w.heap.size w.heap.size (w.heap.size + 1) (badI pre) (fixI pre) u v) ∧ Boxed W (w.heap.size + 1 + 1) 9 (.string s) ∧ Boxed W (w.heap.size + 1 + 1 + 1) 4 (.bool big) ∧ Below w.heap.size w W)
    (fun _ _ _ => False)
    (OwnFrom.and (Own.from (two_own w.heap.size w.heap.size (w.heap.size + 1) badI fixI) _) (OwnFrom.and (Own.from (boxed_own _ _ _) _) (OwnFrom.and (Own.from (boxed_own _ _ _) _) (ownFrom_below (Nat.le_refl _) (by simp; omega)))))
    (fun _ _ _ _ _ hs _ _ => hs)
    ⟨⟨_, _, ⟨((bR.alloc _).alloc _).alloc _, (bL.alloc _).alloc _, World.ownsRow_nil _ _ _ _, World.ownsRow_nil _ _ _ _, fun g e => by cases e⟩⟩, bN.alloc _, bG, hB0⟩
    (fun x => { tmps := #[.string s, .bool big, undef, undef, .string { data := #[] }, .pointer (some ⟨w.heap.size, 0, none⟩), .pointer (some ⟨w.heap.size + 1, 0, none⟩), .int .i64 (x.1.1 : Int), .int .i64 x.1.2, .string s, .bool big, .func (.func 32) #[] #[.pointer (some ⟨w.heap.size + 1 + 1, 0, none⟩), .pointer (some ⟨w.heap.size + 1 + 1 + 1, 0, none⟩)], .int .i64 (x.1.1 : Int), .int .i64 x.1.2, undef, undef, undef, undef, undef, undef, undef, undef, undef, undef, undef, undef, undef, undef, undef, undef, undef], defers := [] }) ?assign ?body ?done ?stop
  case assign =>
    intro l x W K hK
    simp only [encI]
    gi_wp2
    exact hK
  case body =>
    rintro l pre x W ⟨⟨u, v, hT⟩, hN, hG, hB⟩ hlt
    have HB := Lib.hid hB
    have hwz := hB.size
    have HT := Lib.hid hT
    have HN := Lib.hid hN
    have HG := Lib.hid hG
    have ca := hT.ba.cell
    have cb := hT.bb.cell
    have hbl := badI_len pre
    have hfl : (fixI pre).length ≤ pre.length := Nat.le_of_eq (fixI_len pre)
    clear hB hT hN hG
    by_cases hx : x.1.2 = -1
    · have hxb : (x.1.2 == -1) = true := by simpa using hx
      have HX := Lib.hid (badI_bad pre x hx)
      have HF : Hid (fixI (pre ++ [x]) = fixI pre ++ [65533]) := Lib.hid (by rw [fixI_snoc, hx]; rfl)
      clear hx
      gi_wp2_with (first
        | (gi_at_builtin; refine wpListIn_append_lies _ rfl _ _ 23 rfl w.heap.size 3 i0 (.int .i64 0) 1 8 Tryd.underlying23 hi hz0 hz1 hz2 rfl (by decide) u (badI pre).length ((badI pre).map (Value.int .i64)) rfl (HT.out.ra.alloc _) ⟨W.heap.size, 0, none⟩ 1 1 [.int .i64 (x.1.1 : Int)] rfl rfl (cell_one_new _ _ _) (by simp [Value.oneCell']) (by omega) (by unfold maxLen; omega) (by omega) (by simp; omega) (W.heap.size + 1) (by simp) ?_; intro g1 cap1 w1 hown1 hgrow1 hat1 hlt1; obtain ⟨⟨c1, f1⟩, t1, k1, b1, o1⟩ := HT.out.symm.app (by omega) (by omega) (by omega) hown1 hgrow1 hat1; have HT1 := Lib.hid t1.symm; have K1 := Lib.hid k1; have B1 := Lib.hid b1; have O1 := Lib.hid o1; have cb1 := t1.ba.cell; have hwz1 : W.heap.size ≤ w1.heap.size := (by have := b1.size; simpa using this); clear hown1 hgrow1 hat1 t1 k1 b1 o1)
        | (gi_at_builtin; refine wpListIn_append_lies _ rfl _ _ 23 rfl w.heap.size 3 i0 (.int .i64 0) 1 8 Tryd.underlying23 hi hz0 hz1 hz2 rfl (by decide) v (fixI pre).length ((fixI pre).map (Value.int .i64)) rfl (HT1.out.rb.alloc _) ⟨w1.heap.size, 0, none⟩ 1 1 [.int .i64 65533] rfl rfl (cell_one_at _ _ _ _ (by simp)) (by simp [Value.oneCell']) (by omega) (by unfold maxLen; omega) (by omega) (by simp; omega) (w1.heap.size + 1) (by simp) ?_; intro g2 cap2 w2 hown2 hgrow2 hat2 hlt2; obtain ⟨⟨c2, f2⟩, t2, k2, b2, o2⟩ := HT1.out.app (by simp; omega) (by omega) (by omega) hown2 hgrow2 (by simpa using hat2); have HT2 := Lib.hid t2; have K2 := Lib.hid k2; have B2 := Lib.hid b2; have O2 := Lib.hid o2; clear hown2 hgrow2 hat2 t2 k2 b2 o2))
      have KN := Lib.hid (O2.out _ 9 _ (by decide) (by omega) (O1.out (w.heap.size + 1 + 1) 9 _ (by decide) (by omega) HN.out))
      have KG := Lib.hid (O2.out _ 4 _ (by decide) (by omega) (O1.out (w.heap.size + 1 + 1 + 1) 4 _ (by decide) (by omega) HG.out))
      refine ⟨(K1.out.trans K2.out).from _, ⟨B1.out.trans B2.out, KN.out.trans HN.out.symm, KG.out.trans HG.out.symm⟩, ⟨_, _, by rw [HX.out, HF.out]; exact HT2.out⟩, KN.out, KG.out, (HB.out.trans B1.out).trans B2.out⟩
    · have hxb : (x.1.2 == -1) = false := by simpa using hx
      have HX := Lib.hid (badI_good pre x hx)
      have HF : Hid (fixI (pre ++ [x]) = fixI pre ++ [x.1.2]) := Lib.hid (by rw [fixI_snoc]; unfold fixR; rw [if_neg hx])
      clear hx
      gi_wp2_with (gi_at_builtin; refine wpListIn_append_lies _ rfl _ _ 23 rfl w.heap.size 3 i0 (.int .i64 0) 1 8 Tryd.underlying23 hi hz0 hz1 hz2 rfl (by decide) v (fixI pre).length ((fixI pre).map (Value.int .i64)) rfl (HT.out.rb.alloc _) ⟨W.heap.size, 0, none⟩ 1 1 [.int .i64 x.1.2] rfl rfl (cell_one_new _ _ _) (by simp [Value.oneCell']) (by omega) (by unfold maxLen; omega) (by omega) (by simp; omega) (W.heap.size + 1) (by simp) ?_; intro g2 cap2 w2 hown2 hgrow2 hat2 hlt2; obtain ⟨⟨c2, f2⟩, t2, k2, b2, o2⟩ := HT.out.app (by omega) (by omega) (by omega) hown2 hgrow2 hat2; have HT2 := Lib.hid t2; have K2 := Lib.hid k2; have B2 := Lib.hid b2; have O2 := Lib.hid o2; clear hown2 hgrow2 hat2 t2 k2 b2 o2)
      have KN := Lib.hid (O2.out (w.heap.size + 1 + 1) 9 _ (by decide) (by omega) HN.out)
      have KG := Lib.hid (O2.out (w.heap.size + 1 + 1 + 1) 4 _ (by decide) (by omega) HG.out)
      refine ⟨K2.out.from _, ⟨B2.out, KN.out.trans HN.out.symm, KG.out.trans HG.out.symm⟩, ⟨_, _, by rw [HX.out, HF.out]; exact HT2.out⟩, KN.out, KG.out, HB.out.trans B2.out⟩
  case done =>
    rintro D ys W hD hy ⟨⟨u, v, hT⟩, hN, hG, hB⟩ hK
    have HBI := Lib.hid (bad_items hy)
    have HFI := Lib.hid (fix_items hy)
    have hwz := hB.size
    have hDl : D < W.heap.size := (Array.getElem?_eq_some_iff.1 hK).1
    have HK := Lib.hid hK
    have HT := Lib.hid hT
    have HB := Lib.hid hB
    obtain ⟨p, cap, rfl⟩ := own_form hT.rb
    obtain ⟨p2, cap2, rfl⟩ := own_form hT.ra
    have ca := hT.ba.cell
    have cb := hT.bb.cell
    have hd1 : w.heap.size + 1 < D := by simp at hD; omega
    have hdl : w.heap.size ≤ D := by omega
    have hx : allB (fixI ys) = true := by rw [fix_items hy]; exact x16_all _ _
    have hfl : (fixI ys).length ≤ 10000 := by rw [fix_items hy]; have := hfew.out; have e : s.data.toList.length = s.size := by simp
                                              omega
    have hTx := text_any _ (fixI ys) W (HGw.out.below' hB) (ints_of_own hT.rb) hfl
    unfold TextS at hTx
    rw [hx, if_pos rfl] at hTx
    have HTx := Lib.hid hTx
    clear hy hB hT hN hG hK hx hfl hTx
    gi_wp2_with (refine ⟨trivial, ?_⟩; gi_at_call 21; refine (callsIn_wide.2 HTx.out).mono ?_; rintro e w1 ⟨rfl, hb1⟩; have HB1 := Lib.hid hb1; have ca1 := (hb1.cell (p := ⟨w.heap.size, 0, none⟩) HT.out.ba.lt).trans ca; have HT1 : Hid (Boxed w1 w.heap.size 23 (.slice p2 (badI ys).length cap2)) := Lib.hid ((hb1.block _ HT.out.ba.lt).trans HT.out.ba); have cf1 := HT1.out.frozen; clear hb1)
    gi_region
    all_goals gi_wp2
    have hKw1 : w1.heap[D]? = some (.deferred (some [])) := (HB1.out.block _ hDl).trans HK.out
    have hrow1 : w1.ownsRow w.heap.size 3 1 (.slice p2 (badI ys).length cap2) (badI ys).length ((badI ys).map (Value.int .i64)) := World.ownsRow.kept HT.out.ra (row := none) ⟨HB1.out.os, HB1.out.tape, HB1.out.output, HB1.out.size, fun j hj _ => HB1.out.block j hj⟩ (by cases (Value.slice p2 (badI ys).length cap2).ownBlock <;> simp)
    have hrow2 : ((w1.setCell ⟨w.heap.size, 0, none⟩ (.slice p2 (badI ys).length cap2)).drew).ownsRow w.heap.size 3 1 (.slice p2 (badI ys).length cap2) (badI ys).length ((badI ys).map (Value.int .i64)) := (ownsRow_setCell hrow1 HT1.out (by decide) _).drew
    have hK' : ((w1.setCell ⟨w.heap.size, 0, none⟩ (.slice p2 (badI ys).length cap2)).drew).heap[D]? = some (.deferred (some [])) := (KeepsOthers.setCell w1 ⟨w.heap.size, 0, none⟩ (.slice p2 (badI ys).length cap2)).same D _ hKw1 rfl
    refine ⟨by simp, .inl ⟨_, _, rfl, run_takeDeferred hK', ?_⟩⟩
    have h0 := (boxed_putObj (W := (w1.setCell ⟨w.heap.size, 0, none⟩ (.slice p2 (badI ys).length cap2)).drew) (HT1.out.set (.slice p2 (badI ys).length cap2)) (.deferred none) (show w.heap.size ≠ D by omega)).cell
    refine ⟨.tuple #[.string (str (encs (fixI ys))), .slice p2 (badI ys).length cap2], ?_, ⟨_, by rw [HFI.out]; rfl, ?_, ?_⟩⟩
    · simp [results, Tryd.f9, go_sem, h0]
    · rw [← HBI.out]; exact ownsRow_putObj hrow2 (.deferred none) hK' rfl
    · exact (((HB.out.trans (HB1.out.mono hwz)).setCell (p := ⟨w.heap.size, 0, none⟩) (Nat.le_refl _) _).drew).trans (belowK_b (w := w) (Nat.le_refl _) _ D _ _ hdl hK' rfl rfl)
  case stop =>
    rintro D c pre W _ _ h _
    exact h.elim
end Go.Proofs.YtnalnpidmmkfgaaDoor
