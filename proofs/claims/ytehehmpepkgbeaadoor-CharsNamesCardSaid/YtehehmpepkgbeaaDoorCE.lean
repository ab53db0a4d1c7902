/- The contract of name. -/
import Derived.Test.YtehehmpepkgbeaaDoorCD
import Derived.Test.YtehehmpepkgbeaaDoorCHS
namespace Go.Proofs.YtehehmpepkgbeaaDoor.Chr
open Go.RowKit Go.Shelf
set_option linter.unusedVariables false
set_option linter.unusedSimpArgs false
attribute [local go_sem] Oper.semAt_some
theorem pcontains_any (v : Value) (ls : List Int) (r : Int) (w : World) (hI : Ints w v ls) (hl : ls.length ≤ 100000) : Calls Tryd.prog 43 #[v, .int .i64 r] w fun e w' => e = .returned (.bool (ls.contains r)) ∧ w' = w := by
  rcases hI with ⟨rfl, p, cap, rfl⟩ | ⟨b, off, cap, rfl, hb, hc⟩
  · exact Tryd.slices_Contains_int_empty p cap r w
  · have := Tryd.slices_Contains_int b off ls.length cap ls r w (Nat.le_refl _) (by omega) (fun j hj => by
      rw [hc j hj]; simp [List.getD, hj])
    rwa [List.take_length] at this
theorem ints_below {n : Nat} {w w' : World} {v : Value} {xs : List Int} (h : Ints w v xs) (hb : Below w.heap.size w w') : Ints w' v xs := h.below hb
theorem no_fn (P : FuncId → Prop) : ∀ f, (none : Option FuncId) = some f → P f := fun f h => by cases h
theorem nm_stop0 {ls : List Int} {r : Int} (h : fstC r = false) : nmQ ls 0 r = false := by unfold nmQ; rw [h]; rfl
theorem nm_go0 {ls : List Int} {r : Int} (h : fstC r = true) : nmQ ls 0 r = true := by unfold nmQ; rw [h, fst_fur h]; rfl
theorem nm_go {ls : List Int} {a : Nat} {r : Int} (ha : a ≠ 0) (h : furC r = true) : nmQ ls a r = true := by unfold nmQ; rw [decide_eq_false ha, h]; rfl
theorem nm_link {ls : List Int} {a : Nat} {r : Int} (ha : a ≠ 0) (h : furC r = false) (hl : ls.contains r = true) : nmQ ls a r = true := by unfold nmQ; rw [decide_eq_false ha, h, hl]; rfl
theorem nm_stop {ls : List Int} {a : Nat} {r : Int} (ha : a ≠ 0) (h : furC r = false) (hl : ls.contains r = false) : nmQ ls a r = false := by unfold nmQ; rw [decide_eq_false ha, h, hl]; rfl
set_option maxRecDepth 100000 in
set_option maxHeartbeats 8000000 in
theorem pname_any (s : ByteArray) (v : Value) (ls : List Int) (w : World) (hg : Gl w) (hs : s.size ≤ 100000) (hI : Ints w v ls) (hl : ls.length ≤ 100000) (hneg : ls.contains (-1) = false) : Calls Tryd.prog 35 #[.string s, v] w fun e w' => RetI (goQ (nmQ ls) (prt s.data.toList) 0 : Nat) w e w' := by
  have HF : Hid (∀ r w, Calls Tryd.prog 13 #[.int .i64 r] w fun e w' => RetB (fstC r) w e w') := Lib.hid fun r w => pfirst_any r w
  have HU : Hid (∀ r w, Calls Tryd.prog 15 #[.int .i64 r] w fun e w' => RetB (furC r) w e w') := Lib.hid fun r w => pfurther_any r w
  have HCN : Hid (∀ r W, Below w.heap.size w W → Calls Tryd.prog 43 #[v, .int .i64 r] W fun e w' => e = .returned (.bool (ls.contains r)) ∧ w' = W) := Lib.hid fun r W hb => pcontains_any v ls r W (hI.below hb) hl
  have HNEG := Lib.hid (nmQ_no hneg)
  refine (callsIn_wide (n := 5)).1 ?_
  have h2 := hg.size
  have bR0 := Boxed.new w 39 v
  have bR1 := Boxed.new (w.alloc (.cells #[v] 39)) 3 (.int .i64 0)
  rw [World.size_alloc] at bR1
  have bN := Boxed.new ((w.alloc (.cells #[v] 39)).alloc (.cells #[.int .i64 0] 3)) 9 (.string s)
  rw [World.size_alloc, World.size_alloc] at bN
  have hB0 : Below w.heap.size w (((w.alloc (.cells #[v] 39)).alloc (.cells #[.int .i64 0] 3)).alloc (.cells #[.string s] 9)) := (((Below.refl _ w).alloc (Nat.le_refl _) _).alloc (by simp) _).alloc (by simp; omega) _
  obtain ⟨vp, vl, vc, hv⟩ : ∃ p n c, v = .slice p n c := by
    rcases hI with ⟨_, p, cap, h⟩ | ⟨b, off, cap, h, _, _⟩
    · exact ⟨p, 0, cap, h⟩
    · exact ⟨_, _, cap, h⟩
  clear hI hl hneg
  subst hv
  refine callsIn_of_wp_marks Tryd.func35 rfl trivial ?_ rfl
  simp only [Tryd.ntmps35, List.size_toArray, List.length_cons, List.length_nil, Nat.reduceAdd, Nat.reduceSub, Array.replicate_succ, Array.replicate_zero, List.push_toArray, List.append_toArray, List.nil_append, List.cons_append]
  gi_wp2_with (refine ⟨trivial, ?_⟩; gi_at_call 42; refine (cscalars_in _ s _).mono ?_; rintro e w' ⟨rfl, rfl⟩)
  refine wpIn_rangeFunc_ownG rfl (by omega) (gf := 48) (lb := #[.pointer (some ⟨w.heap.size + 1 + 1, 0, none⟩)]) rfl trivial (enters_of Tryd.func48 (by kernel_rfl) rfl)
    (cscalars_stops 4 (by omega) (w.heap.size + 1 + 1) w.heap.size s hs _ (hg.below' hB0) (by omega) (by simp) (by simp; omega) bN.cell) KpS.trans (kpS_b (by simp; omega) (by simp)) (Below.refl _ _) (fun _ => rfl)
    (fun pre W => (∀ p ∈ pre, nmQ ls p.1.1 p.1.2 = true) ∧ Boxed W w.heap.size 39 (.slice vp vl vc) ∧ Boxed W (w.heap.size + 1) 3 (.int .i64 0) ∧ Boxed W (w.heap.size + 1 + 1) 9 (.string s) ∧ Below w.heap.size w W)
    (fun c pre W => ∃ t x, (c = .ret ∧ pre = t ++ [x] ∧ nmQ ls x.1.1 x.1.2 = false ∧ ∀ p ∈ t, nmQ ls p.1.1 p.1.2 = true) ∧ Boxed W (w.heap.size + 1) 3 (.int .i64 (x.1.1 : Int)) ∧ Below w.heap.size w W)
    (OwnFrom.and (ownFrom_pure _ _) (OwnFrom.and (Own.from (boxed_own _ _ _) _) (OwnFrom.and (Own.from (boxed_own _ _ _) _) (OwnFrom.and (Own.from (boxed_own _ _ _) _) (ownFrom_below (Nat.le_refl _) (by simp; omega))))))
    ?ixown
    ⟨by simp, (bR0.alloc _).alloc _, bR1.alloc _, bN, hB0⟩
    (fun x => { tmps := #[.string s, .slice vp vl vc, undef, .pointer (some ⟨w.heap.size, 0, none⟩), .pointer (some ⟨w.heap.size + 1, 0, none⟩), .int .i64 (x.1.1 : Int), .int .i64 x.1.2, .string s, .func (.func 48) #[] #[.pointer (some ⟨w.heap.size + 1 + 1, 0, none⟩)], .int .i64 (x.1.1 : Int), .int .i64 x.1.2, undef, undef, undef, undef, undef, undef, undef, undef, undef, undef, undef, undef, undef, undef, undef, undef, undef, undef, undef, undef, undef], defers := [] }) ?assign ?body ?done ?stop
  case ixown =>
    intro c s' A B row hs hg hr
    obtain ⟨t, x, h1, h2, h3⟩ := hs
    exact ⟨t, x, h1, (OwnFrom.and (Own.from (boxed_own _ _ _) _) (ownFrom_below (Nat.le_refl _) (by simp; omega)) : OwnFrom _ (fun (_ : List Item) W => Boxed W (w.heap.size + 1) 3 (.int .i64 (x.1.1 : Int)) ∧ Below w.heap.size w W)) s' A B row ⟨h2, h3⟩ hg hr⟩
  case assign =>
    intro l x W K hK
    simp only [encI]
    gi_wp2
    exact hK
  case body =>
    rintro l pre x W ⟨hp, hb0, hb1, hbn, hB⟩ _
    have HQ := Lib.hid hp
    have HB := Lib.hid hB
    have H0 := Lib.hid hb0
    have H1 := Lib.hid hb1
    have HN := Lib.hid hbn
    clear hp hB hb0 hb1 hbn
    obtain ⟨a, ha⟩ : ∃ a, x.1.1 = a := ⟨_, rfl⟩
    obtain ⟨r, hr⟩ : ∃ r, x.1.2 = r := ⟨_, rfl⟩
    rw [ha, hr]
    have HXA := Lib.hid ha
    have HXR := Lib.hid hr
    have HFx := Lib.hid (HF.out r)
    have HUx := Lib.hid (HU.out r)
    have HCx := Lib.hid (HCN.out r)
    clear ha hr HF HU HCN
    by_cases hz : a = 0
    · subst hz
      have hz1 : ((((0 : Nat) : Int)) == 0) = true := rfl
      cases hf : fstC r with
      | true =>
        rw [hf] at HFx
        rw [fst_fur hf] at HUx
        have HX : Hid (nmQ ls x.1.1 x.1.2 = true) := Lib.hid (by rw [HXA.out, HXR.out]; exact nm_go0 hf)
        clear hf
        gi_wp2_with (first
          | (refine ⟨trivial, ?_⟩; gi_at_call 13; refine (callsIn_wide.2 (HFx.out _)).mono ?_; rintro e w4 ⟨rfl, hb4⟩; have HB4 := Lib.hid hb4; clear hb4)
          | (refine ⟨trivial, ?_⟩; gi_at_call 15; refine (callsIn_wide.2 (HUx.out _)).mono ?_; rintro e w5 ⟨rfl, hb5⟩; have HB5 := Lib.hid (below_call HB4.out hb5); have HB6 := Lib.hid (below_call HB.out HB5.out); clear hb5)
          | (refine ⟨trivial, ?_⟩))
        exact ⟨keeps_below HB5.out, kpS_below HB5.out HB.out.size (boxed_lt HN.out), fun q hq => (List.mem_append.1 hq).elim (HQ.out q) (fun e => by simp at e; subst e; exact HX.out), boxed_below H0.out HB5.out, boxed_below H1.out HB5.out, boxed_below HN.out HB5.out, HB6.out⟩
      | false =>
        rw [hf] at HFx
        have HX : Hid (nmQ ls x.1.1 x.1.2 = false) := Lib.hid (by rw [HXA.out, HXR.out]; exact nm_stop0 hf)
        have HA0 : Hid ((0 : Int) = ((x.1.1 : Nat) : Int)) := Lib.hid (by rw [HXA.out]; rfl)
        clear hf
        gi_wp2_with (first
          | (refine ⟨trivial, ?_⟩; gi_at_call 13; refine (callsIn_wide.2 (HFx.out _)).mono ?_; rintro e w5 ⟨rfl, hb5⟩; have HB5 := Lib.hid hb5; have HB6 := Lib.hid (below_call HB.out HB5.out); have K1 := Lib.hid (boxed_below H1.out HB5.out); have c1 := K1.out.cell; have f1 := K1.out.frozen; clear hb5)
          | (refine ⟨trivial, ?_⟩))
        exact ⟨(keeps_below HB5.out).trans ((KeepsOthers.setCell _ _ _).from _), _, x, ⟨rfl, rfl, HX.out, HQ.out⟩, by rw [← HA0.out]; exact K1.out.set _, HB6.out.setCell (p := ⟨w.heap.size + 1, 0, none⟩) (by simp) _⟩
    · have hz1 : ((a : Int) == 0) = false := by simpa using hz
      cases hf : furC r with
      | true =>
        rw [hf] at HUx
        have HX : Hid (nmQ ls x.1.1 x.1.2 = true) := Lib.hid (by rw [HXA.out, HXR.out]; exact nm_go hz hf)
        clear hf hz
        gi_wp2_with (first
          | (refine ⟨trivial, ?_⟩; gi_at_call 15; refine (callsIn_wide.2 (HUx.out _)).mono ?_; rintro e w5 ⟨rfl, hb5⟩; have HB5 := Lib.hid hb5; have HB6 := Lib.hid (below_call HB.out HB5.out); clear hb5)
          | (refine ⟨trivial, ?_⟩))
        exact ⟨keeps_below HB5.out, kpS_below HB5.out HB.out.size (boxed_lt HN.out), fun q hq => (List.mem_append.1 hq).elim (HQ.out q) (fun e => by simp at e; subst e; exact HX.out), boxed_below H0.out HB5.out, boxed_below H1.out HB5.out, boxed_below HN.out HB5.out, HB6.out⟩
      | false =>
        rw [hf] at HUx
        cases hc : ls.contains r with
        | true =>
          rw [hc] at HCx
          have HX : Hid (nmQ ls x.1.1 x.1.2 = true) := Lib.hid (by rw [HXA.out, HXR.out]; exact nm_link hz hf hc)
          clear hf hz hc
          gi_wp2_with (first
          | (refine ⟨trivial, ?_⟩; gi_at_call 15; refine (callsIn_wide.2 (HUx.out _)).mono ?_; rintro e w5 ⟨rfl, hb5⟩; have HB5 := Lib.hid hb5; have HB6 := Lib.hid (below_call HB.out HB5.out); have c0 := (boxed_below H0.out HB5.out).cell; clear hb5)
          | (refine ⟨trivial, ?_⟩; gi_at_call 43; refine (callsIn_wide.2 (HCx.out _ HB6.out)).mono ?_; rintro e w7 ⟨rfl, hw7⟩; subst w7)
          | (refine ⟨trivial, ?_⟩))
          exact ⟨keeps_below HB5.out, kpS_below HB5.out HB.out.size (boxed_lt HN.out), fun q hq => (List.mem_append.1 hq).elim (HQ.out q) (fun e => by simp at e; subst e; exact HX.out), boxed_below H0.out HB5.out, boxed_below H1.out HB5.out, boxed_below HN.out HB5.out, HB6.out⟩
        | false =>
          rw [hc] at HCx
          have HX : Hid (nmQ ls x.1.1 x.1.2 = false) := Lib.hid (by rw [HXA.out, HXR.out]; exact nm_stop hz hf hc)
          have HA0 : Hid ((a : Int) = ((x.1.1 : Nat) : Int)) := Lib.hid (by rw [HXA.out])
          clear hf hz hc
          gi_wp2_with (first
          | (refine ⟨trivial, ?_⟩; gi_at_call 15; refine (callsIn_wide.2 (HUx.out _)).mono ?_; rintro e w5 ⟨rfl, hb5⟩; have HB5 := Lib.hid hb5; have HB6 := Lib.hid (below_call HB.out HB5.out); have c0 := (boxed_below H0.out HB5.out).cell; have K1 := Lib.hid (boxed_below H1.out HB5.out); have c1 := K1.out.cell; have f1 := K1.out.frozen; clear hb5)
          | (refine ⟨trivial, ?_⟩; gi_at_call 43; refine (callsIn_wide.2 (HCx.out _ HB6.out)).mono ?_; rintro e w7 ⟨rfl, hw7⟩; subst w7)
          | (refine ⟨trivial, ?_⟩))
          exact ⟨(keeps_below HB5.out).trans ((KeepsOthers.setCell _ _ _).from _), _, x, ⟨rfl, rfl, HX.out, HQ.out⟩, by rw [← HA0.out]; exact K1.out.set _, HB6.out.setCell (p := ⟨w.heap.size + 1, 0, none⟩) (by simp) _⟩
  case done =>
    rintro D ys W hD hy ⟨hne, hb0, hb1, hbn, hB⟩ hK
    have HN := Lib.hid (items_all HNEG.out hy hne)
    have HB := Lib.hid hB
    have H1 := Lib.hid hb1
    have c1 := hb1.cell
    have f1 := hb1.frozen
    have hlen : s.data.toList.length = s.size := by simp
    have HLN := Lib.hid hlen
    have hd1 : w.heap.size + 1 < D := by simp at hD; omega
    clear hy hne hb0 hb1 hbn hB hlen
    gi_wp2
    have hK' := (KeepsOthers.setCell W ⟨w.heap.size + 1, 0, none⟩ (.int .i64 (s.size : Int))).same D _ hK rfl
    have h1 := (boxed_put (H1.out.set (.int .i64 (s.size : Int))) (.deferred none) (show w.heap.size + 1 ≠ D by omega)).cell
    refine ⟨by simp, .inl ⟨_, _, rfl, run_takeDeferred hK', ?_⟩⟩
    refine ⟨.int .i64 (s.size : Int), ?_, by rw [HN.out, HLN.out], (HB.out.setCell (p := ⟨w.heap.size + 1, 0, none⟩) (by simp) _).trans (belowK_b (w := w) (Nat.le_refl _) _ D _ _ (by omega) hK' rfl rfl)⟩
    simp [results, Tryd.f35, go_sem, h1]
  case stop =>
    rintro D c pre W hD hsp ⟨t, x, ⟨rfl, rfl, hx, ht⟩, hb1, hB⟩ hK
    have HN := Lib.hid (items_one HNEG.out hsp ht hx)
    have HB := Lib.hid hB
    have H1 := Lib.hid hb1
    have hd1 : w.heap.size + 1 < D := by simp at hD; omega
    clear hsp hx ht hb1 hB
    gi_wp2
    refine ⟨by simp, .inl ⟨_, _, rfl, run_takeDeferred hK, ?_⟩⟩
    have h1 := (boxed_put H1.out (.deferred none) (show w.heap.size + 1 ≠ D by omega)).cell
    refine ⟨.int .i64 (x.1.1 : Int), ?_, by rw [HN.out], HB.out.trans (belowK_b (w := w) (Nat.le_refl _) W D _ _ (by omega) hK rfl rfl)⟩
    simp [results, Tryd.f35, go_sem, h1]
end Go.Proofs.YtehehmpepkgbeaaDoor.Chr
