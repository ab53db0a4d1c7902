/- The contract of run, at the kinds that it is called with. -/
import Derived.Test.YtehehmpepkgbeaaDoorCC
namespace Go.Proofs.YtehehmpepkgbeaaDoor.Chr
open Go.RowKit Go.Shelf
set_option linter.unusedVariables false
set_option linter.unusedSimpArgs false
attribute [local go_sem] Oper.semAt_some
theorem keeps_below {B : Nat} {W W' : World} (hb : Below W.heap.size W W') : KeepsFrom B W W' := ⟨hb.size, fun k o _ hk ho => (hb.block k (by rcases Nat.lt_or_ge k W.heap.size with h | h; exact h; rw [Array.getElem?_eq_none h] at hk; cases hk)).trans hk⟩
theorem boxed_lt {W : World} {B : Nat} {t : TypeId} {v : Value} (h : Boxed W B t v) : B < W.heap.size := World.block_lt_of_cell? W ⟨B, 0, none⟩ h.cell
theorem boxed_below {W W' : World} {B : Nat} {t : TypeId} {v : Value} (h : Boxed W B t v) (hb : Below W.heap.size W W') : Boxed W' B t v := (hb.block _ (boxed_lt h)).trans h
theorem kpS_below {n₀ Bs : Nat} {W W' : World} (hb : Below W.heap.size W W') (hn : n₀ ≤ W.heap.size) (hB : Bs < W.heap.size) : KpS n₀ Bs W W' := ⟨hb.mono hn, hb.block _ hB⟩
theorem boxed_put {W : World} {B D : Nat} {t : TypeId} {v : Value} (h : Boxed W B t v) (o : Obj) (hne : B ≠ D) : Boxed (W.putObj D o) B t v :=
  h.kept (grownBy_putObj' W D o) (fun e => hne (by cases e; rfl))
/-- All items are of the kind; the last one alone is not. -/
theorem items_all {Q : Nat → Int → Bool} (hQ : ∀ a, Q a (-1) = false) {l : List UInt8} {ys : List Item} (h : ys.map (·.1) = itC l 0) (hp : ∀ p ∈ ys, Q p.1.1 p.1.2 = true) : goQ Q (prt l) 0 = l.length := by
  rw [goQ_all hQ _ l 0 (Nat.le_refl _) (fun p hp' => by
    rw [← h] at hp'
    obtain ⟨y, hy, rfl⟩ := List.mem_map.1 hp'
    exact hp y hy), Nat.zero_add]
theorem items_one {Q : Nat → Int → Bool} (hQ : ∀ a, Q a (-1) = false) {l : List UInt8} {t : List Item} {x : Item} (h : ∃ u, itC l 0 = (t ++ [x]).map (·.1) ++ u) (hp : ∀ p ∈ t, Q p.1.1 p.1.2 = true) (hx : Q x.1.1 x.1.2 = false) : goQ Q (prt l) 0 = x.1.1 := by
  obtain ⟨u, hu⟩ := h
  refine goQ_stop hQ (t.map (·.1)) l 0 x.1 u (by rw [hu]; simp) (fun p hp' => ?_) hx
  obtain ⟨y, hy, rfl⟩ := List.mem_map.1 hp'
  exact hp y hy
set_option maxRecDepth 100000 in
set_option maxHeartbeats 4000000 in
theorem prun_char (s : ByteArray) (w : World) (hg : Gl w) (hs : s.size ≤ 100000) : Calls Tryd.prog 37 #[.string s, .func (.func 9) #[] #[]] w fun e w' => RetI (goQ chrQ (prt s.data.toList) 0 : Nat) w e w' := by
  have HC : Hid (∀ r w, Calls Tryd.prog 9 #[.int .i64 r] w fun e w' => RetB (chr r) w e w') := Lib.hid fun r w => pchar_any r w
  refine (callsIn_wide (n := 5)).1 ?_
  have h2 := hg.size
  have bR0 := Boxed.new w 22 (.func (.func 9) #[] #[])
  have bR1 := Boxed.new (w.alloc (.cells #[.func (.func 9) #[] #[]] 22)) 3 (.int .i64 0)
  rw [World.size_alloc] at bR1
  have bN := Boxed.new ((w.alloc (.cells #[.func (.func 9) #[] #[]] 22)).alloc (.cells #[.int .i64 0] 3)) 9 (.string s)
  rw [World.size_alloc, World.size_alloc] at bN
  have hB0 : Below w.heap.size w (((w.alloc (.cells #[.func (.func 9) #[] #[]] 22)).alloc (.cells #[.int .i64 0] 3)).alloc (.cells #[.string s] 9)) := (((Below.refl _ w).alloc (Nat.le_refl _) _).alloc (by simp) _).alloc (by simp; omega) _
  refine callsIn_of_wp_marks Tryd.func37 rfl trivial ?_ rfl
  simp only [Tryd.ntmps37, List.size_toArray, List.length_cons, List.length_nil, Nat.reduceAdd, Nat.reduceSub, Array.replicate_succ, Array.replicate_zero, List.push_toArray, List.append_toArray, List.nil_append, List.cons_append]
  gi_wp2_with (refine ⟨trivial, ?_⟩; gi_at_call 42; refine (cscalars_in _ s _).mono ?_; rintro e w' ⟨rfl, rfl⟩)
  refine wpIn_rangeFunc_ownG rfl (by omega) (gf := 48) (lb := #[.pointer (some ⟨w.heap.size + 1 + 1, 0, none⟩)]) rfl trivial (enters_of Tryd.func48 (by kernel_rfl) rfl)
    (cscalars_stops 4 (by omega) (w.heap.size + 1 + 1) w.heap.size s hs _ (hg.below' hB0) (by omega) (by simp) (by simp; omega) bN.cell) KpS.trans (kpS_b (by simp; omega) (by simp)) (Below.refl _ _) (fun _ => rfl)
    (fun pre W => (∀ p ∈ pre, chrQ p.1.1 p.1.2 = true) ∧ Boxed W w.heap.size 22 (.func (.func 9) #[] #[]) ∧ Boxed W (w.heap.size + 1) 3 (.int .i64 0) ∧ Boxed W (w.heap.size + 1 + 1) 9 (.string s) ∧ Below w.heap.size w W)
    (fun c pre W => ∃ t x, (c = .ret ∧ pre = t ++ [x] ∧ chrQ x.1.1 x.1.2 = false ∧ ∀ p ∈ t, chrQ p.1.1 p.1.2 = true) ∧ Boxed W (w.heap.size + 1) 3 (.int .i64 (x.1.1 : Int)) ∧ Below w.heap.size w W)
    (OwnFrom.and (ownFrom_pure _ _) (OwnFrom.and (Own.from (boxed_own _ _ _) _) (OwnFrom.and (Own.from (boxed_own _ _ _) _) (OwnFrom.and (Own.from (boxed_own _ _ _) _) (ownFrom_below (Nat.le_refl _) (by simp; omega))))))
    ?ixown
    ⟨by simp, (bR0.alloc _).alloc _, bR1.alloc _, bN, hB0⟩
    (fun x => { tmps := #[.string s, .func (.func 9) #[] #[], undef, .pointer (some ⟨w.heap.size, 0, none⟩), .pointer (some ⟨w.heap.size + 1, 0, none⟩), .int .i64 (x.1.1 : Int), .int .i64 x.1.2, .string s, .func (.func 48) #[] #[.pointer (some ⟨w.heap.size + 1 + 1, 0, none⟩)], .int .i64 (x.1.1 : Int), .int .i64 x.1.2, undef, undef, undef, undef, undef, undef, undef], defers := [] }) ?assign ?body ?done ?stop
  case ixown =>
    intro c s' A B row hs hg hr
    obtain ⟨t, x, h1, h2, h3⟩ := hs
    exact ⟨t, x, h1, (OwnFrom.and (Own.from (boxed_own _ _ _) _) (ownFrom_below (Nat.le_refl _) (by simp; omega)) : OwnFrom _ (fun (_ : List Item) W => Boxed W (w.heap.size + 1) 3 (.int .i64 (x.1.1 : Int)) ∧ Below w.heap.size w W)) s' A B row ⟨h2, h3⟩ hg hr⟩
  case assign =>
    intro l x W K hK
    simp only [encI]
    gi_wp2
    exact hK
  case body =>
    rintro l pre x W ⟨hp, hb0, hb1, hbn, hB⟩ _
    have HQ := Lib.hid hp
    have HB := Lib.hid hB
    have H0 := Lib.hid hb0
    have H1 := Lib.hid hb1
    have HN := Lib.hid hbn
    have c0 := hb0.cell
    clear hp hB hb0 hb1 hbn
    have HCx := Lib.hid (HC.out x.1.2)
    obtain ⟨y, hy⟩ : ∃ y, chr x.1.2 = y := ⟨_, rfl⟩
    rw [hy] at HCx
    have HX : Hid (chrQ x.1.1 x.1.2 = y) := Lib.hid hy
    clear hy
    cases y with
    | true =>
      gi_wp2_with (refine ⟨trivial, ?_⟩; gi_at_call 9; refine (callsIn_wide.2 (HCx.out _)).mono ?_; rintro e w5 ⟨rfl, hb5⟩; have HB5 := Lib.hid hb5; clear hb5)
      exact ⟨keeps_below HB5.out, kpS_below HB5.out HB.out.size (boxed_lt HN.out), fun q hq => (List.mem_append.1 hq).elim (HQ.out q) (fun e => by simp at e; subst e; exact HX.out), boxed_below H0.out HB5.out, boxed_below H1.out HB5.out, boxed_below HN.out HB5.out, below_call HB.out HB5.out⟩
    | false =>
      gi_wp2_with (refine ⟨trivial, ?_⟩; gi_at_call 9; refine (callsIn_wide.2 (HCx.out _)).mono ?_; rintro e w5 ⟨rfl, hb5⟩; have HB5 := Lib.hid hb5; have K1 := Lib.hid (boxed_below H1.out hb5); have c1 := K1.out.cell; have f1 := K1.out.frozen; clear hb5)
      exact ⟨(keeps_below HB5.out).trans ((KeepsOthers.setCell _ _ _).from _), _, x, ⟨rfl, rfl, HX.out, HQ.out⟩, K1.out.set _, (below_call HB.out HB5.out).setCell (p := ⟨w.heap.size + 1, 0, none⟩) (by simp) _⟩
  case done =>
    rintro D ys W hD hy ⟨hne, hb0, hb1, hbn, hB⟩ hK
    have HN := Lib.hid (items_all chrQ_no hy hne)
    have HB := Lib.hid hB
    have H1 := Lib.hid hb1
    have c1 := hb1.cell
    have f1 := hb1.frozen
    have hlen : s.data.toList.length = s.size := by simp
    have HLN := Lib.hid hlen
    have hd1 : w.heap.size + 1 < D := by simp at hD; omega
    clear hy hne hb0 hb1 hbn hB hlen
    gi_wp2
    have hK' := (KeepsOthers.setCell W ⟨w.heap.size + 1, 0, none⟩ (.int .i64 (s.size : Int))).same D _ hK rfl
    have h1 := (boxed_put (H1.out.set (.int .i64 (s.size : Int))) (.deferred none) (show w.heap.size + 1 ≠ D by omega)).cell
    refine ⟨by simp, .inl ⟨_, _, rfl, run_takeDeferred hK', ?_⟩⟩
    refine ⟨.int .i64 (s.size : Int), ?_, by rw [HN.out, HLN.out], (HB.out.setCell (p := ⟨w.heap.size + 1, 0, none⟩) (by simp) _).trans (belowK_b (w := w) (Nat.le_refl _) _ D _ _ (by omega) hK' rfl rfl)⟩
    simp [results, Tryd.f37, go_sem, h1]
  case stop =>
    rintro D c pre W hD hsp ⟨t, x, ⟨rfl, rfl, hx, ht⟩, hb1, hB⟩ hK
    have HN := Lib.hid (items_one chrQ_no hsp ht hx)
    have HB := Lib.hid hB
    have H1 := Lib.hid hb1
    have hd1 : w.heap.size + 1 < D := by simp at hD; omega
    clear hsp hx ht hb1 hB
    gi_wp2
    refine ⟨by simp, .inl ⟨_, _, rfl, run_takeDeferred hK, ?_⟩⟩
    have h1 := (boxed_put H1.out (.deferred none) (show w.heap.size + 1 ≠ D by omega)).cell
    refine ⟨.int .i64 (x.1.1 : Int), ?_, by rw [HN.out], HB.out.trans (belowK_b (w := w) (Nat.le_refl _) W D _ _ (by omega) hK rfl rfl)⟩
    simp [results, Tryd.f37, go_sem, h1]
set_option maxRecDepth 100000 in
set_option maxHeartbeats 4000000 in
theorem prun_space (s : ByteArray) (w : World) (hg : Gl w) (hs : s.size ≤ 100000) : Calls Tryd.prog 37 #[.string s, .func (.func 11) #[] #[]] w fun e w' => RetI (goQ spcQ (prt s.data.toList) 0 : Nat) w e w' := by
  have HC : Hid (∀ r w, Calls Tryd.prog 11 #[.int .i64 r] w fun e w' => RetB (spc r) w e w') := Lib.hid fun r w => pspace_any r w
  refine (callsIn_wide (n := 5)).1 ?_
  have h2 := hg.size
  have bR0 := Boxed.new w 22 (.func (.func 11) #[] #[])
  have bR1 := Boxed.new (w.alloc (.cells #[.func (.func 11) #[] #[]] 22)) 3 (.int .i64 0)
  rw [World.size_alloc] at bR1
  have bN := Boxed.new ((w.alloc (.cells #[.func (.func 11) #[] #[]] 22)).alloc (.cells #[.int .i64 0] 3)) 9 (.string s)
  rw [World.size_alloc, World.size_alloc] at bN
  have hB0 : Below w.heap.size w (((w.alloc (.cells #[.func (.func 11) #[] #[]] 22)).alloc (.cells #[.int .i64 0] 3)).alloc (.cells #[.string s] 9)) := (((Below.refl _ w).alloc (Nat.le_refl _) _).alloc (by simp) _).alloc (by simp; omega) _
  refine callsIn_of_wp_marks Tryd.func37 rfl trivial ?_ rfl
  simp only [Tryd.ntmps37, List.size_toArray, List.length_cons, List.length_nil, Nat.reduceAdd, Nat.reduceSub, Array.replicate_succ, Array.replicate_zero, List.push_toArray, List.append_toArray, List.nil_append, List.cons_append]
  gi_wp2_with (refine ⟨trivial, ?_⟩; gi_at_call 42; refine (cscalars_in _ s _).mono ?_; rintro e w' ⟨rfl, rfl⟩)
  refine wpIn_rangeFunc_ownG rfl (by omega) (gf := 48) (lb := #[.pointer (some ⟨w.heap.size + 1 + 1, 0, none⟩)]) rfl trivial (enters_of Tryd.func48 (by kernel_rfl) rfl)
    (cscalars_stops 4 (by omega) (w.heap.size + 1 + 1) w.heap.size s hs _ (hg.below' hB0) (by omega) (by simp) (by simp; omega) bN.cell) KpS.trans (kpS_b (by simp; omega) (by simp)) (Below.refl _ _) (fun _ => rfl)
    (fun pre W => (∀ p ∈ pre, spcQ p.1.1 p.1.2 = true) ∧ Boxed W w.heap.size 22 (.func (.func 11) #[] #[]) ∧ Boxed W (w.heap.size + 1) 3 (.int .i64 0) ∧ Boxed W (w.heap.size + 1 + 1) 9 (.string s) ∧ Below w.heap.size w W)
    (fun c pre W => ∃ t x, (c = .ret ∧ pre = t ++ [x] ∧ spcQ x.1.1 x.1.2 = false ∧ ∀ p ∈ t, spcQ p.1.1 p.1.2 = true) ∧ Boxed W (w.heap.size + 1) 3 (.int .i64 (x.1.1 : Int)) ∧ Below w.heap.size w W)
    (OwnFrom.and (ownFrom_pure _ _) (OwnFrom.and (Own.from (boxed_own _ _ _) _) (OwnFrom.and (Own.from (boxed_own _ _ _) _) (OwnFrom.and (Own.from (boxed_own _ _ _) _) (ownFrom_below (Nat.le_refl _) (by simp; omega))))))
    ?ixown
    ⟨by simp, (bR0.alloc _).alloc _, bR1.alloc _, bN, hB0⟩
    (fun x => { tmps := #[.string s, .func (.func 11) #[] #[], undef, .pointer (some ⟨w.heap.size, 0, none⟩), .pointer (some ⟨w.heap.size + 1, 0, none⟩), .int .i64 (x.1.1 : Int), .int .i64 x.1.2, .string s, .func (.func 48) #[] #[.pointer (some ⟨w.heap.size + 1 + 1, 0, none⟩)], .int .i64 (x.1.1 : Int), .int .i64 x.1.2, undef, undef, undef, undef, undef, undef, undef], defers := [] }) ?assign ?body ?done ?stop
  case ixown =>
    intro c s' A B row hs hg hr
    obtain ⟨t, x, h1, h2, h3⟩ := hs
    exact ⟨t, x, h1, (OwnFrom.and (Own.from (boxed_own _ _ _) _) (ownFrom_below (Nat.le_refl _) (by simp; omega)) : OwnFrom _ (fun (_ : List Item) W => Boxed W (w.heap.size + 1) 3 (.int .i64 (x.1.1 : Int)) ∧ Below w.heap.size w W)) s' A B row ⟨h2, h3⟩ hg hr⟩
  case assign =>
    intro l x W K hK
    simp only [encI]
    gi_wp2
    exact hK
  case body =>
    rintro l pre x W ⟨hp, hb0, hb1, hbn, hB⟩ _
    have HQ := Lib.hid hp
    have HB := Lib.hid hB
    have H0 := Lib.hid hb0
    have H1 := Lib.hid hb1
    have HN := Lib.hid hbn
    have c0 := hb0.cell
    clear hp hB hb0 hb1 hbn
    have HCx := Lib.hid (HC.out x.1.2)
    obtain ⟨y, hy⟩ : ∃ y, spc x.1.2 = y := ⟨_, rfl⟩
    rw [hy] at HCx
    have HX : Hid (spcQ x.1.1 x.1.2 = y) := Lib.hid hy
    clear hy
    cases y with
    | true =>
      gi_wp2_with (refine ⟨trivial, ?_⟩; gi_at_call 11; refine (callsIn_wide.2 (HCx.out _)).mono ?_; rintro e w5 ⟨rfl, hb5⟩; have HB5 := Lib.hid hb5; clear hb5)
      exact ⟨keeps_below HB5.out, kpS_below HB5.out HB.out.size (boxed_lt HN.out), fun q hq => (List.mem_append.1 hq).elim (HQ.out q) (fun e => by simp at e; subst e; exact HX.out), boxed_below H0.out HB5.out, boxed_below H1.out HB5.out, boxed_below HN.out HB5.out, below_call HB.out HB5.out⟩
    | false =>
      gi_wp2_with (refine ⟨trivial, ?_⟩; gi_at_call 11; refine (callsIn_wide.2 (HCx.out _)).mono ?_; rintro e w5 ⟨rfl, hb5⟩; have HB5 := Lib.hid hb5; have K1 := Lib.hid (boxed_below H1.out hb5); have c1 := K1.out.cell; have f1 := K1.out.frozen; clear hb5)
      exact ⟨(keeps_below HB5.out).trans ((KeepsOthers.setCell _ _ _).from _), _, x, ⟨rfl, rfl, HX.out, HQ.out⟩, K1.out.set _, (below_call HB.out HB5.out).setCell (p := ⟨w.heap.size + 1, 0, none⟩) (by simp) _⟩
  case done =>
    rintro D ys W hD hy ⟨hne, hb0, hb1, hbn, hB⟩ hK
    have HN := Lib.hid (items_all spcQ_no hy hne)
    have HB := Lib.hid hB
    have H1 := Lib.hid hb1
    have c1 := hb1.cell
    have f1 := hb1.frozen
    have hlen : s.data.toList.length = s.size := by simp
    have HLN := Lib.hid hlen
    have hd1 : w.heap.size + 1 < D := by simp at hD; omega
    clear hy hne hb0 hb1 hbn hB hlen
    gi_wp2
    have hK' := (KeepsOthers.setCell W ⟨w.heap.size + 1, 0, none⟩ (.int .i64 (s.size : Int))).same D _ hK rfl
    have h1 := (boxed_put (H1.out.set (.int .i64 (s.size : Int))) (.deferred none) (show w.heap.size + 1 ≠ D by omega)).cell
    refine ⟨by simp, .inl ⟨_, _, rfl, run_takeDeferred hK', ?_⟩⟩
    refine ⟨.int .i64 (s.size : Int), ?_, by rw [HN.out, HLN.out], (HB.out.setCell (p := ⟨w.heap.size + 1, 0, none⟩) (by simp) _).trans (belowK_b (w := w) (Nat.le_refl _) _ D _ _ (by omega) hK' rfl rfl)⟩
    simp [results, Tryd.f37, go_sem, h1]
  case stop =>
    rintro D c pre W hD hsp ⟨t, x, ⟨rfl, rfl, hx, ht⟩, hb1, hB⟩ hK
    have HN := Lib.hid (items_one spcQ_no hsp ht hx)
    have HB := Lib.hid hB
    have H1 := Lib.hid hb1
    have hd1 : w.heap.size + 1 < D := by simp at hD; omega
    clear hsp hx ht hb1 hB
    gi_wp2
    refine ⟨by simp, .inl ⟨_, _, rfl, run_takeDeferred hK, ?_⟩⟩
    have h1 := (boxed_put H1.out (.deferred none) (show w.heap.size + 1 ≠ D by omega)).cell
    refine ⟨.int .i64 (x.1.1 : Int), ?_, by rw [HN.out], HB.out.trans (belowK_b (w := w) (Nat.le_refl _) W D _ _ (by omega) hK rfl rfl)⟩
    simp [results, Tryd.f37, go_sem, h1]
end Go.Proofs.YtehehmpepkgbeaaDoor.Chr
