/- The contracts of the program's Scan and Parts: ranges over the iterator of parts. -/
import Derived.Test.YtdkfbikpadehdaaDoorEPI
import Derived.Test.YtdkfbikpadehdaaDoorEPG
namespace Go.Proofs.YtdkfbikpadehdaaDoor.Dec
open Go.RowKit
set_option linter.unusedVariables false
set_option linter.unusedSimpArgs false
open Lab (RetS ret_str str str_size str_list str_eta str_inj u8v info5 info_parts)
open Go.Shelf
attribute [local go_sem] Oper.semAt_some
theorem boxed_putObj {W : World} {B D : Nat} {t : TypeId} {v : Value} (h : Boxed W B t v) (o : Obj) (hne : B ≠ D) : Boxed (W.putObj D o) B t v :=
  (World.putObj_heap_other hne).trans h
theorem own_form {W : World} {base k size : Nat} {e : TypeId} {v : Value} {xs : List Value} (h : W.ownsRow base e size v k xs) : ∃ p cap, v = .slice p k cap := by
  rcases h.2 with ⟨rfl, rfl⟩ | ⟨g, cap, cur, rfl, _⟩
  · exact ⟨_, _, rfl⟩
  · exact ⟨_, _, rfl⟩
theorem ind_boxed {β : Type} {T t : TypeId} (hT : t ≠ T) (Bo B : Nat) (f : β → Value) : Ind T B (fun s W => Boxed W Bo t (f s)) := fun s w w' row h0 hg hr => by
  have h : Boxed w Bo t (f s) := h0
  refine h.kept hg (fun e => ?_)
  obtain ⟨_, ⟨xs, hx⟩ | ⟨o, ho, hc⟩⟩ := hr Bo e.symm
  · unfold Boxed at h
    rw [show w.heap[Bo]? = _ from hx] at h
    cases h
    exact hT rfl
  · rw [show w.heap[Bo]? = _ from h] at ho
    cases ho; cases hc
theorem ind_row {β : Type} {T e : TypeId} (hT : e ≠ T) (n₀ B size : Nat) (v : β → Value) (k : β → Nat) (f : β → List Value) : Ind T B (fun s W => W.ownsRow n₀ e size (v s) (k s) (f s)) := fun s w w' row h hg hr => by
  refine h.kept hg ?_
  rcases h.2 with ⟨e1, _⟩ | ⟨g, cap, cur, e1, _, hgb, _⟩
  · exact .inl (by rw [e1]; simp [Value.ownBlock])
  · refine .inr (fun e2 => ?_)
    have hb : (v s).ownBlock = some g := by rw [e1]; simp [Value.ownBlock]
    rw [hb] at e2
    obtain ⟨_, ⟨xs, hx⟩ | ⟨o, ho, hc⟩⟩ := hr g e2.symm
    · rw [show w.heap[g]? = _ from hx] at hgb
      cases hgb
      exact hT rfl
    · rw [hgb] at ho
      cases ho; cases hc
theorem ind_holds {β : Type} {T t e : TypeId} (hT : t ≠ T) (hE : e ≠ T) (n₀ Bo B size : Nat) (k : β → Nat) (f : β → List Value) : Ind T B (fun s W => ∃ v, Boxed W Bo t v ∧ W.ownsRow n₀ e size v (k s) (f s)) := fun s w w' row h hg hr => by
  obtain ⟨v, h1, h2⟩ := h
  exact ⟨v, ind_boxed hT Bo B (fun _ : Unit => v) () w w' row h1 hg hr, ind_row hE n₀ B size (fun _ : Unit => v) (fun _ => k s) (fun _ => f s) () w w' row h2 hg hr⟩
theorem fnd_no {l : List Prt} (h : ∀ q ∈ l, q.1 ≠ enc8) : fnd l = none := by
  unfold fnd
  rw [List.find?_eq_none.2 (by intro q hq; simpa using h q hq)]
  rfl
theorem fnd_yes {l t u : List Prt} {x : Prt} (h : l = (t ++ [x]) ++ u) (ht : ∀ q ∈ t, q.1 ≠ enc8) (hx : x.1 = enc8) : fnd l = some x.2 := by
  unfold fnd
  rw [h, List.append_assoc, List.find?_append, List.find?_eq_none.2 (by intro q hq; simpa using ht q hq)]
  simp [hx]
set_option maxRecDepth 100000 in
set_option maxHeartbeats 4000000 in
theorem pscan_any (l : List UInt8) (w : World) (hm : Mx w) (hs : l.length ≤ maxLen) : Calls Tryd.prog 14 #[.string (str l)] w fun e w' => ScanR (scn l) w e w' := by
  have hpos := hm.pos
  have HSQ : Hid (∀ (n Bs : Nat) (W : World), 1 ≤ n → Mx W → w.heap.size ≤ W.heap.size → Bs < W.heap.size → W.cell? ⟨Bs, 0, none⟩ = some (.string (str l)) →
      SeqBox n Tryd.prog 25 #[.pointer (some ⟨Bs, 0, none⟩)] encP 49 w.heap.size (fun ys => ys = prts l) (fun pre => ∃ t, prts l = pre ++ t) 201 W) := Lib.hid fun n Bs W hn hM hw hB hc =>
    parts_seq n hn Bs w.heap.size l hs hpos W hM hB hw hc
  have HSC : Hid (scn l = fnd (prts l)) := Lib.hid rfl
  have HM := Lib.hid hm
  obtain ⟨s, hs'⟩ : ∃ s, str l = s := ⟨_, rfl⟩
  rw [hs'] at HSQ ⊢
  clear hs' hs hm
  refine (callsIn_wide (n := 5)).1 ?_
  have bR0 := Boxed.new w 9 (.string ⟨#[]⟩)
  have bR1 := Boxed.new (w.alloc (.cells #[.string ⟨#[]⟩] 9)) 4 (.bool false)
  rw [World.size_alloc] at bR1
  have hB0 : Below w.heap.size w ((w.alloc (.cells #[.string ⟨#[]⟩] 9)).alloc (.cells #[.bool false] 4)) := ((Below.refl _ w).alloc (Nat.le_refl _) _).alloc (by simp) _
  have HR0 := Lib.hid (bR0.alloc (.cells #[.bool false] 4))
  have HR1 := Lib.hid bR1
  have HB0 := Lib.hid hB0
  clear bR0 bR1 hB0
  refine callsIn_of_wp_marks Tryd.func14 rfl trivial ?_ rfl
  simp only [Tryd.ntmps14, List.size_toArray, List.length_cons, List.length_nil, Nat.reduceAdd, Nat.reduceSub, Array.replicate_succ, Array.replicate_zero, List.push_toArray, List.append_toArray, List.nil_append, List.cons_append]
  gi_wp2_with (refine ⟨trivial, ?_⟩; gi_at_call 21; refine (parts_in _ _ _).mono ?_; rintro e w' ⟨rfl, rfl⟩)
  have k0 := HR0.out.alloc (.cells #[.string s] 9)
  have k1 := HR1.out.alloc (.cells #[.string s] 9)
  have hB3 := HB0.out.alloc (by simp; omega) (.cells #[.string s] 9)
  have hcs := (Boxed.new ((w.alloc (.cells #[.string ⟨#[]⟩] 9)).alloc (.cells #[.bool false] 4)) 9 (.string s)).cell
  have hMx : Mx (((w.alloc (.cells #[.string ⟨#[]⟩] 9)).alloc (.cells #[.bool false] 4)).alloc (.cells #[.string s] 9)) := ((HM.out.alloc _).alloc _).alloc _
  simp only [World.size_alloc] at hcs ⊢
  refine range_box (by omega) (gf := 25) (lb := #[.pointer (some ⟨w.heap.size + 1 + 1, 0, none⟩)]) rfl (enters_of Tryd.func25 (by kernel_rfl) rfl)
    (HSQ.out 4 (w.heap.size + 1 + 1) _ (by omega) hMx (by simp; omega) (by simp) hcs) (by simp; omega) (fun _ => rfl)
    (fun pre W => (∀ q ∈ pre, q.1 ≠ enc8) ∧ Boxed W w.heap.size 9 (.string ⟨#[]⟩) ∧ Boxed W (w.heap.size + 1) 4 (.bool false) ∧ Below w.heap.size w W)
    (fun pre W => ∃ t x, (pre = t ++ [x] ∧ x.1 = enc8 ∧ ∀ q ∈ t, q.1 ≠ enc8) ∧ Boxed W w.heap.size 9 (.string (str x.2)) ∧ Boxed W (w.heap.size + 1) 4 (.bool true) ∧ Below w.heap.size w W)
    (Ind.and (ind_pure _ _ _) (Ind.and (ind_boxed (by decide) _ _ _) (Ind.and (ind_boxed (by decide) _ _ _) (ind_below _ (by simp; omega) (Nat.le_refl _)))))
    ?ixown
    ⟨by simp, k0, k1, hB3⟩
    (fun x => { tmps := #[.string s, undef, .pointer (some ⟨w.heap.size, 0, none⟩), .pointer (some ⟨w.heap.size + 1, 0, none⟩), .string (str x.1), .string (str x.2), .string s, .func (.func 25) #[] #[.pointer (some ⟨w.heap.size + 1 + 1, 0, none⟩)], .string (str x.1), .string (str x.2), undef, undef, undef], defers := [] }) ?assign ?body ?done ?stop
  case ixown =>
    intro c A B row hs hg hr
    obtain ⟨t, x, h1, h2, h3, h4⟩ := hs
    exact ⟨t, x, h1, ind_boxed (by decide) _ _ (fun _ : Unit => _) () A B row h2 hg hr, ind_boxed (by decide) _ _ (fun _ : Unit => _) () A B row h3 hg hr, ind_below (β := Unit) _ (by simp; omega) (Nat.le_refl _) () A B row h4 hg hr⟩
  case assign =>
    intro l x W K hK
    simp only [encP]
    gi_wp2
    exact hK
  case body =>
    rintro l pre x W ⟨hp, hb0, hb1, hB⟩ _
    have HQ := Lib.hid hp
    have HB := Lib.hid hB
    have H0 := Lib.hid hb0
    have H1 := Lib.hid hb1
    have c0 := hb0.cell
    have c1 := hb1.cell
    have f0 := hb0.frozen
    have f1 := hb1.frozen
    clear hp hB hb0 hb1
    by_cases hx : x.1 = enc8
    · have hxb : (str x.1).toList = [101, 110, 99, 111, 100, 105, 110, 103] := by rw [hx, toList_str]; rfl
      have HX := Lib.hid hx
      clear hx
      gi_wp2
      exact ⟨((KeepsOthers.setCell _ _ _).trans (KeepsOthers.setCell _ _ _)).from _, _, x, ⟨rfl, HX.out, HQ.out⟩, (H0.out.set _).other (by omega) _, (H1.out.other (by omega) _).set _, (HB.out.setCell (p := ⟨w.heap.size, 0, none⟩) (Nat.le_refl _) _).setCell (p := ⟨w.heap.size + 1, 0, none⟩) (by simp) _⟩
    · have hxb : ((str x.1).toList == [101, 110, 99, 111, 100, 105, 110, 103]) = false := by rw [toList_str]; simpa [enc8] using hx
      have HX := Lib.hid hx
      clear hx
      gi_wp2
      exact ⟨KeepsFrom.refl _ _, Kq.refl _ _ _, fun q hq => (List.mem_append.1 hq).elim (HQ.out q) (fun e => by simp at e; subst e; exact HX.out), H0.out, H1.out, HB.out⟩
  case done =>
    rintro D ys W hD rfl ⟨hne, hb0, hb1, hB⟩ hK
    have HN : Hid (scn l = none) := Lib.hid (HSC.out.trans (fnd_no hne))
    have HB := Lib.hid hB
    have H0 := Lib.hid hb0
    have H1 := Lib.hid hb1
    have c0 := hb0.cell
    have c1 := hb1.cell
    have f0 := hb0.frozen
    have f1 := hb1.frozen
    have hd1 : w.heap.size + 1 < D := by simp at hD; omega
    clear hne hb0 hb1 hB
    gi_wp2
    have hK' := ((KeepsOthers.setCell W ⟨w.heap.size, 0, none⟩ (.string ⟨#[]⟩)).trans (KeepsOthers.setCell _ ⟨w.heap.size + 1, 0, none⟩ (.bool false))).same D _ hK rfl
    have h0 := (boxed_putObj ((H0.out.set (.string ⟨#[]⟩)).other (B' := w.heap.size + 1) (by omega) (.bool false)) (.deferred none) (show w.heap.size ≠ D by omega)).cell
    have h1 := (boxed_putObj ((H1.out.other (B' := w.heap.size) (by omega) (.string ⟨#[]⟩)).set (.bool false)) (.deferred none) (show w.heap.size + 1 ≠ D by omega)).cell
    refine ⟨by simp, .inl ⟨_, _, rfl, run_takeDeferred hK', ?_⟩⟩
    refine ⟨.tuple #[.string ⟨#[]⟩, .bool false], ?_, by rw [HN.out]; exact ⟨rfl, ((HB.out.setCell (p := ⟨w.heap.size, 0, none⟩) (Nat.le_refl _) _).setCell (p := ⟨w.heap.size + 1, 0, none⟩) (by simp) _).trans (belowK_b (w := w) (Nat.le_refl _) _ D _ _ (by omega) hK' rfl rfl)⟩⟩
    simp [results, Tryd.f14, go_sem, h0, h1]
  case stop =>
    rintro D pre W hD hsp ⟨t, x, ⟨rfl, hx, ht⟩, hb0, hb1, hB⟩ hK
    have HN : Hid (scn l = some x.2) := Lib.hid (by obtain ⟨u, hu⟩ := hsp; exact HSC.out.trans (fnd_yes hu ht hx))
    have HB := Lib.hid hB
    have H0 := Lib.hid hb0
    have H1 := Lib.hid hb1
    have hd1 : w.heap.size + 1 < D := by simp at hD; omega
    clear hsp hx ht hb0 hb1 hB
    gi_wp2
    refine ⟨by simp, .inl ⟨_, _, rfl, run_takeDeferred hK, ?_⟩⟩
    have h0 := (boxed_putObj H0.out (.deferred none) (show w.heap.size ≠ D by omega)).cell
    have h1 := (boxed_putObj H1.out (.deferred none) (show w.heap.size + 1 ≠ D by omega)).cell
    refine ⟨.tuple #[.string (str x.2), .bool true], ?_, by rw [HN.out]; exact ⟨rfl, HB.out.trans (belowK_b (w := w) (Nat.le_refl _) W D _ _ (by omega) hK rfl rfl)⟩⟩
    simp [results, Tryd.f14, go_sem, h0, h1]
theorem kq_app {W w1 : World} {tmp : Obj} {n₀ B size k : Nat} {T t e : TypeId} {u v v' : Value} {xs : List Value} (hb : Boxed w1 B t u) (ht : t ≠ T) (he : e ≠ T) (hrow : W.ownsRow n₀ e size v k xs) (hg : (W.alloc tmp).grownBy w1 v.ownBlock) (hbel : Below n₀ W (w1.setCell ⟨B, 0, none⟩ v')) : Kq T n₀ W (w1.setCell ⟨B, 0, none⟩ v') :=
  ⟨hbel, fun r ys hr => by
    have h1 : Blk w1 r ys T := blk_kept (hr.alloc tmp) hg (not_row (hr.alloc tmp) (fun e' => he e'.symm) (hrow.alloc tmp))
    refine h1.set' (fun e' => ?_)
    dsimp only at e'
    subst e'
    unfold Boxed at hb
    rw [show w1.heap[r]? = _ from h1] at hb
    cases hb
    exact ht rfl⟩
set_option maxRecDepth 100000 in
set_option maxHeartbeats 4000000 in
theorem pparts_any (l : List UInt8) (w : World) (hm : Mx w) (hs : l.length ≤ maxLen) : Calls Tryd.prog 17 #[.string (str l)] w fun e w' => PartsR l w e w' := by
  obtain ⟨i0, hi, hz0, hz1, hz2⟩ := info_parts infoP3
  have hpos := hm.pos
  have HSQ : Hid (∀ (n Bs : Nat) (W : World), 1 ≤ n → Mx W → w.heap.size ≤ W.heap.size → Bs < W.heap.size → W.cell? ⟨Bs, 0, none⟩ = some (.string (str l)) →
      SeqBox n Tryd.prog 25 #[.pointer (some ⟨Bs, 0, none⟩)] encP 49 w.heap.size (fun ys => ys = prts l) (fun pre => ∃ t, prts l = pre ++ t) 201 W) := Lib.hid fun n Bs W hn hM hw hB hc =>
    parts_seq n hn Bs w.heap.size l hs hpos W hM hB hw hc
  have HM := Lib.hid hm
  unfold PartsR
  obtain ⟨s, hs'⟩ : ∃ s, str l = s := ⟨_, rfl⟩
  rw [hs'] at HSQ ⊢
  clear hs' hs hm
  refine (callsIn_wide (n := 5)).1 ?_
  have bL := Boxed.new w 32 (.slice none 0 0)
  have hB0 : Below w.heap.size w (w.alloc (.cells #[.slice none 0 0] 32)) := (Below.refl _ w).alloc (Nat.le_refl _) _
  refine callsIn_of_wp_marks Tryd.func17 rfl trivial ?_ rfl
  simp only [Tryd.ntmps17, List.size_toArray, List.length_cons, List.length_nil, Nat.reduceAdd, Nat.reduceSub, Array.replicate_succ, Array.replicate_zero, List.push_toArray, List.append_toArray, List.nil_append, List.cons_append]
  gi_wp2_with (refine ⟨trivial, ?_⟩; gi_at_call 21; refine (parts_in _ _ _).mono ?_; rintro e w' ⟨rfl, rfl⟩)
  have hB3 := hB0.alloc (by simp) (.cells #[.string s] 9)
  have hcs := (Boxed.new (w.alloc (.cells #[.slice none 0 0] 32)) 9 (.string s)).cell
  have hMx : Mx ((w.alloc (.cells #[.slice none 0 0] 32)).alloc (.cells #[.string s] 9)) := (HM.out.alloc _).alloc _
  simp only [World.size_alloc] at hcs ⊢
  refine range_box (by omega) (gf := 25) (lb := #[.pointer (some ⟨w.heap.size + 1, 0, none⟩)]) rfl (enters_of Tryd.func25 (by kernel_rfl) rfl)
    (HSQ.out 4 (w.heap.size + 1) _ (by omega) hMx (by simp; omega) (by simp) hcs) (by simp; omega) (fun _ => rfl)
    (fun pre W => (∃ v, Boxed W w.heap.size 32 v ∧ W.ownsRow w.heap.size 38 2 v pre.length (cellsP pre)) ∧ Below w.heap.size w W)
    (fun pre W => False)
    (Ind.and (ind_holds (by decide) (by decide) _ _ _ _ _ _) (ind_below _ (by simp; omega) (Nat.le_refl _)))
    (ind_pure _ _ _)
    ⟨⟨_, bL.alloc _, World.ownsRow_nil _ _ _ _⟩, hB3⟩
    (fun x => { tmps := #[.string s, undef, .slice none 0 0, .pointer (some ⟨w.heap.size, 0, none⟩), .string (str x.1), .string (str x.2), .string s, .func (.func 25) #[] #[.pointer (some ⟨w.heap.size + 1, 0, none⟩)], .string (str x.1), .string (str x.2), undef, undef, undef, undef, undef, undef, undef], defers := [] }) ?assign ?body ?done ?stop
  case assign =>
    intro l x W K hK
    simp only [encP]
    gi_wp2
    exact hK
  case body =>
    rintro l pre x W ⟨⟨v, hv, hrow⟩, hB⟩ hlt
    have HB := Lib.hid hB
    have hwz := hB.size
    have HV := Lib.hid hv
    have HRow := Lib.hid hrow
    have cv := hv.cell
    have HCP : Hid (cellsP pre ++ [.string (str x.1), .string (str x.2)] = cellsP (pre ++ [x])) := Lib.hid (by rw [cellsP_app]; rfl)
    clear hB hv hrow
    gi_wp2_with (gi_at_builtin; refine wpListIn_append_own _ rfl _ _ 32 rfl w.heap.size 38 i0 _ 2 32 Tryd.underlying32 hi hz0 hz1 hz2 rfl (by decide) v pre.length (cellsP pre) rfl (HRow.out.alloc _) ⟨W.heap.size, 0, none⟩ 1 1 [.string (str x.1), .string (str x.2)] rfl rfl (by have := World.news_of_block (t := 38) (fr := (0, 0)) (heap_alloc_new W (.cells #[.string (str x.1), .string (str x.2)] 38)); simpa using this) (by simp [Value.oneCell']) (by unfold maxLen; omega) (by omega) (by simp; omega) ?_; intro v' w1 hown' hgrow _; obtain ⟨g', cap', rfl⟩ := ownsRow_succ hown'; obtain ⟨hv1, hv2, hr2, hk2, hb2⟩ := HV.out.appended (by decide) HRow.out hwz (by omega) hown' hgrow; have hc1 := hv1.cell; have hf1 := hv1.frozen; have KQ := Lib.hid (kq_app (T := 49) hv1 (by decide) (by decide) HRow.out hgrow hb2); have V2 := Lib.hid hv2; have R2 := Lib.hid hr2; have K2 := Lib.hid hk2; have B2 := Lib.hid hb2; clear hown' hgrow hv1 hv2 hr2 hk2 hb2)
    exact ⟨K2.out.from _, KQ.out, ⟨_, V2.out, by rw [← HCP.out, List.length_append]; exact R2.out⟩, HB.out.trans B2.out⟩
  case done =>
    rintro D ys W hD rfl ⟨⟨v, hv, hrow⟩, hB⟩ hK
    have HRow := Lib.hid hrow
    have HB := Lib.hid hB
    obtain ⟨p, cap, rfl⟩ := own_form hrow
    have cv := hv.cell
    have hd1 : w.heap.size + 1 < D := by simp at hD; omega
    clear hrow hv hB
    gi_wp2
    have hr3 := ownsRow_putObj HRow.out (.deferred none) hK rfl
    refine ⟨by simp, .inl ⟨_, _, rfl, run_takeDeferred hK, ?_⟩⟩
    refine ⟨.slice p (prts l).length cap, ?_, ⟨_, rfl, prs_own (base := w.heap.size) hr3, HB.out.trans (belowK_b (w := w) (Nat.le_refl _) W D _ _ (by omega) hK rfl rfl)⟩⟩
    simp [results, Tryd.f17, go_sem]
  case stop =>
    rintro D pre W hD hsp hf hK
    exact hf.elim
end Go.Proofs.YtdkfbikpadehdaaDoor.Dec
