/- The opening and the end of the rows of layer 9. -/
import Derived.Test.YtehehmpepkgbeaaDoorCK
import Derived.Test.YtehehmpepkgbeaaDoorRows
import Derived.Deep.Grids
import Derived.ChangeVars
import Derived.LaidMore
import Derived.HandedShaped
import Derived.Lay
import Derived.LaidOnce
import Derived.SliceStrings
import Derived.Stop.Joined
import Derived.Lib.SmallJoins
import Derived.Deep.Slices
import Derived.Deep.Fields
import Derived.ChangeSame
namespace Go.Proofs.YtehehmpepkgbeaaDoor
open Go.RowKit
set_option linter.unusedVariables false
set_option linter.unusedSimpArgs false
set_option maxRecDepth 100000
open Go.ChangeShapes Go.WideShapes Go.ChangeAt
/-- The wrap of a row with listed variables: what they read as, the world's shape, the weights. -/
theorem returnsIn_all {H : Type} {enc : TypeId × Value → H} {C : Checked} {os : Os} {f : FuncId} {fn : Func} {s : ChangeSpec} {L : List (String × DataW Unit)}
    (own : ownKnob C.prog.godebug = none) (started : os.Started) (noInit : C.prog.inits.idxOf? f = none) (hfn : C.prog.funcs[f]? = some fn)
    (witness : ∃ (w : World) (tape : Tape) (i : Input), w.os = os ∧ (w.forCall tape i).Shaped C.prog ∧ i.vars = [] ∧ Input.okWide C.prog (w.forCall tape i) .any w.heap.size f i ∧
      ((s.pre enc C.prog fn [] false (w.forCall tape i).memory i.args ∧ laidMetH C.prog L (w.forCall tape i).memory) ∧ sizedMet enc C.prog fn (OpenSpec.ofChange s) false (w.forCall tape i).memory i.args) ∧ ({} : Assume).holds C.prog (lone (Frame.enter C.prog f i.args .normal) [] (w.forCall tape i)))
    (contract : ∀ (W : World) (base : Nat) (args : Array Value) (ds gs : List (DataW H)) (before : List MemPlace),
      (∀ (j : Nat) t v, fn.params[j]? = some t → args[j]? = some v → Value.okWide C.prog W .any base t v) →
      DataW.Whole enc C.prog fn.params.toList s.vars false W args.toList ds gs before →
      W.ShapedOpen C.prog → laidMetH C.prog L W →
      (DataW.weightsEach C.prog (fn.params.toList ++ s.plain.varTypes C.prog) (ds ++ gs)).all (· ≤ reachBytes) = true →
      Calls C.prog f args W fun e W' => ∃ v, e = .returned v ∧ s.post enc C.prog fn false true false false W args v W') :
    ReturnsInHanded {} C os f .any (fun w args => (s.pre enc C.prog fn [] false w args ∧ laidMetH C.prog L w) ∧ sizedMet enc C.prog fn (OpenSpec.ofChange s) false w args) (s.post enc C.prog fn false true false false) :=
  returnsInHanded_of_calls own started noInit witness fun w tape i _ hshape _ hin hpre _ => by
    obtain ⟨_, _, _, g, hg, _, _, _, _, hval⟩ := hin
    cases hg.symm.trans hfn
    obtain ⟨⟨⟨ds, gs, before, hwhole, _⟩, hL⟩, hz⟩ := hpre
    refine (contract _ w.heap.size i.args ds gs before hval (DataW.Whole.of_heap (w := (w.forCall tape i).memory) (w' := w.forCall tape i) (by rfl) hwhole) hshape (hL.of_heap (by rfl)) (hz.weights hwhole)).mono fun e W' hp => ?_
    obtain ⟨v, rfl, hpost⟩ := hp
    exact ChangeSpec.post_blind hpost
theorem own : ownKnob Tryd.prog.godebug = none := by kernel_rfl
theorem laid : laidOutB Tryd.prog = true := by kernel_rfl
section
variable {H : Type} {enc : TypeId × Value → H}
theorem args_keep {W W' : World} (hb : Below W.heap.size W W') : ∀ {ts : List TypeId} {vs : List Value} {ds : List (DataW H)} {ps : List MemPlace}, (∀ t ∈ ts, Tryd.prog.readableRec t = true ∧ t < Tryd.prog.types.size) →
    DataW.TrodAll enc Tryd.prog W 0 (fun _ => true) true ts vs ds ps → (∀ x ∈ ps, x.block < W.heap.size) → ∀ sp : Nat → Bool, (∀ x ∈ ps, sp x.block = true) → DataW.TrodAll enc Tryd.prog W' 0 sp true ts vs ds ps
  | [], vs, ds, ps, _, h, _, _, _ => by
    match vs, ds, h with
    | [], [], h => exact h
  | t :: ts, vs, ds, ps, hr, h, hlt, sp, hsp => by
    match vs, ds, h with
    | v :: vs, d :: ds, h =>
      obtain ⟨p, p', hd, hs, rfl⟩ := h
      refine ⟨p, p', ?_, ?_, rfl⟩
      · exact WideElems.Trod_stays laid (hr t List.mem_cons_self).1 (hr t List.mem_cons_self).2 hd (fun x hx => hb.same (hlt x (List.mem_append_left _ hx))) (fun x hx => hsp x (List.mem_append_left _ hx))
      · exact args_keep hb (fun u hu => hr u (List.mem_cons_of_mem _ hu)) hs (fun x hx => hlt x (List.mem_append_right _ hx)) sp (fun x hx => hsp x (List.mem_append_right _ hx))
theorem law_post {fn : Func} {s : ChangeSpec} (hv0 : s.vars = []) (hrt : fn.resultTypes = #[4]) (hread : ∀ t ∈ fn.params.toList, Tryd.prog.readableRec t = true ∧ t < Tryd.prog.types.size)
    {W W' : World} {args : Array Value} {ds gs : List (DataW H)} {before : List MemPlace} (hW : DataW.Whole enc Tryd.prog fn.params.toList s.vars false W args.toList ds gs before)
    (hfn : s.fn H (ds ++ gs) = { results := [.lit (.bool true)], args := ds }) (hb : Below W.heap.size W W') :
    s.post enc Tryd.prog fn false true false false W args (.bool true) W' := by
  have hlt : ∀ p ∈ before, p.block < W.heap.size := fun p hp => hW.lt p hp
  have hold : ∀ p ∈ before, (fun b => decide (b < W.heap.size)) p.block = true := fun p hp => by simpa using hlt p hp
  obtain ⟨p, q, hA, hV, hpq, hz, hn⟩ := hW
  rw [hv0] at hV
  obtain ⟨rfl, rfl⟩ := trodVars_none hV
  have hW' : DataW.Whole enc Tryd.prog fn.params.toList s.vars false W args.toList ds [] before := ⟨p, [], hA, by rw [hv0]; rfl, hpq, hz, hn⟩
  obtain rfl : before = p := by simpa using hpq
  have hargs : ∀ sp : Nat → Bool, (∀ p ∈ before, sp p.block = true) → DataW.TrodAll enc Tryd.prog W' 0 sp true fn.params.toList args.toList ds before := fun sp hsp => args_keep hb hread hA hlt sp hsp
  refine ⟨ds, [], before, [], before, [], hW', ?_, by rw [hfn]; exact hargs _ hold, by rw [hfn, hv0]; rfl, World.keptBut_mono (fun p hp => ⟨hp, Or.inr (Or.inl hp)⟩) (hb.frame (· ∈ before)), fun _ => ?_⟩
  · rw [hfn, hrt]
    exact trodAll_cons_mk (shut_bool Tryd.underlying4 _) trodAll_mk0
  · refine ⟨ok_one hrt rfl (okWide_bool_mk Tryd.underlying4 _), _, [], ([] ++ before) ++ [], ⟨[] ++ before, [], trodAll_append (hargs _ (fun _ _ => rfl)) (by rw [hrt]; exact trodAll_cons_mk (shut_bool Tryd.underlying4 _) trodAll_mk0), by rw [hv0]; rfl, rfl, ?_, by simp⟩, ?_⟩
    · intro b off hp
      have hin : MemPlace.cell b off ∈ before := by simpa using hp
      rw [hb.frozen (hlt _ hin)]
      exact hz b off hin
    · intro p hp _
      simpa using hp
end
section
variable {H : Type} {enc : TypeId × Value → H} {w : World} {base : Nat} {held : Bool}
theorem open_str {v : Value} {d : DataW H} {p : List MemPlace} {r : Reach} {b : Nat} (hv : Value.okWide Tryd.prog w r b 9 v) (h : DataW.Trod enc Tryd.prog w base (fun _ => true) held 9 v d p) :
    ∃ s : ByteArray, v = .string s ∧ d = .lit (.string s.data.toList) ∧ s.size ≤ maxLen := by
  obtain ⟨s, e1, e2, _, e3⟩ := Go.ChangeMaps.open_string Tryd.underlying9 hv h
  exact ⟨s, e1, e2, e3⟩
end
theorem mx_of_shape {W : World} (h : W.ShapedOpen Tryd.prog) : Chr.Mx W := Tryd.maxLen_some W h
theorem var_lt {P : Program} {w : World} {n : String} {g : Nat} {cs : Array Value} (hg : P.globalNamed n = some g) (h : w.var? P n = some cs) : g < w.heap.size := by
  unfold World.var? at h
  rw [hg] at h
  simp only [Option.bind_some] at h
  split at h
  · rename_i h2
    exact (Array.getElem?_eq_some_iff.1 h2).1
  · cases h
theorem gLim : Tryd.prog.globalNamed "carding/utf8.limits" = some 5 := by kernel_rfl
theorem gMrk : Tryd.prog.globalNamed "carding/utf8.marks" = some 2 := by kernel_rfl
theorem gLen : Tryd.prog.globalNamed "carding/utf8.lengths" = some 1 := by kernel_rfl
theorem gFst : Tryd.prog.globalNamed "unicode/utf8.first" = some 3 := by kernel_rfl
theorem gAcc : Tryd.prog.globalNamed "unicode/utf8.acceptRanges" = some 4 := by kernel_rfl
theorem tLim : (Tryd.prog.globals[5]?).map (·.type) = some 86 := by kernel_rfl
theorem tMrk : (Tryd.prog.globals[2]?).map (·.type) = some 78 := by kernel_rfl
theorem tLen : (Tryd.prog.globals[1]?).map (·.type) = some 77 := by kernel_rfl
theorem cellsLim : Tryd.prog.cellsOf 86 = 5 := by kernel_rfl
theorem cellsMrk : Tryd.prog.cellsOf 78 = 5 := by kernel_rfl
theorem cellsLen : Tryd.prog.cellsOf 77 = 16 := by kernel_rfl
theorem cells3 : Tryd.prog.cellsOf 3 = 1 := by kernel_rfl
theorem cells5 : Tryd.prog.cellsOf 5 = 1 := by kernel_rfl
theorem cells9 : Tryd.prog.cellsOf 9 = 1 := by kernel_rfl
theorem spot_none {w : World} {a : Addr} {v : Value} (h : w.cell? a = some v) : a = ⟨a.block, a.off, none⟩ := by
  unfold World.cell? at h
  split at h
  · split at h
    · cases h
    · rename_i hs
      obtain ⟨b, o, s⟩ := a
      cases s with
      | none => rfl
      | some x => simp at hs
  · cases h
/-- The cells of an array of integers of which it is known how it reads. -/
theorem cells_of_ints {H : Type} {enc : TypeId × Value → H} {w : World} {base fuel : Nat} {sp : Nat → Bool} {held : Bool} {t e : TypeId} {n : Nat} {k : IntKind} {cs : List Value} {ns : List Int} {q : List MemPlace}
    (ht : Tryd.prog.underlying t = some (.array n e)) (he : Tryd.prog.underlying e = some (.int k)) (hc : Tryd.prog.cellsOf e = 1) (hct : Tryd.prog.cellsOf t = n)
    (h : DataW.trod enc Tryd.prog w base sp held fuel t cs = some (.agg (ns.map fun x => .lit (.int k x)), q)) : cs = ns.map (Value.int k) := by
  obtain ⟨xs, m, _, hx, hl, hn, hel⟩ := DataW.trod_array ht h
  simp only [Prod.mk.injEq, DataW.agg.injEq] at hx
  have hlen : ns.length = n := by have := congrArg List.length hx.1; simp at this; omega
  apply List.ext_getElem
  · simp; omega
  · intro i h1 h2
    have hi : i < n := by omega
    have he1 := hel i hi
    rw [hc, Nat.mul_one] at he1
    have hxs : i < xs.length := by omega
    rw [List.getElem?_eq_getElem hxs] at he1
    obtain ⟨a, e1, e2, _⟩ := DataW.trod_int he he1
    have e3 : (cs.drop i).take 1 = [cs[i]] := by
      rw [List.drop_eq_getElem_cons h1]; rfl
    rw [e3] at e1
    have e4 : (xs.map (·.1))[i]? = some (.lit (.int k a)) := by simp [hxs, e2]
    rw [← hx.1] at e4
    have hi2 : i < ns.length := by omega
    simp [hi2] at e4
    simp at e1
    simp [e1, e4]
abbrev laid5 : List (String × DataW Unit) := [("unicode/utf8.acceptRanges", Rows.laid_unicode_utf8_acceptRanges), ("carding/utf8.limits", Rows.laid_carding_utf8_limits), ("carding/utf8.marks", Rows.laid_carding_utf8_marks), ("carding/utf8.lengths", Rows.laid_carding_utf8_lengths), ("unicode/utf8.first", Rows.laid_unicode_utf8_first)]
theorem g9_of_laid {W : World} (h : laidMetH Tryd.prog laid5 W) (hsh : W.ShapedOpen Tryd.prog) : Chr.G9 W := by
  rw [MakeChecks.laidMetH_plain _ _ _ (by kernel_rfl)] at h
  obtain ⟨ps, ⟨ga, ta, csa, fa, pa, qa, hga, hta, hva, hda, ⟨g0, t0, cs0, f0, p0, q0, hg0, ht0, hv0, hd0, ⟨g1, t1, cs1, f1, p1, q1, hg1, ht1, hv1, hd1, ⟨g2, t2, cs2, f2, p2, q2, hg2, ht2, hv2, hd2, ⟨g3, t3, cs3, f3, p3, q3, hg3, ht3, hv3, hd3, _, _⟩, _⟩, _⟩, _⟩, _⟩, _⟩ := h
  have hl0 := var_lt hga hva
  have hl1 := var_lt hg0 hv0
  have hl2 := var_lt hg1 hv1
  have hl3 := var_lt hg2 hv2
  have hl4 := var_lt hg3 hv3
  have hl5 := (mx_of_shape hsh).pos
  obtain rfl := Option.some.inj (gAcc.symm.trans hga)
  obtain rfl := Option.some.inj (gLim.symm.trans hg0)
  obtain rfl := Option.some.inj (gMrk.symm.trans hg1)
  obtain rfl := Option.some.inj (gLen.symm.trans hg2)
  obtain rfl := Option.some.inj (gFst.symm.trans hg3)
  have hlt : 5 < W.heap.size := by omega
  obtain rfl := Option.some.inj (tLim.symm.trans ht0)
  obtain rfl := Option.some.inj (tMrk.symm.trans ht1)
  obtain rfl := Option.some.inj (tLen.symm.trans ht2)
  have c0 := cells_of_ints (k := .i64) (ns := [0, 128, 2048, 65536, 1114112]) Tryd.underlying86 Tryd.underlying3 cells3 cellsLim (by exact hd0)
  have c1 := cells_of_ints (k := .u8) (ns := [0, 0, 192, 224, 240]) Tryd.underlying78 Tryd.underlying5 cells5 cellsMrk (by exact hd1)
  have c2 := cells_of_ints (k := .i64) (ns := [1, 1, 1, 1, 1, 1, 1, 1, 1, 1, 1, 1, 2, 2, 3, 4]) Tryd.underlying77 Tryd.underlying3 cells3 cellsLen (by exact hd2)
  have e0 := World.var?_cell hg0 hv0
  have e1 := World.var?_cell hg1 hv1
  have e2 := World.var?_cell hg2 hv2
  simp only [← Array.getElem?_toList] at e0 e1 e2
  rw [c0] at e0
  rw [c1] at e1
  rw [c2] at e2
  refine ⟨⟨?_, ?_, ?_, ?_⟩, mx_of_shape hsh⟩
  · exact hlt
  · intro o ho
    rw [e0 o]
    have : o = 0 ∨ o = 1 ∨ o = 2 ∨ o = 3 ∨ o = 4 := by omega
    rcases this with rfl | rfl | rfl | rfl | rfl <;> rfl
  · intro o ho
    rw [e1 o]
    have : o = 0 ∨ o = 1 ∨ o = 2 ∨ o = 3 ∨ o = 4 := by omega
    rcases this with rfl | rfl | rfl | rfl | rfl <;> rfl
  · intro o ho
    rw [e2 o]
    have : o = 0 ∨ o = 1 ∨ o = 2 ∨ o = 3 ∨ o = 4 ∨ o = 5 ∨ o = 6 ∨ o = 7 ∨ o = 8 ∨ o = 9 ∨ o = 10 ∨ o = 11 ∨ o = 12 ∨ o = 13 ∨ o = 14 ∨ o = 15 := by omega
    rcases this with rfl | rfl | rfl | rfl | rfl | rfl | rfl | rfl | rfl | rfl | rfl | rfl | rfl | rfl | rfl | rfl <;> rfl
end Go.Proofs.YtehehmpepkgbeaaDoor
