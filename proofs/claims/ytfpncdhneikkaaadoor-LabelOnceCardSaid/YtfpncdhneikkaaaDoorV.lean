/- The opening and the end of the rows of layer 5. -/
import Derived.Test.YtfpncdhneikkaaaDoorT
import Derived.Test.YtfpncdhneikkaaaDoorR
import Derived.Test.YtfpncdhneikkaaaDoorP
import Derived.Test.YtfpncdhneikkaaaDoorQ
import Derived.Lib.SmallJoins
import Derived.Deep.Slices
import Derived.Deep.Grids
import Derived.ChangeSame
import Derived.ChangeVars
import Derived.LaidMore
import Derived.SliceStrings
import Derived.Stop.Joined
namespace Go.Proofs.YtfpncdhneikkaaaDoor
open Go.RowKit
set_option linter.unusedVariables false
set_option linter.unusedSimpArgs false
open Go.ChangeShapes Go.WideShapes Go.ChangeAt Go.Deep
theorem own : ownKnob Tryd.prog.godebug = none := by kernel_rfl
theorem laidOut : laidOutB Tryd.prog = true := by kernel_rfl
section
variable {H : Type} {enc : TypeId × Value → H}
theorem args_keep {W W' : World} (hb : Below W.heap.size W W') : ∀ {ts : List TypeId} {vs : List Value} {ds : List (DataW H)} {ps : List MemPlace}, (∀ t ∈ ts, Tryd.prog.readableRec t = true ∧ t < Tryd.prog.types.size) →
    DataW.TrodAll enc Tryd.prog W 0 (fun _ => true) true ts vs ds ps → (∀ x ∈ ps, x.block < W.heap.size) → ∀ sp : Nat → Bool, (∀ x ∈ ps, sp x.block = true) → DataW.TrodAll enc Tryd.prog W' 0 sp true ts vs ds ps
  | [], vs, ds, ps, _, h, _, _, _ => by
    match vs, ds, h with
    | [], [], h => exact h
  | t :: ts, vs, ds, ps, hr, h, hlt, sp, hsp => by
    match vs, ds, h with
    | v :: vs, d :: ds, h =>
      obtain ⟨p, p', hd, hs, rfl⟩ := h
      refine ⟨p, p', ?_, ?_, rfl⟩
      · exact WideElems.Trod_stays laidOut (hr t List.mem_cons_self).1 (hr t List.mem_cons_self).2 hd (fun x hx => hb.same (hlt x (List.mem_append_left _ hx))) (fun x hx => hsp x (List.mem_append_left _ hx))
      · exact args_keep hb (fun u hu => hr u (List.mem_cons_of_mem _ hu)) hs (fun x hx => hlt x (List.mem_append_right _ hx)) sp (fun x hx => hsp x (List.mem_append_right _ hx))
theorem law_post {fn : Func} {s : ChangeSpec} (hv0 : s.vars = []) (hrt : fn.resultTypes = #[4]) (hread : ∀ t ∈ fn.params.toList, Tryd.prog.readableRec t = true ∧ t < Tryd.prog.types.size)
    {W W' : World} {args : Array Value} {ds gs : List (DataW H)} {before : List MemPlace} (hW : DataW.Whole enc Tryd.prog fn.params.toList s.vars false W args.toList ds gs before)
    (hfn : s.fn H (ds ++ gs) = { results := [.lit (.bool true)], args := ds }) (hb : Below W.heap.size W W') :
    s.post enc Tryd.prog fn false true false false W args (.bool true) W' := by
  have hlt : ∀ p ∈ before, p.block < W.heap.size := fun p hp => hW.lt p hp
  have hold : ∀ p ∈ before, (fun b => decide (b < W.heap.size)) p.block = true := fun p hp => by simpa using hlt p hp
  obtain ⟨p, q, hA, hV, hpq, hz, hn⟩ := hW
  rw [hv0] at hV
  obtain ⟨rfl, rfl⟩ := trodVars_none hV
  have hW' : DataW.Whole enc Tryd.prog fn.params.toList s.vars false W args.toList ds [] before := ⟨p, [], hA, by rw [hv0]; rfl, hpq, hz, hn⟩
  obtain rfl : before = p := by simpa using hpq
  have hargs : ∀ sp : Nat → Bool, (∀ p ∈ before, sp p.block = true) → DataW.TrodAll enc Tryd.prog W' 0 sp true fn.params.toList args.toList ds before := fun sp hsp => args_keep hb hread hA hlt sp hsp
  refine ⟨ds, [], before, [], before, [], hW', ?_, by rw [hfn]; exact hargs _ hold, by rw [hfn, hv0]; rfl, World.keptBut_mono (fun p hp => ⟨hp, Or.inr (Or.inl hp)⟩) (hb.frame (· ∈ before)), fun _ => ?_⟩
  · rw [hfn, hrt]
    exact trodAll_cons_mk (shut_bool Tryd.underlying4 _) trodAll_mk0
  · refine ⟨ok_one hrt rfl (okWide_bool_mk Tryd.underlying4 _), _, [], ([] ++ before) ++ [], ⟨[] ++ before, [], trodAll_append (hargs _ (fun _ _ => rfl)) (by rw [hrt]; exact trodAll_cons_mk (shut_bool Tryd.underlying4 _) trodAll_mk0), by rw [hv0]; rfl, rfl, ?_, by simp⟩, ?_⟩
    · intro b off hp
      have hin : MemPlace.cell b off ∈ before := by simpa using hp
      rw [hb.frozen (hlt _ hin)]
      exact hz b off hin
    · intro p hp _
      simpa using hp
end
theorem gLists : Tryd.prog.globalNamed "carding/label.lists" = some 0 := by kernel_rfl
theorem tLists : (Tryd.prog.globals[0]?).map (·.type) = some 44 := by kernel_rfl
theorem cells44 : Tryd.prog.cellsOf 44 = 6 := by kernel_rfl
theorem cells28 : Tryd.prog.cellsOf 28 = 1 := by kernel_rfl
theorem cells9 : Tryd.prog.cellsOf 9 = 1 := by kernel_rfl
theorem cells4 : Tryd.prog.cellsOf 4 = 1 := by kernel_rfl
theorem spot_none {w : World} {a : Addr} {v : Value} (h : w.cell? a = some v) : a = ⟨a.block, a.off, none⟩ := by
  unfold World.cell? at h
  split at h
  · split at h
    · cases h
    · rename_i hs
      obtain ⟨b, o, s⟩ := a
      cases s with
      | none => rfl
      | some x => simp at hs
  · cases h
theorem strs_map {H : Type} {ss : List ByteArray} {l : List (List UInt8)} (h : strs (H := H) ss = l.map fun x => .lit (.string x)) : ss = l.map str := by
  have hl : ss.length = l.length := by have := congrArg List.length h; simpa [strs] using this
  apply List.ext_getElem
  · simpa using hl
  · intro i h1 h2
    have h3 : (strs (H := H) ss)[i]? = (l.map fun x => DataW.lit (.string x))[i]? := by rw [h]
    have h4 : i < l.length := by omega
    simp [strs, h1, h4] at h3
    rw [List.getElem_map, ← h3]
    exact (str_eta _).symm
/-- The rows of a table of texts of which it is known how it reads. -/
theorem rows_of_texts {H : Type} {enc : TypeId × Value → H} {w : World} {base fuel : Nat} {sp : Nat → Bool} {held : Bool} {cs : List Value} {q : List MemPlace} {L : List (List (List UInt8))}
    (h : DataW.trod enc Tryd.prog w base sp held fuel 44 cs = some (.agg (L.map fun l => .slice (l.map fun x => .lit (.string x)) []), q)) (hne : ∀ l ∈ L, l ≠ []) :
    ∀ e (he : e < L.length), ∃ b off cap, cs[e]? = some (.slice (some ⟨b, off, none⟩) L[e].length cap) ∧ ∀ i (hi : i < L[e].length), w.cell? ⟨b, off + i, none⟩ = some (.string (str L[e][i])) := by
  obtain ⟨xs, m, _, hx, hl, hn, hel⟩ := DataW.trod_array Tryd.underlying44 h
  simp only [Prod.mk.injEq, DataW.agg.injEq] at hx
  have hlen : L.length = 6 := by have := congrArg List.length hx.1; simp at this; omega
  intro e he
  have h1 := hel e (by omega)
  rw [cells28, Nat.mul_one] at h1
  have hxs : e < xs.length := by omega
  rw [List.getElem?_eq_getElem hxs] at h1
  have hd : xs[e].1 = .slice (L[e].map fun x => .lit (.string x)) [] := by
    have h2 : (xs.map (·.1))[e]? = (L.map fun l => DataW.slice (H := H) (l.map fun x => .lit (.string x)) [])[e]? := by rw [← hx.1]
    simpa [hxs, he] using h2
  rcases open_strings Tryd.underlying28 Tryd.underlying9 cells9 h1 with ⟨_, h2⟩ | ⟨a, len, cap, ss, hcs, _, hle, hm, hz, h2, hcell, _⟩
  · rw [h2] at hd; cases hd
  · rw [h2] at hd
    simp only [DataW.slice.injEq] at hd
    have hss := strs_map hd.1
    have hsl : len ≤ ss.length := by rw [hz]; split <;> omega
    have hlL : len = L[e].length := by have := congrArg List.length hss; simp at this; omega
    have hat : ∀ i (hi : i < L[e].length), w.cell? (a.add i) = some (.string (str L[e][i])) := fun i hi => by
      rw [hcell i (by omega)]
      have h3 : (ss.take len)[i]? = (L[e].map str)[i]? := by rw [hss]
      rw [List.getElem?_take_of_lt (by omega)] at h3
      have hi2 : i < ss.length := by omega
      simp [hi2, hi] at h3
      simp [List.getD, hi2, h3]
    have hpos : 0 < L[e].length := List.length_pos_iff.2 (hne _ (List.getElem_mem he))
    have h0 := hat 0 hpos
    have ha := spot_none (show w.cell? a = _ by simpa [Addr.add] using h0)
    obtain ⟨b, off, sp⟩ := a
    simp only [Addr.mk.injEq, true_and] at ha
    subst ha
    refine ⟨b, off, cap, ?_, fun i hi => ?_⟩
    · have hc2 : (cs.drop e).take 1 = [.slice (some ⟨b, off, none⟩) len cap] := hcs
      have he2 : e < cs.length := by rw [hl, cells44]; omega
      rw [List.drop_eq_getElem_cons he2, List.take_succ_cons, List.take_zero] at hc2
      injection hc2 with hc2 _
      rw [List.getElem?_eq_getElem he2, hc2, hlL]
    · have := hat i hi
      have hadd : (⟨b, off, none⟩ : Addr).add i = ⟨b, off + i, none⟩ := by unfold Addr.add; split <;> simp_all
      rwa [hadd] at this
abbrev laid1 : List (String × DataW Unit) := [("carding/label.lists", Rows.laid_carding_label_lists)]
def lists6 : List (List (List UInt8)) := [lst 0, lst 1, lst 2, lst 3, lst 4, lst 5]
theorem lists6_at {e : Nat} (he : e < 6) : lists6[e]? = some (lst e) := by
  rcases (by omega : e = 0 ∨ e = 1 ∨ e = 2 ∨ e = 3 ∨ e = 4 ∨ e = 5) with rfl | rfl | rfl | rfl | rfl | rfl <;> rfl
theorem gl_of_laid {W : World} (h : laidMetH Tryd.prog laid1 W) : Gl W := by
  rw [MakeChecks.laidMetH_plain _ _ _ (by kernel_rfl)] at h
  obtain ⟨ps, ⟨g0, t0, cs0, f0, p0, q0, hg0, ht0, hv0, hd0, _, _⟩, _, _⟩ := h
  obtain rfl := Option.some.inj (gLists.symm.trans hg0)
  obtain rfl := Option.some.inj (tLists.symm.trans ht0)
  have c0 := rows_of_texts (L := lists6) (by exact hd0) (by decide)
  have e0 := World.var?_cell hg0 hv0
  simp only [← Array.getElem?_toList] at e0
  have hrow : ∀ e, e < 6 → ∃ b off cap, W.cell? ⟨0, e, none⟩ = some (.slice (some ⟨b, off, none⟩) (lst e).length cap) ∧ ∀ i (hi : i < (lst e).length), W.cell? ⟨b, off + i, none⟩ = some (.string (str (lst e)[i])) := by
    intro e he
    have hl : e < lists6.length := he
    obtain ⟨b, off, cap, h1, h2⟩ := c0 e hl
    have h3 : lists6[e] = lst e := by
      have := lists6_at he
      rw [List.getElem?_eq_getElem hl] at this
      exact Option.some.inj this
    rw [h3] at h1
    refine ⟨b, off, cap, (e0 e).trans h1, fun i hi => ?_⟩
    have := h2 i (by rw [h3]; exact hi)
    simpa only [h3] using this
  have hpos : 0 < W.heap.size := by
    obtain ⟨b, off, cap, h1, _⟩ := hrow 0 (by omega)
    exact World.block_lt_of_cell? W ⟨0, 0, none⟩ h1
  refine ⟨hpos, Nat.le_refl _, fun e he => ?_⟩
  obtain ⟨b, off, cap, h1, h2⟩ := hrow e he
  have hl : 0 < (lst e).length := by
    rcases (by omega : e = 0 ∨ e = 1 ∨ e = 2 ∨ e = 3 ∨ e = 4 ∨ e = 5) with rfl | rfl | rfl | rfl | rfl | rfl <;> decide
  exact ⟨b, off, cap, h1, World.block_lt_of_cell? W ⟨b, off + 0, none⟩ (h2 0 hl), h2⟩
section
variable {H : Type} {enc : TypeId × Value → H} {w : World} {base : Nat} {held : Bool}
theorem open_str {v : Value} {d : DataW H} {p : List MemPlace} {r : Reach} {b : Nat} (hv : Value.okWide Tryd.prog w r b 9 v) (h : DataW.Trod enc Tryd.prog w base (fun _ => true) held 9 v d p) :
    ∃ s : ByteArray, v = .string s ∧ d = .lit (.string s.data.toList) ∧ s.size ≤ maxLen := by
  obtain ⟨s, e1, e2, _, e3⟩ := Go.ChangeMaps.open_string Tryd.underlying9 hv h
  exact ⟨s, e1, e2, e3⟩
theorem open_bits {v : Value} {d : DataW H} {p : List MemPlace} {r : Reach} {b : Nat} (hv : Value.okWide Tryd.prog w r b 32 v) (h : DataW.Trod enc Tryd.prog w base (fun _ => true) held 32 v d p) :
    ∃ us : List Bool, Bits w v us ∧ us.length ≤ maxLen := by
  obtain ⟨a0, len0, cap0, rfl⟩ := okWide_slice Tryd.underlying32 hv
  obtain ⟨fuel, hf⟩ := h
  rcases open_bools Tryd.underlying32 Tryd.underlying4 cells4 hf with ⟨hcs, hx⟩ | ⟨a, len, cap, B, hcs, _, hle, hmax, hx, hcell⟩
  · simp [Value.cells] at hcs
    obtain ⟨rfl, rfl, rfl⟩ := hcs
    exact ⟨[], .inl ⟨rfl, _, _, rfl⟩, by simp⟩
  · simp [Value.cells] at hcs
    obtain ⟨rfl, rfl, rfl⟩ := hcs
    by_cases h0 : len0 = 0
    · subst h0
      exact ⟨[], .inl ⟨rfl, _, _, rfl⟩, by simp⟩
    · have hc0 := hcell 0 (by omega)
      have ha := spot_none (show w.cell? a = _ by simpa [Addr.add] using hc0)
      obtain ⟨b2, off, sp⟩ := a
      simp only [Addr.mk.injEq, true_and] at ha
      subst ha
      have hat : ∀ i, i < cap0 → w.cell? ⟨b2, off + i, none⟩ = some (.bool (B i)) := fun i hi => by
        have := hcell i hi
        have hadd : (⟨b2, off, none⟩ : Addr).add i = ⟨b2, off + i, none⟩ := by unfold Addr.add; split <;> simp_all
        rwa [hadd] at this
      have hl : ((List.range len0).map B).length = len0 := by simp
      refine ⟨(List.range len0).map B, .inr ⟨b2, off, cap0, by rw [hl], ?_, fun i hi => ?_⟩, by rw [hl]; omega⟩
      · exact World.block_lt_of_cell? w ⟨b2, off + 0, none⟩ (hat 0 (by omega))
      · rw [hat i (by simp at hi; omega)]
        simp
end
end Go.Proofs.YtfpncdhneikkaaaDoor
