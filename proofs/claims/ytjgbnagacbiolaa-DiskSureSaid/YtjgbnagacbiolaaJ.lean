import Derived.Test.YtjgbnagacbiolaaW
import Derived.Lib.SmallJoins
import Derived.Deep.Slices
import Derived.Deep.Fields
import Derived.ChangeSame
namespace Go.Proofs.Ytjgbnagacbiolaa
open Go.RowKit
set_option linter.unusedVariables false
set_option linter.unusedSimpArgs false
open Go.ChangeShapes Go.WideShapes Go.ChangeAt
theorem own : ownKnob Try.prog.godebug = none := by kernel_rfl
theorem laid : laidOutB Try.prog = true := by kernel_rfl
section
variable {H : Type} {enc : TypeId × Value → H}
theorem args_keep {W W' : World} (hb : Below W.heap.size W W') : ∀ {ts : List TypeId} {vs : List Value} {ds : List (DataW H)} {ps : List MemPlace}, (∀ t ∈ ts, Try.prog.readableRec t = true ∧ t < Try.prog.types.size) →
    DataW.TrodAll enc Try.prog W 0 (fun _ => true) true ts vs ds ps → (∀ x ∈ ps, x.block < W.heap.size) → ∀ sp : Nat → Bool, (∀ x ∈ ps, sp x.block = true) → DataW.TrodAll enc Try.prog W' 0 sp true ts vs ds ps
  | [], vs, ds, ps, _, h, _, _, _ => by
    match vs, ds, h with
    | [], [], h => exact h
  | t :: ts, vs, ds, ps, hr, h, hlt, sp, hsp => by
    match vs, ds, h with
    | v :: vs, d :: ds, h =>
      obtain ⟨p, p', hd, hs, rfl⟩ := h
      refine ⟨p, p', ?_, ?_, rfl⟩
      · exact WideElems.Trod_stays laid (hr t List.mem_cons_self).1 (hr t List.mem_cons_self).2 hd (fun x hx => hb.same (hlt x (List.mem_append_left _ hx))) (fun x hx => hsp x (List.mem_append_left _ hx))
      · exact args_keep hb (fun u hu => hr u (List.mem_cons_of_mem _ hu)) hs (fun x hx => hlt x (List.mem_append_right _ hx)) sp (fun x hx => hsp x (List.mem_append_right _ hx))
theorem law_post {fn : Func} {s : ChangeSpec} (hv0 : s.vars = []) (hrt : fn.resultTypes = #[4]) (hread : ∀ t ∈ fn.params.toList, Try.prog.readableRec t = true ∧ t < Try.prog.types.size)
    {W W' : World} {args : Array Value} {ds gs : List (DataW H)} {before : List MemPlace} (hW : DataW.Whole enc Try.prog fn.params.toList s.vars false W args.toList ds gs before)
    (hfn : s.fn H (ds ++ gs) = { results := [.lit (.bool true)], args := ds }) (hb : Below W.heap.size W W') :
    s.post enc Try.prog fn false true false false W args (.bool true) W' := by
  have hlt : ∀ p ∈ before, p.block < W.heap.size := fun p hp => hW.lt p hp
  have hold : ∀ p ∈ before, (fun b => decide (b < W.heap.size)) p.block = true := fun p hp => by simpa using hlt p hp
  obtain ⟨p, q, hA, hV, hpq, hz, hn⟩ := hW
  rw [hv0] at hV
  obtain ⟨rfl, rfl⟩ := trodVars_none hV
  have hW' : DataW.Whole enc Try.prog fn.params.toList s.vars false W args.toList ds [] before := ⟨p, [], hA, by rw [hv0]; rfl, hpq, hz, hn⟩
  obtain rfl : before = p := by simpa using hpq
  have hargs : ∀ sp : Nat → Bool, (∀ p ∈ before, sp p.block = true) → DataW.TrodAll enc Try.prog W' 0 sp true fn.params.toList args.toList ds before := fun sp hsp => args_keep hb hread hA hlt sp hsp
  refine ⟨ds, [], before, [], before, [], hW', ?_, by rw [hfn]; exact hargs _ hold, by rw [hfn, hv0]; rfl, World.keptBut_mono (fun p hp => ⟨hp, Or.inr (Or.inl hp)⟩) (hb.frame (· ∈ before)), fun _ => ?_⟩
  · rw [hfn, hrt]
    exact trodAll_cons_mk (shut_bool Try.underlying4 _) trodAll_mk0
  · refine ⟨ok_one hrt rfl (okWide_bool_mk Try.underlying4 _), _, [], ([] ++ before) ++ [], ⟨[] ++ before, [], trodAll_append (hargs _ (fun _ _ => rfl)) (by rw [hrt]; exact trodAll_cons_mk (shut_bool Try.underlying4 _) trodAll_mk0), by rw [hv0]; rfl, rfl, ?_, by simp⟩, ?_⟩
    · intro b off hp
      have hin : MemPlace.cell b off ∈ before := by simpa using hp
      rw [hb.frozen (hlt _ hin)]
      exact hz b off hin
    · intro p hp _
      simpa using hp
end
theorem cells26 : Try.prog.cellsOf 26 = 7 := by kernel_rfl
theorem cells24 : Try.prog.cellsOf 24 = 4 := by kernel_rfl
theorem cells23 : Try.prog.cellsOf 23 = 2 := by kernel_rfl
theorem cells29 : Try.prog.cellsOf 29 = 4 := by kernel_rfl
theorem cells9 : Try.prog.cellsOf 9 = 1 := by kernel_rfl
theorem cells3 : Try.prog.cellsOf 3 = 1 := by kernel_rfl
theorem cells4 : Try.prog.cellsOf 4 = 1 := by kernel_rfl
theorem cells27 : Try.prog.cellsOf 27 = 1 := by kernel_rfl
section
variable {H : Type} {enc : TypeId × Value → H} {w : World} {base : Nat} {spare : Nat → Bool} {held : Bool}
theorem open_zone {fuel : Nat} {a b : Value} {x : DataW H × List MemPlace} (h : DataW.trod enc Try.prog w base spare held fuel 23 [a, b] = some x) :
    ∃ (s : ByteArray) (n : Int), a = .string s ∧ b = .int .i64 n ∧ s.size ≤ maxLen ∧ (Lit.int .i64 n).wf = true := by
  obtain ⟨ys, m, _, _, _, hl, hf⟩ := DataW.trod_struct Try.underlying23 h
  match ys, hl with
  | [y0, y1], _ =>
    have h0 := hf 0 _ rfl
    have h1 := hf 1 _ rfl
    simp [cells9, cells3] at h0 h1
    obtain ⟨s, e0, _, hs⟩ := DataW.trod_string Try.underlying9 h0
    obtain ⟨n, e1, _, hn⟩ := DataW.trod_int Try.underlying3 h1
    simp at e0 e1
    exact ⟨s, n, e0, e1, hs, hn⟩
theorem open_disk {r : Reach} {b : Nat} {v : Value} {d : DataW H} {p : List MemPlace} (hv : Value.okWide Try.prog w r b 26 v) (h : DataW.Trod enc Try.prog w base spare held 26 v d p) :
    ∃ (b0 : ByteArray) (s0 : Int) (b1 : ByteArray) (s1 c l : Int) (dn : Bool), v = .agg #[.string b0, .int .i64 s0, .string b1, .int .i64 s1, .int .i64 c, .int .i64 l, .bool dn] ∧ Dk.fit ⟨⟨b0, s0⟩, ⟨b1, s1⟩, c, l, dn⟩ := by
  obtain ⟨cs, rfl, hsz⟩ := okWide_struct Try.underlying26 hv
  obtain ⟨cl⟩ := cs
  match cl, hsz.trans cells26 with
  | [c0, c1, c2, c3, c4, c5, c6], _ =>
    obtain ⟨fuel, hf⟩ := h
    obtain ⟨xs, n, _, _, _, hlen, hg⟩ := DataW.trod_struct Try.underlying26 hf
    match xs, hlen with
    | [y0, y1, y2, y3], _ =>
      have h0 := hg 0 _ rfl
      have h1 := hg 1 _ rfl
      have h2 := hg 2 _ rfl
      have h3 := hg 3 _ rfl
      simp [Value.cells, cells24, cells3, cells4] at h0 h1 h2 h3
      obtain ⟨zs, m, _, _, _, hzl, hz⟩ := DataW.trod_array Try.underlying24 h0
      have hz0 := hz 0 (by omega)
      have hz1 := hz 1 (by omega)
      simp [cells23] at hz0 hz1
      match zs, hzl with
      | [z0, z1], _ =>
        simp at hz0 hz1
        obtain ⟨b0, s0, rfl, rfl, hs0, hn0⟩ := open_zone hz0
        obtain ⟨b1, s1, rfl, rfl, hs1, hn1⟩ := open_zone hz1
        obtain ⟨c, e1, _, hc⟩ := DataW.trod_int Try.underlying3 h1
        obtain ⟨l, e2, _, hl⟩ := DataW.trod_int Try.underlying3 h2
        obtain ⟨dn, e3, _⟩ := DataW.trod_bool Try.underlying4 h3
        simp at e1 e2 e3
        subst e1 e2 e3
        exact ⟨b0, s0, b1, s1, c, l, dn, rfl, hs0, hs1, (bounds_i64 hl).2⟩
theorem open_write {r : Reach} {b : Nat} {v : Value} {d : DataW H} {p : List MemPlace} (hv : Value.okWide Try.prog w r b 29 v) (h : DataW.Trod enc Try.prog w base spare held 29 v d p) :
    ∃ (op zn : Int) (b : ByteArray) (n : Int), v = .agg #[.int .i8 op, .int .i64 zn, .string b, .int .i64 n] ∧ b.size ≤ maxLen := by
  obtain ⟨cs, rfl, hsz⟩ := okWide_struct Try.underlying29 hv
  obtain ⟨cl⟩ := cs
  match cl, hsz.trans cells29 with
  | [c0, c1, c2, c3], _ =>
    obtain ⟨fuel, hf⟩ := h
    obtain ⟨xs, n, _, _, _, hlen, hg⟩ := DataW.trod_struct Try.underlying29 hf
    match xs, hlen with
    | [y0, y1, y2, y3], _ =>
      have h0 := hg 0 _ rfl
      have h1 := hg 1 _ rfl
      have h2 := hg 2 _ rfl
      have h3 := hg 3 _ rfl
      simp [Value.cells, cells27, cells3, cells9] at h0 h1 h2 h3
      obtain ⟨op, e0, _, _⟩ := DataW.trod_int Try.underlying27 h0
      obtain ⟨zn, e1, _, _⟩ := DataW.trod_int Try.underlying3 h1
      obtain ⟨bb, e2, _, hb⟩ := DataW.trod_string Try.underlying9 h2
      obtain ⟨n, e3, _, _⟩ := DataW.trod_int Try.underlying3 h3
      simp at e0 e1 e2 e3
      subst e0 e1 e2 e3
      exact ⟨op, zn, bb, n, rfl, hb⟩
end
end Go.Proofs.Ytjgbnagacbiolaa
