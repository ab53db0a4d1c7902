/- The contracts of the document's own Scalars, Valid, Text, Loose, and of utf8.Text; lists of numbers. -/
import Derived.Test.YtehehmpepkgbeaaDoorBP
import Derived.Lib.AppendStr
import Derived.Laws.DeepStrings4
namespace Go.Proofs.YtehehmpepkgbeaaDoor
open Go.RowKit
set_option linter.unusedVariables false
set_option linter.unusedSimpArgs false
theorem info3 : (Tryd.prog.info? 3).map (fun i => (i.zero, i.size, i.bytes)) = some (some (.int .i64 0), 1, 8) := by kernel_rfl
def OwnI (w : World) (base : Nat) (v : Value) (xs : List Int) : Prop := w.ownsRow base 3 1 v xs.length (xs.map (Value.int .i64))
/-- v is a slice of numbers that reads as xs. -/
def Ints (w : World) (v : Value) (xs : List Int) : Prop :=
  (xs = [] ∧ ∃ p cap, v = .slice p 0 cap) ∨ (∃ b off cap, v = .slice (some ⟨b, off, none⟩) xs.length cap ∧ b < w.heap.size ∧ ∀ i (h : i < xs.length), w.cell? ⟨b, off + i, none⟩ = some (.int .i64 xs[i]))
theorem Ints.below {w w' : World} {v : Value} {xs : List Int} (h : Ints w v xs) (hb : Below w.heap.size w w') : Ints w' v xs := by
  rcases h with h | ⟨b, off, cap, e, hl, hc⟩
  · exact .inl h
  · exact .inr ⟨b, off, cap, e, by have := hb.size; omega, fun i hi => (hb.cell (p := ⟨b, off + i, none⟩) hl).trans (hc i hi)⟩
theorem ints_of_own {w : World} {base : Nat} {v : Value} {xs : List Int} (h : OwnI w base v xs) : Ints w v xs := by
  have h' := h
  rcases h.2 with ⟨rfl, h0⟩ | ⟨g, cap, cur, rfl, hb, hg, _⟩
  · exact .inl ⟨List.eq_nil_of_length_eq_zero h0, none, 0, rfl⟩
  · refine .inr ⟨g, 0, cap, rfl, (Array.getElem?_eq_some_iff.1 hg).1, fun i hi => ?_⟩
    have hc := (World.ownsRow.cells (g := g) h' rfl) i (.int .i64 xs[i]) (by simp [hi])
    have hadd : (⟨g, 0, none⟩ : Addr).add i = ⟨g, 0 + i, none⟩ := by unfold Addr.add; split <;> simp_all
    rwa [hadd] at hc
theorem ownI_nil (w : World) (base : Nat) : OwnI w base (.slice none 0 0) [] := World.ownsRow_nil w base 3 1
def ScalS (w : World) (l : List UInt8) (e : Ending) (w' : World) : Prop :=
  ∃ v, e = .returned (.tuple #[v, .bool (okB l)]) ∧ OwnI w' w.heap.size v (if okB l = true then scl l else []) ∧ Below w.heap.size w w'
theorem nxt_bad {s : ByteArray} {a n : Nat} (h : a < s.size) (hd : dec (s.data.toList.drop a) = (-1, n)) : nxt s a = (0, 0, false) := by
  unfold nxt; rw [if_pos (by omega)]; simp [hd]
theorem nxt_good {s : ByteArray} {a n : Nat} {r : Int} (h : a < s.size) (hd : dec (s.data.toList.drop a) = (r, n)) (hr : r ≠ -1) : nxt s a = (r, (n : Int), true) := by
  unfold nxt; rw [if_pos (by omega)]; simp only [Int.toNat_natCast, hd]; rw [if_neg hr]
/-- Where the walk over a text stands: behind `a` bytes, `xs` having come, all of them right. -/
structure At (l : List UInt8) (a : Nat) (xs : List Int) : Prop where
  le : a ≤ l.length
  few : xs.length ≤ a
  scl : scl l = xs ++ scl (l.drop a)
  ok : okB l = okB (l.drop a)
theorem At.start (l : List UInt8) : At l 0 [] := ⟨Nat.zero_le _, Nat.le_refl _, by simp, by simp⟩
theorem drop_ne {l : List UInt8} {a : Nat} (h : a < l.length) : l.drop a ≠ [] := by
  intro e
  have := congrArg List.length e
  simp at this
  omega
theorem ok_cons {l : List UInt8} (h : l ≠ []) : okB l = ((dec l).1 != -1 && okB (l.drop (dec l).2)) := by
  unfold okB; rw [prt_cons h]; rfl
theorem At.next {l : List UInt8} {a : Nat} {xs : List Int} (h : At l a xs) (hl : a < l.length) {r : Int} {n : Nat} (hd : dec (l.drop a) = (r, n)) (hr : r ≠ -1) : At l (a + n) (xs ++ [r]) := by
  have hne := drop_ne hl
  have h1 := dec_pos (l.drop a)
  have h2 := dec_le hne
  rw [hd] at h1 h2
  simp only [List.length_drop] at h1 h2
  refine ⟨by omega, by simp; have := h.few; omega, ?_, ?_⟩
  · rw [h.scl, scl_cons hne, hd, List.drop_drop]; simp
  · rw [h.ok, ok_cons hne, hd, List.drop_drop]; simp [hr]
theorem At.bad {l : List UInt8} {a : Nat} {xs : List Int} (h : At l a xs) (hl : a < l.length) {n : Nat} (hd : dec (l.drop a) = (-1, n)) : okB l = false := by
  rw [h.ok, ok_cons (drop_ne hl), hd]; simp
theorem At.done {l : List UInt8} {a : Nat} {xs : List Int} (h : At l a xs) (hl : ¬ a < l.length) : okB l = true ∧ YtehehmpepkgbeaaDoor.scl l = xs := by
  have e : l.drop a = [] := List.drop_eq_nil_of_le (by omega)
  refine ⟨h.ok.trans (by rw [e]; first | done | rfl), ?_⟩
  have := h.scl
  rw [e] at this
  simpa [scl_nil] using this
set_option maxHeartbeats 800000 in
theorem rscal_any (s : ByteArray) (w : World) (hs : s.size ≤ 100000) : Calls Tryd.prog 36 #[.string s] w fun e w' => ScalS w s.data.toList e w' := by
  obtain ⟨i0, hi, hz0, hz1, hz2⟩ := info_parts info3
  have hsz : s.data.toList.length = s.size := by simp
  obtain ⟨l, HL⟩ : ∃ l, Hid (s.data.toList = l) := ⟨_, Lib.hid rfl⟩
  have HSZ : Hid (l.length = s.size) := Lib.hid (by rw [← HL.out]; exact hsz)
  rw [HL.out]
  clear hsz
  go_enter Tryd.func36, Tryd.ntmps36
  go_wp2_with fail
  go_loopg [4, 5] (s.size + 1) (fun g q4 q5 wr => ∃ (v : Value) (a : Nat) (xs : List Int), v = q4 ∧ a + g = s.size + 1 ∧ q5 = .int .i64 a ∧ Hid (At l a xs) ∧ Hid (OwnI wr w.heap.size q4 xs) ∧ Hid (Below w.heap.size w wr))
  case atStart => exact ⟨_, 0, [], rfl, by omega, rfl, Lib.hid (At.start _), Lib.hid (ownI_nil _ _), Lib.hid (Below.refl _ _)⟩
  case round =>
    obtain ⟨v, a, xs, rfl, hag, rfl, HA, HO, HB⟩ := hrel
    have hwz := HB.out.size
    have hfew : xs.length ≤ 100000 := by have := HA.out.few; have := HA.out.le; rw [HSZ.out] at this; omega
    by_cases hlt : a < s.size
    · obtain ⟨r, n, hd⟩ : ∃ r n, dec (l.drop a) = (r, n) := ⟨_, _, rfl⟩
      have hn := rnext_any s a wr hs
      unfold NextS at hn
      by_cases hr : r = -1
      · subst hr
        rw [nxt_bad hlt (by rw [HL.out]; exact hd)] at hn
        have Hn := Lib.hid hn
        have HR : Hid (ScalS w l (.returned (.tuple #[.slice none 0 0, .bool false])) wr) := Lib.hid (by
          have := HA.out.bad (by rw [HSZ.out]; exact hlt) hd
          exact ⟨_, by rw [this], by rw [this]; exact ownI_nil _ _, HB.out⟩)
        clear hn hd
        go_wp2_with (go_at_call 38; refine Hn.out.mono ?_; rintro e w' ⟨rfl, rfl⟩)
        go_ret2
        exact HR.out
      · rw [nxt_good hlt (by rw [HL.out]; exact hd) hr] at hn
        have Hn := Lib.hid hn
        have HN : Hid (At l (a + n) (xs ++ [r])) := Lib.hid (HA.out.next (by rw [HSZ.out]; exact hlt) hd hr)
        have h1 : 1 ≤ n := by have := dec_pos (l.drop a); rw [hd] at this; exact this
        have h2 : n ≤ 4 := by have := dec_le4 (l.drop a); rw [hd] at this; exact this
        have h3 : a + n ≤ s.size := by have := HN.out.le; rw [HSZ.out] at this; exact this
        clear hn hd hr
        go_wp2_with (first
          | (go_at_call 38; refine Hn.out.mono ?_; rintro e w' ⟨rfl, rfl⟩)
          | (at_builtin; refine wpList_append_lies _ rfl _ _ _ rfl w.heap.size 3 i0 _ 1 8 Tryd.underlying39 hi hz0 hz1 hz2 rfl (by omega) v xs.length _ rfl (World.ownsRow.alloc HO.out _) ⟨wr.heap.size, 0, none⟩ 1 1 [_] rfl rfl (cell_one_new _ _ _) (by simp [Value.oneCell']) (by omega) (by unfold maxLen; omega) (by omega) (by simp; omega) (wr.heap.size + 1) (by simp) ?_; intro g1 cap1 w1 hown1 hgrow1 hat1 hlt1))
        have HO1 : Hid (OwnI w1 w.heap.size (.slice (some ⟨g1, 0, none⟩) (xs.length + 1) cap1) (xs ++ [r])) := Lib.hid (by
          unfold OwnI; rw [List.length_append, List.map_append]; exact hown1)
        have HB1 : Hid (Below w.heap.size w w1) := Lib.hid (((HB.out.alloc hwz _)).grown hgrow1 (by simp; omega) (fun k e => (World.ownsRow.lt HO.out k e).1))
        clear hown1 hgrow1 hat1 hlt1
        go_wp2_with fail
        go_roundg (gk - n)
        case measure => omega
        case rel => exact ⟨_, a + n, _, rfl, by omega, by go_num, HN, HO1, HB1⟩
    · have HR : Hid (ScalS w l (.returned (.tuple #[_, .bool true])) wr) := Lib.hid (by
        obtain ⟨h1, h2⟩ := HA.out.done (by rw [HSZ.out]; exact hlt)
        exact ⟨_, by rw [h1], by rw [h1, if_pos rfl, h2]; exact HO.out, HB.out⟩)
      go_wp2_with fail
      go_ret2
      exact HR.out
theorem strCells_str (xs : List UInt8) : Lib.strCells (str xs) = xs.map u8v := rfl
theorem rvalid_any (s : ByteArray) (w : World) (hs : s.size ≤ 100000) : Calls Tryd.prog 31 #[.string s] w fun e w' => RetB (okB s.data.toList) w e w' := by
  have hsc := Lib.hid (rscal_any s w hs)
  go_enter Tryd.func31, Tryd.ntmps31
  go_wp2_with (go_at_call 36; refine hsc.out.mono ?_; rintro e w' ⟨v, rfl, HO, HB⟩; have HB := Lib.hid HB; clear HO)
  go_ret
  exact ⟨rfl, HB.out⟩
def TextS (w : World) (xs : List Int) (e : Ending) (w' : World) : Prop :=
  e = .returned (.tuple #[.string (str (if allB xs = true then encs xs else [])), .bool (allB xs)]) ∧ Below w.heap.size w w'
theorem text_bad {w w' : World} {xs : List Int} (h : allB xs = false) (hb : Below w.heap.size w w') : TextS w xs (.returned (.tuple #[.string ⟨#[]⟩, .bool false])) w' := by
  refine ⟨?_, hb⟩; rw [h]; rfl
theorem text_good {w w' : World} {xs : List Int} (h : allB xs = true) (hb : Below w.heap.size w w') : TextS w xs (.returned (.tuple #[.string (str (encs xs)), .bool true])) w' := by
  refine ⟨?_, hb⟩; rw [h, if_pos rfl]
/-- Behind k of the numbers, all of them scalars. -/
structure TAt (xs : List Int) (k : Nat) : Prop where
  le : k ≤ xs.length
  ok : allB (xs.take k) = true
theorem encs_len (xs : List Int) : (encs xs).length ≤ 4 * xs.length := by
  induction xs with
  | nil => simp [encs]
  | cons x xs ih =>
    rw [encs_cons]
    have := enc_le x
    simp only [List.length_append, List.length_cons]
    omega
theorem TAt.few {xs : List Int} {k : Nat} (h : TAt xs k) : (encs (xs.take k)).length ≤ 4 * k := by
  have := encs_len (xs.take k)
  have := List.length_take_le k xs
  omega
theorem TAt.next {xs : List Int} {k : Nat} (h : TAt xs k) (hk : k < xs.length) (hr : isB xs[k] = true) : TAt xs (k + 1) ∧ encs (xs.take (k + 1)) = encs (xs.take k) ++ enc xs[k] := by
  have e : xs.take (k + 1) = xs.take k ++ [xs[k]] := by rw [List.take_succ_eq_append_getElem hk]
  refine ⟨⟨hk, ?_⟩, ?_⟩
  · rw [e, allB_app]; exact ⟨h.ok, by simp [allB, hr]⟩
  · rw [e, encs_app]; simp [encs]
theorem TAt.bad {xs : List Int} {k : Nat} (hk : k < xs.length) (hr : isB xs[k] = false) : allB xs = false := by
  cases h : allB xs
  · rfl
  · simp only [allB, List.all_eq_true] at h
    have := h xs[k] (List.getElem_mem hk)
    rw [hr] at this; cases this
theorem TAt.done {xs : List Int} {k : Nat} (h : TAt xs k) (hk : ¬ k < xs.length) : allB xs = true ∧ xs.take k = xs := by
  have e := List.take_of_length_le (show xs.length ≤ k by omega)
  exact ⟨by have := h.ok; rwa [e] at this, e⟩
end Go.Proofs.YtehehmpepkgbeaaDoor
