/- Joined: BS, BSA, SQ, SE, BI, BV, BV2. -/
import Derived.BigQuiet
import Derived.Deep.AppendLies
import Derived.Deep.DeepCutAuto
import Derived.Deep.LoopGhost
import Derived.Deep.QuietTactic
import Derived.Deep.RegionHeld3
import Derived.Laws.AppendOwn
import Derived.Laws.BytesArg
import Derived.Laws.DeepStrings4
import Derived.Laws.IdiomStrings
import Derived.Lib.AppendStr
import Derived.Lib.Hide
import Derived.LoopIn
import Derived.LoopN
import Derived.LoopNIn
import Derived.Maps.AppendAt
import Derived.OpenShut
import Derived.Outline
import Derived.OwnWalkIn
import Derived.ProofKit
import Derived.RangeFuncBound
import Derived.RangeFuncBox
import Derived.RangeFuncCalls
import Derived.RangeFuncLeaves
import Derived.RangeFuncNested
import Derived.Shelf.Abstract
import Derived.Shelf.RegionOpen
import Derived.StillTailTactics
import Derived.TacticsInMore
import Derived.Test.YtppabkllconkjaaGreatDoorRows
import Derived.WalkKit
import Derived.WalkMore
import Derived.Test.YtppabkllconkjaaGreatDoorK01
import Derived.Test.YtppabkllconkjaaGreatDoorK02
/- The contracts of the document's own Scalars, Valid, Text, Loose, and of utf8.Text; lists of numbers. -/
namespace Go.Proofs.YtppabkllconkjaaGreatDoor.U
open Go.RowKit
set_option linter.unusedVariables false
set_option linter.unusedSimpArgs false
set_option maxRecDepth 100000
theorem info3 : (Tryz.prog.info? 3).map (fun i => (i.zero, i.size, i.bytes)) = some (some (.int .i64 0), 1, 8) := by kernel_rfl
def OwnI (w : World) (base : Nat) (v : Value) (xs : List Int) : Prop := w.ownsRow base 3 1 v xs.length (xs.map (Value.int .i64))
/-- v is a slice of numbers that reads as xs. -/
def Ints (w : World) (v : Value) (xs : List Int) : Prop :=
  (xs = [] ∧ ∃ p cap, v = .slice p 0 cap) ∨ (∃ b off cap, v = .slice (some ⟨b, off, none⟩) xs.length cap ∧ b < w.heap.size ∧ ∀ i (h : i < xs.length), w.cell? ⟨b, off + i, none⟩ = some (.int .i64 xs[i]))
theorem Ints.below {w w' : World} {v : Value} {xs : List Int} (h : Ints w v xs) (hb : Below w.heap.size w w') : Ints w' v xs := by
  rcases h with h | ⟨b, off, cap, e, hl, hc⟩
  · exact .inl h
  · exact .inr ⟨b, off, cap, e, by have := hb.size; omega, fun i hi => (hb.cell (p := ⟨b, off + i, none⟩) hl).trans (hc i hi)⟩
theorem ints_of_own {w : World} {base : Nat} {v : Value} {xs : List Int} (h : OwnI w base v xs) : Ints w v xs := by
  have h' := h
  rcases h.2 with ⟨rfl, h0⟩ | ⟨g, cap, cur, rfl, hb, hg, _⟩
  · exact .inl ⟨List.eq_nil_of_length_eq_zero h0, none, 0, rfl⟩
  · refine .inr ⟨g, 0, cap, rfl, (Array.getElem?_eq_some_iff.1 hg).1, fun i hi => ?_⟩
    have hc := (World.ownsRow.cells (g := g) h' rfl) i (.int .i64 xs[i]) (by simp [hi])
    have hadd : (⟨g, 0, none⟩ : Addr).add i = ⟨g, 0 + i, none⟩ := by unfold Addr.add; split <;> simp_all
    rwa [hadd] at hc
theorem ownI_nil (w : World) (base : Nat) : OwnI w base (.slice none 0 0) [] := World.ownsRow_nil w base 3 1
def ScalS (w : World) (l : List UInt8) (e : Ending) (w' : World) : Prop :=
  ∃ v, e = .returned (.tuple #[v, .bool (okB l)]) ∧ OwnI w' w.heap.size v (if okB l = true then scl l else []) ∧ Below w.heap.size w w'
theorem nxt_bad {s : ByteArray} {a n : Nat} (h : a < s.size) (hd : dec (s.data.toList.drop a) = (-1, n)) : nxt s a = (0, 0, false) := by
  unfold nxt; rw [if_pos (by omega)]; simp [hd]
theorem nxt_good {s : ByteArray} {a n : Nat} {r : Int} (h : a < s.size) (hd : dec (s.data.toList.drop a) = (r, n)) (hr : r ≠ -1) : nxt s a = (r, (n : Int), true) := by
  unfold nxt; rw [if_pos (by omega)]; simp only [Int.toNat_natCast, hd]; rw [if_neg hr]
/-- Where the walk over a text stands: behind `a` bytes, `xs` having come, all of them right. -/
structure At (l : List UInt8) (a : Nat) (xs : List Int) : Prop where
  le : a ≤ l.length
  few : xs.length ≤ a
  scl : scl l = xs ++ scl (l.drop a)
  ok : okB l = okB (l.drop a)
theorem At.start (l : List UInt8) : At l 0 [] := ⟨Nat.zero_le _, Nat.le_refl _, by simp, by simp⟩
theorem drop_ne {l : List UInt8} {a : Nat} (h : a < l.length) : l.drop a ≠ [] := by
  intro e
  have := congrArg List.length e
  simp at this
  omega
theorem ok_cons {l : List UInt8} (h : l ≠ []) : okB l = ((dec l).1 != -1 && okB (l.drop (dec l).2)) := by
  unfold okB; rw [prt_cons h]; rfl
theorem At.next {l : List UInt8} {a : Nat} {xs : List Int} (h : At l a xs) (hl : a < l.length) {r : Int} {n : Nat} (hd : dec (l.drop a) = (r, n)) (hr : r ≠ -1) : At l (a + n) (xs ++ [r]) := by
  have hne := drop_ne hl
  have h1 := dec_pos (l.drop a)
  have h2 := dec_le hne
  rw [hd] at h1 h2
  simp only [List.length_drop] at h1 h2
  refine ⟨by omega, by simp; have := h.few; omega, ?_, ?_⟩
  · rw [h.scl, scl_cons hne, hd, List.drop_drop]; simp
  · rw [h.ok, ok_cons hne, hd, List.drop_drop]; simp [hr]
theorem At.bad {l : List UInt8} {a : Nat} {xs : List Int} (h : At l a xs) (hl : a < l.length) {n : Nat} (hd : dec (l.drop a) = (-1, n)) : okB l = false := by
  rw [h.ok, ok_cons (drop_ne hl), hd]; simp
theorem At.done {l : List UInt8} {a : Nat} {xs : List Int} (h : At l a xs) (hl : ¬ a < l.length) : okB l = true ∧ YtppabkllconkjaaGreatDoor.U.scl l = xs := by
  have e : l.drop a = [] := List.drop_eq_nil_of_le (by omega)
  refine ⟨h.ok.trans (by rw [e]; first | done | rfl), ?_⟩
  have := h.scl
  rw [e] at this
  simpa [scl_nil] using this
set_option maxHeartbeats 800000 in
theorem rscal_any (s : ByteArray) (w : World) (hs : s.size ≤ 100000) : Calls Tryz.prog 39 #[.string s] w fun e w' => ScalS w s.data.toList e w' := by
  obtain ⟨i0, hi, hz0, hz1, hz2⟩ := info_parts info3
  have hsz : s.data.toList.length = s.size := by simp
  obtain ⟨l, HL⟩ : ∃ l, Hid (s.data.toList = l) := ⟨_, Lib.hid rfl⟩
  have HSZ : Hid (l.length = s.size) := Lib.hid (by rw [← HL.out]; exact hsz)
  rw [HL.out]
  clear hsz
  go_enter Tryz.func39, Tryz.ntmps39
  go_wp2_with fail
  go_loopg [4, 5] (s.size + 1) (fun g q4 q5 wr => ∃ (v : Value) (a : Nat) (xs : List Int), v = q4 ∧ a + g = s.size + 1 ∧ q5 = .int .i64 a ∧ Hid (At l a xs) ∧ Hid (OwnI wr w.heap.size q4 xs) ∧ Hid (Below w.heap.size w wr))
  case atStart => exact ⟨_, 0, [], rfl, by omega, rfl, Lib.hid (At.start _), Lib.hid (ownI_nil _ _), Lib.hid (Below.refl _ _)⟩
  case round =>
    obtain ⟨v, a, xs, rfl, hag, rfl, HA, HO, HB⟩ := hrel
    have hwz := HB.out.size
    have hfew : xs.length ≤ 100000 := by have := HA.out.few; have := HA.out.le; rw [HSZ.out] at this; omega
    by_cases hlt : a < s.size
    · obtain ⟨r, n, hd⟩ : ∃ r n, dec (l.drop a) = (r, n) := ⟨_, _, rfl⟩
      have hn := rnext_any s a wr hs
      unfold NextS at hn
      by_cases hr : r = -1
      · subst hr
        rw [nxt_bad hlt (by rw [HL.out]; exact hd)] at hn
        have Hn := Lib.hid hn
        have HR : Hid (ScalS w l (.returned (.tuple #[.slice none 0 0, .bool false])) wr) := Lib.hid (by
          have := HA.out.bad (by rw [HSZ.out]; exact hlt) hd
          exact ⟨_, by rw [this], by rw [this]; exact ownI_nil _ _, HB.out⟩)
        clear hn hd
        go_wp2_with (go_at_call 70; refine Hn.out.mono ?_; rintro e w' ⟨rfl, rfl⟩)
        go_ret2
        exact HR.out
      · rw [nxt_good hlt (by rw [HL.out]; exact hd) hr] at hn
        have Hn := Lib.hid hn
        have HN : Hid (At l (a + n) (xs ++ [r])) := Lib.hid (HA.out.next (by rw [HSZ.out]; exact hlt) hd hr)
        have h1 : 1 ≤ n := by have := dec_pos (l.drop a); rw [hd] at this; exact this
        have h2 : n ≤ 4 := by have := dec_le4 (l.drop a); rw [hd] at this; exact this
        have h3 : a + n ≤ s.size := by have := HN.out.le; rw [HSZ.out] at this; exact this
        clear hn hd hr
        go_wp2_with (first
          | (go_at_call 70; refine Hn.out.mono ?_; rintro e w' ⟨rfl, rfl⟩)
          | (at_builtin; refine wpList_append_lies _ rfl _ _ _ rfl w.heap.size 3 i0 _ 1 8 Tryz.underlying74 hi hz0 hz1 hz2 rfl (by omega) v xs.length _ rfl (World.ownsRow.alloc HO.out _) ⟨wr.heap.size, 0, none⟩ 1 1 [_] rfl rfl (cell_one_new _ _ _) (by simp [Value.oneCell']) (by omega) (by unfold maxLen; omega) (by omega) (by simp; omega) (wr.heap.size + 1) (by simp) ?_; intro g1 cap1 w1 hown1 hgrow1 hat1 hlt1))
        have HO1 : Hid (OwnI w1 w.heap.size (.slice (some ⟨g1, 0, none⟩) (xs.length + 1) cap1) (xs ++ [r])) := Lib.hid (by
          unfold OwnI; rw [List.length_append, List.map_append]; exact hown1)
        have HB1 : Hid (Below w.heap.size w w1) := Lib.hid (((HB.out.alloc hwz _)).grown hgrow1 (by simp; omega) (fun k e => (World.ownsRow.lt HO.out k e).1))
        clear hown1 hgrow1 hat1 hlt1
        go_wp2_with fail
        go_roundg (gk - n)
        case measure => omega
        case rel => exact ⟨_, a + n, _, rfl, by omega, by go_num, HN, HO1, HB1⟩
    · have HR : Hid (ScalS w l (.returned (.tuple #[_, .bool true])) wr) := Lib.hid (by
        obtain ⟨h1, h2⟩ := HA.out.done (by rw [HSZ.out]; exact hlt)
        exact ⟨_, by rw [h1], by rw [h1, if_pos rfl, h2]; exact HO.out, HB.out⟩)
      go_wp2_with fail
      go_ret2
      exact HR.out
theorem strCells_str (xs : List UInt8) : Lib.strCells (str xs) = xs.map u8v := rfl
theorem rvalid_any (s : ByteArray) (w : World) (hs : s.size ≤ 100000) : Calls Tryz.prog 19 #[.string s] w fun e w' => RetB (okB s.data.toList) w e w' := by
  have hsc := Lib.hid (rscal_any s w hs)
  go_enter Tryz.func19, Tryz.ntmps19
  go_wp2_with (go_at_call 39; refine hsc.out.mono ?_; rintro e w' ⟨v, rfl, HO, HB⟩; have HB := Lib.hid HB; clear HO)
  go_ret
  exact ⟨rfl, HB.out⟩
def TextS (w : World) (xs : List Int) (e : Ending) (w' : World) : Prop :=
  e = .returned (.tuple #[.string (str (if allB xs = true then encs xs else [])), .bool (allB xs)]) ∧ Below w.heap.size w w'
theorem text_bad {w w' : World} {xs : List Int} (h : allB xs = false) (hb : Below w.heap.size w w') : TextS w xs (.returned (.tuple #[.string ⟨#[]⟩, .bool false])) w' := by
  refine ⟨?_, hb⟩; rw [h]; rfl
theorem text_good {w w' : World} {xs : List Int} (h : allB xs = true) (hb : Below w.heap.size w w') : TextS w xs (.returned (.tuple #[.string (str (encs xs)), .bool true])) w' := by
  refine ⟨?_, hb⟩; rw [h, if_pos rfl]
/-- Behind k of the numbers, all of them scalars. -/
structure TAt (xs : List Int) (k : Nat) : Prop where
  le : k ≤ xs.length
  ok : allB (xs.take k) = true
theorem encs_len (xs : List Int) : (encs xs).length ≤ 4 * xs.length := by
  induction xs with
  | nil => simp [encs]
  | cons x xs ih =>
    rw [encs_cons]
    have := enc_le x
    simp only [List.length_append, List.length_cons]
    omega
theorem TAt.few {xs : List Int} {k : Nat} (h : TAt xs k) : (encs (xs.take k)).length ≤ 4 * k := by
  have := encs_len (xs.take k)
  have := List.length_take_le k xs
  omega
theorem TAt.next {xs : List Int} {k : Nat} (h : TAt xs k) (hk : k < xs.length) (hr : isB xs[k] = true) : TAt xs (k + 1) ∧ encs (xs.take (k + 1)) = encs (xs.take k) ++ enc xs[k] := by
  have e : xs.take (k + 1) = xs.take k ++ [xs[k]] := by rw [List.take_succ_eq_append_getElem hk]
  refine ⟨⟨hk, ?_⟩, ?_⟩
  · rw [e, allB_app]; exact ⟨h.ok, by simp [allB, hr]⟩
  · rw [e, encs_app]; simp [encs]
theorem TAt.bad {xs : List Int} {k : Nat} (hk : k < xs.length) (hr : isB xs[k] = false) : allB xs = false := by
  cases h : allB xs
  · rfl
  · simp only [allB, List.all_eq_true] at h
    have := h xs[k] (List.getElem_mem hk)
    rw [hr] at this; cases this
theorem TAt.done {xs : List Int} {k : Nat} (h : TAt xs k) (hk : ¬ k < xs.length) : allB xs = true ∧ xs.take k = xs := by
  have e := List.take_of_length_le (show xs.length ≤ k by omega)
  exact ⟨by have := h.ok; rwa [e] at this, e⟩
set_option maxHeartbeats 800000 in
theorem rtext_any (v : Value) (xs : List Int) (w : World) (hI : Ints w v xs) (hlen : xs.length ≤ 10000) : Calls Tryz.prog 67 #[v] w fun e w' => TextS w xs e w' := by
  obtain ⟨i0, hi, hz0, hz1, hz2⟩ := info_parts info5
  rcases hI with ⟨rfl, p, cap, rfl⟩ | ⟨b, off, cap, rfl, hbl, hc⟩
  · have hconv := conv_own (own_nil w w.heap.size)
    have HE : Hid (TextS w [] (.returned (.tuple #[.string (str []), .bool true])) w) := Lib.hid (text_good (xs := []) rfl (Below.refl _ _))
    go_enter Tryz.func67, Tryz.ntmps67
    go_wp2_with fail
    refine wp_loop_rounds 1 ?_; rw [rounds_succ]
    go_wp2_with fail
    go_ret2
    exact HE.out
  · have HC := Lib.hid hc
    clear hc
    obtain ⟨N, HN⟩ : ∃ N, Hid (xs.length = N) := ⟨_, Lib.hid rfl⟩
    have hN : N ≤ 10000 := by rw [← HN.out]; exact hlen
    rw [HN.out]
    clear hlen
    go_enter Tryz.func67, Tryz.ntmps67
    go_wp2_with fail
    go_loopg [4, 5] (N + 1) (fun g q4 q5 wr => ∃ (u : Value) (k : Nat), u = q4 ∧ k + g = N + 1 ∧ q5 = .int .i64 k ∧ Hid (TAt xs k) ∧ Hid (Own8 wr w.heap.size q4 (encs (xs.take k))) ∧ Hid (Below w.heap.size w wr))
    case atStart => exact ⟨_, 0, rfl, by omega, rfl, Lib.hid ⟨Nat.zero_le _, rfl⟩, Lib.hid (own_nil _ _), Lib.hid (Below.refl _ _)⟩
    case round =>
      obtain ⟨u, k, rfl, hkg, rfl, HA, HO, HB⟩ := hrel
      have hwz := HB.out.size
      have hkN : k ≤ N := by have := HA.out.le; rw [HN.out] at this; exact this
      by_cases hk : k < N
      · have hk' : k < xs.length := by rw [HN.out]; exact hk
        obtain ⟨r, hr⟩ : ∃ r, xs[k] = r := ⟨_, rfl⟩
        have hcell : wr.cell? ⟨b, off + k, none⟩ = some (.int .i64 r) := by
          have := (HB.out.cell (p := ⟨b, off + k, none⟩) hbl).trans (HC.out k hk')
          rw [hr] at this; exact this
        cases hb : isB r
        · have HE := Lib.hid (text_bad (TAt.bad hk' (by rw [hr]; exact hb)) HB.out)
          have HP : Hid (Calls Tryz.prog 102 #[.int .i64 r] wr fun e w' => e = .returned (.tuple #[.string ⟨#[]⟩, .bool false]) ∧ Below wr.heap.size wr w') := Lib.hid (by
            have := rput_any r wr
            unfold PutS at this; rw [enc0 hb, hb] at this; exact this)
          have HE2 : Hid (∀ w', Below wr.heap.size wr w' → TextS w xs (.returned (.tuple #[.string ⟨#[]⟩, .bool false])) w') := Lib.hid (fun w' h => text_bad (TAt.bad hk' (by rw [hr]; exact hb)) (HB.out.trans (h.mono hwz)))
          clear hb hr hk'
          go_wp2_with (go_at_call 102; refine HP.out.mono ?_; rintro e w1 ⟨rfl, hb1⟩; have HB1 := Lib.hid hb1; clear hb1)
          go_ret2
          exact HE2.out _ HB1.out
        · obtain ⟨h1, h2⟩ := HA.out.next hk' (by rw [hr]; exact hb)
          have HA1 := Lib.hid h1
          have HX : Hid (encs (xs.take (k + 1)) = encs (xs.take k) ++ enc r) := Lib.hid (by rw [h2, hr])
          have HP : Hid (Calls Tryz.prog 102 #[.int .i64 r] wr fun e w' => e = .returned (.tuple #[.string (str (enc r)), .bool true]) ∧ Below wr.heap.size wr w') := Lib.hid (by
            have := rput_any r wr
            unfold PutS at this; rw [hb] at this; exact this)
          have hf := HA.out.few
          have he := enc_le r
          have hss : (str (enc r)).size ≤ 4 := by rw [str_size]; exact he
          clear hb hr hk' h1 h2
          go_wp2_with (first
            | (go_at_call 102; refine HP.out.mono ?_; rintro e w1 ⟨rfl, hb1⟩; have HB1 := Lib.hid hb1; have hw1z := hb1.size; clear hb1)
            | (at_builtin; refine Lib.wpList_append_own_string _ rfl _ _ _ _ rfl w.heap.size 5 i0 Tryz.underlying99 Tryz.underlying9 hi hz0 hz1 hz2 u (encs (xs.take k)).length ((encs (xs.take k)).map u8v) rfl (World.ownsRow.kept HO.out (row := none) ⟨HB1.out.os, HB1.out.tape, HB1.out.output, HB1.out.size, fun j hj _ => HB1.out.block j hj⟩ (by cases u.ownBlock <;> simp)) (str (enc r)) rfl (by unfold maxLen; omega) (by omega) (by omega) ?_; intro v2 w2 hown2 hgrow2 hnil2))
          have HO2 : Hid (Own8 w2 w.heap.size v2 (encs (xs.take (k + 1)))) := Lib.hid (by
            rw [HX.out]; unfold Own8; rw [List.length_append, List.map_append]
            have := hown2
            rw [str_size, strCells_str] at this
            exact this)
          have HB2 : Hid (Below w.heap.size w w2) := Lib.hid ((HB.out.trans (HB1.out.mono hwz)).grown hgrow2 (by omega) (fun j e => (World.ownsRow.lt HO.out j e).1))
          clear hown2 hgrow2 hnil2
          go_wp2_with fail
          go_roundg (gk - 1)
          case measure => omega
          case rel => exact ⟨_, k + 1, rfl, by omega, by go_num, HA1, HO2, HB2⟩
      · obtain ⟨h1, h2⟩ := HA.out.done (by rw [HN.out]; exact hk)
        have hO : Own8 wr w.heap.size u (encs xs) := by have := HO.out; rwa [h2] at this
        have hconv := conv_own hO
        have HE := Lib.hid (text_good h1 HB.out)
        clear hO h1 h2
        go_wp2_with fail
        go_ret2
        exact HE.out
end Go.Proofs.YtppabkllconkjaaGreatDoor.U
/- The contracts of utf8.Text, the comparison of lists, the document's own Loose. -/
namespace Go.Proofs.YtppabkllconkjaaGreatDoor.U
open Go.RowKit
set_option linter.unusedVariables false
set_option linter.unusedSimpArgs false
set_option maxRecDepth 100000
set_option maxHeartbeats 800000 in
theorem text_any (v : Value) (xs : List Int) (w : World) (hg : Gl w) (hI : Ints w v xs) (hlen : xs.length ≤ 10000) : Calls Tryz.prog 129 #[v] w fun e w' => TextS w xs e w' := by
  have hw2 := hg.size
  rcases hI with ⟨rfl, p, cap, rfl⟩ | ⟨b, off, cap, rfl, hbl, hc⟩
  · have hconv := conv_own (own_nil w w.heap.size)
    have HE : Hid (TextS w [] (.returned (.tuple #[.string (str []), .bool true])) w) := Lib.hid (text_good (xs := []) rfl (Below.refl _ _))
    go_enter Tryz.func129, Tryz.ntmps129
    go_wp2_with fail
    refine wp_loop_rounds 1 ?_; rw [rounds_succ]
    go_wp2_with fail
    go_ret2
    exact HE.out
  · have HC := Lib.hid hc
    clear hc
    obtain ⟨N, HN⟩ : ∃ N, Hid (xs.length = N) := ⟨_, Lib.hid rfl⟩
    have hN : N ≤ 10000 := by rw [← HN.out]; exact hlen
    rw [HN.out]
    have HG := Lib.hid hg
    clear hlen hg
    go_enter Tryz.func129, Tryz.ntmps129
    go_wp2_with fail
    go_loopg [4, 9] (N + 1) (fun g q4 q9 wr => ∃ (u : Value) (k : Nat), u = q4 ∧ k + g = N + 1 ∧ q9 = .int .i64 k ∧ Hid (TAt xs k) ∧ Hid (Own8 wr w.heap.size q4 (encs (xs.take k))) ∧ Hid (Below w.heap.size w wr))
    case atStart => exact ⟨_, 0, rfl, by omega, rfl, Lib.hid ⟨Nat.zero_le _, rfl⟩, Lib.hid (own_nil _ _), Lib.hid (Below.refl _ _)⟩
    case round =>
      obtain ⟨u, k, rfl, hkg, rfl, HA, HO, HB⟩ := hrel
      have hwz := HB.out.size
      have hkN : k ≤ N := by have := HA.out.le; rw [HN.out] at this; exact this
      have HGr : Hid (Gl wr) := Lib.hid (HG.out.below' HB.out)
      by_cases hk : k < N
      · have hk' : k < xs.length := by rw [HN.out]; exact hk
        obtain ⟨r, hr⟩ : ∃ r, xs[k] = r := ⟨_, rfl⟩
        have hcell : wr.cell? ⟨b, off + k, none⟩ = some (.int .i64 r) := by
          have := (HB.out.cell (p := ⟨b, off + k, none⟩) hbl).trans (HC.out k hk')
          rw [hr] at this; exact this
        cases hb : isB r
        · have HE := Lib.hid (text_bad (TAt.bad hk' (by rw [hr]; exact hb)) HB.out)
          have HP := Lib.hid (is_no r wr HGr.out hb)
          clear hb hr hk'
          go_wp2_with (go_at_call 160; refine HP.out.mono ?_; rintro e w1 ⟨rfl, rfl⟩)
          go_ret2
          exact HE.out
        · obtain ⟨h1, h2⟩ := HA.out.next hk' (by rw [hr]; exact hb)
          have HA1 := Lib.hid h1
          have HX : Hid (encs (xs.take (k + 1)) = encs (xs.take k) ++ enc r) := Lib.hid (by rw [h2, hr])
          have HP := Lib.hid (is_yes r wr HGr.out hb)
          have hf := HA.out.few
          have HAd := Lib.hid (add_any u w.heap.size (encs (xs.take k)) r wr HGr.out hw2 hwz HO.out (by omega) hb)
          clear hb hr hk' h1 h2
          go_wp2_with (first
            | (go_at_call 160; refine HP.out.mono ?_; rintro e w1 ⟨rfl, rfl⟩)
            | (go_at_call 127; refine HAd.out.mono ?_; rintro e w2 ⟨v2, rfl, hown2, hgrow2⟩; have HOx := Lib.hid hown2; have HGx := Lib.hid hgrow2; clear hown2 hgrow2))
          have HO2 : Hid (Own8 w2 w.heap.size v2 (encs (xs.take (k + 1)))) := Lib.hid (by rw [HX.out]; exact HOx.out)
          have HB2 : Hid (Below w.heap.size w w2) := Lib.hid (HB.out.grown HGx.out (by omega) (fun j e => (World.ownsRow.lt HO.out j e).1))
          go_roundg (gk - 1)
          case measure => omega
          case rel => exact ⟨_, k + 1, rfl, by omega, by go_num, HA1, HO2, HB2⟩
      · obtain ⟨h1, h2⟩ := HA.out.done (by rw [HN.out]; exact hk)
        have hO : Own8 wr w.heap.size u (encs xs) := by have := HO.out; rwa [h2] at this
        have hconv := conv_own hO
        have HE := Lib.hid (text_good h1 HB.out)
        clear hO h1 h2
        go_wp2_with fail
        go_ret2
        exact HE.out
/-- Where the loose walk over a text stands: behind `a` bytes, `ys` having been told, the first wrong part (or -1) being wr. -/
structure LAt (l : List UInt8) (a : Nat) (ys : List UInt8) (wr : Int) : Prop where
  le : a ≤ l.length
  few : ys.length ≤ 3 * a
  lo : loose l = ys ++ loose (l.drop a)
  wr : (wr = -1 ∧ wrg (prt l) 0 = wrg (prt (l.drop a)) a) ∨ (0 ≤ wr ∧ wr ≤ a ∧ wrg (prt l) 0 = wr)
theorem LAt.start (l : List UInt8) : LAt l 0 [] (-1) := ⟨Nat.zero_le _, by simp, by simp, .inl ⟨rfl, by simp⟩⟩
theorem loose_cons {l : List UInt8} (h : l ≠ []) : loose l = enc (fixR (dec l).1) ++ loose (l.drop (dec l).2) := by
  unfold loose; rw [scl_cons h, List.map_cons, encs_cons]
theorem enc_wrong : enc 65533 = [239, 191, 189] := by decide +kernel
theorem LAt.step {l : List UInt8} {a : Nat} {ys : List UInt8} {wr : Int} (h : LAt l a ys wr) (hl : a < l.length) {r : Int} {n : Nat} (hd : dec (l.drop a) = (r, n)) :
    LAt l (a + n) (ys ++ enc (fixR r)) (if r = -1 ∧ wr < 0 then a else wr) := by
  have hne := drop_ne hl
  have h1 := dec_pos (l.drop a)
  have h2 := dec_le hne
  rw [hd] at h1 h2
  simp only [List.length_drop] at h1 h2
  have hlo : loose (l.drop a) = enc (fixR r) ++ loose (l.drop (a + n)) := by rw [loose_cons hne, hd, List.drop_drop]
  have hp : prt (l.drop a) = (r, n) :: prt (l.drop (a + n)) := by rw [prt_cons hne, hd, List.drop_drop]
  refine ⟨by omega, ?_, by rw [h.lo, hlo]; simp, ?_⟩
  · have := h.few
    rw [List.length_append]
    by_cases hr : r = -1
    · subst hr; have : (enc (fixR (-1))).length = 3 := by decide +kernel
      omega
    · have hk := (dec_ok hd hr)
      have e : fixR r = r := by unfold fixR; rw [if_neg hr]
      rw [e, ← hk.2.1]; omega
  · rcases h.wr with ⟨w1, w2⟩ | ⟨w1, w2, w3⟩
    · by_cases hr : r = -1
      · rw [if_pos ⟨hr, by omega⟩]
        right
        refine ⟨by omega, by omega, ?_⟩
        rw [w2, hp, wrg_bad (by exact hr)]
      · rw [if_neg (by omega)]
        left
        exact ⟨w1, by rw [w2, hp, wrg_good (by exact hr)]⟩
    · rw [if_neg (by omega)]
      exact .inr ⟨w1, by omega, w3⟩
theorem LAt.done {l : List UInt8} {a : Nat} {ys : List UInt8} {wr : Int} (h : LAt l a ys wr) (hl : ¬ a < l.length) : loose l = ys ∧ wrg (prt l) 0 = wr := by
  have e : l.drop a = [] := List.drop_eq_nil_of_le (by omega)
  refine ⟨by rw [h.lo, e]; simp [loose, scl_nil, encs], ?_⟩
  rcases h.wr with ⟨w1, w2⟩ | ⟨w1, _, w2⟩
  · rw [w2, e, w1]; rfl
  · exact w2
def LooseS (w : World) (l : List UInt8) (e : Ending) (w' : World) : Prop :=
  e = .returned (.tuple #[.string (str (loose l)), .int .i64 (wrg (prt l) 0)]) ∧ Below w.heap.size w w'
theorem extract_str (s : ByteArray) (a n : Nat) (xs : List UInt8) (h : s.data.toList.drop a = xs ++ (s.data.toList.drop a).drop n) (hn : n = xs.length) : s.extract a (a + n) = str xs := by
  apply ByteArray.ext
  rw [ByteArray.data_extract]
  apply Array.ext'
  show (s.data.extract a (a + n)).toList = xs
  rw [Array.toList_extract, List.extract_eq_take_drop, h, hn]
  simp
set_option maxHeartbeats 1600000 in
theorem rloose_any (s : ByteArray) (w : World) (hs : s.size ≤ 30000) : Calls Tryz.prog 34 #[.string s] w fun e w' => LooseS w s.data.toList e w' := by
  obtain ⟨i0, hi, hz0, hz1, hz2⟩ := info_parts info5
  have hsz : s.data.toList.length = s.size := by simp
  obtain ⟨l, HL⟩ : ∃ l, Hid (s.data.toList = l) := ⟨_, Lib.hid rfl⟩
  have HSZ : Hid (l.length = s.size) := Lib.hid (by rw [← HL.out]; exact hsz)
  rw [HL.out]
  clear hsz
  go_enter Tryz.func34, Tryz.ntmps34
  go_wp2_with fail
  go_loopg [4, 5, 6] (s.size + 1) (fun g q4 q5 q6 wr => ∃ (u : Value) (a : Nat) (ys : List UInt8) (x : Int), u = q4 ∧ a + g = s.size + 1 ∧ q5 = .int .i64 x ∧ q6 = .int .i64 a ∧ Hid (LAt l a ys x) ∧ Hid (Own8 wr w.heap.size q4 ys) ∧ Hid (Below w.heap.size w wr))
  case atStart => exact ⟨_, 0, [], -1, rfl, by omega, rfl, rfl, Lib.hid (LAt.start _), Lib.hid (own_nil _ _), Lib.hid (Below.refl _ _)⟩
  case round =>
    obtain ⟨u, a, ys, x, rfl, hag, rfl, rfl, HA, HO, HB⟩ := hrel
    have hwz := HB.out.size
    have hale : a ≤ s.size := by have := HA.out.le; rw [HSZ.out] at this; exact this
    have hfew : ys.length ≤ 3 * a := HA.out.few
    by_cases hlt : a < s.size
    · obtain ⟨r, n, hd⟩ : ∃ r n, dec (l.drop a) = (r, n) := ⟨_, _, rfl⟩
      have hn := part_any s a wr (by omega) hlt
      rw [HL.out, hd] at hn
      have hstep := HA.out.step (by rw [HSZ.out]; exact hlt) hd
      have h1 : 1 ≤ n := by have := dec_pos (l.drop a); rw [hd] at this; exact this
      have h2 : n ≤ 4 := by have := dec_le4 (l.drop a); rw [hd] at this; exact this
      have h3 : a + n ≤ s.size := by have := hstep.le; rw [HSZ.out] at this; exact this
      by_cases hr : r = -1
      · subst hr
        have Hn : Hid (Calls Tryz.prog 63 #[.string s, .int .i64 a] wr fun e w' => e = .returned (.tuple #[.int .i64 0, .int .i64 n, .bool false]) ∧ wr = w') := Lib.hid hn
        rw [show enc (fixR (-1)) = [239, 191, 189] from enc_wrong] at hstep
        by_cases hx : x < 0
        · rw [if_pos ⟨rfl, hx⟩] at hstep
          have HS := Lib.hid hstep
          clear hn hd hstep
          go_wp2_with (first
            | (go_at_call 63; refine Hn.out.mono ?_; rintro e w1 ⟨rfl, rfl⟩)
            | (at_builtin; refine wpList_append_lies _ rfl _ _ _ rfl w.heap.size 5 i0 _ 1 1 Tryz.underlying99 hi hz0 hz1 hz2 rfl (by omega) u ys.length (ys.map u8v) rfl (World.ownsRow.alloc HO.out _) ⟨wr.heap.size, 0, none⟩ 3 3 [.int .u8 239, .int .u8 191, .int .u8 189] rfl rfl (World.news_of_block (cs := #[.int .u8 239, .int .u8 191, .int .u8 189]) (t := 5) (fr := (0, 0)) (heap_alloc_new wr _)) (by simp [Value.oneCell']) (by omega) (by unfold maxLen; omega) (by omega) (by simp; omega) (wr.heap.size + 1) (by simp) ?_; intro g1 cap1 w1 hown1 hgrow1 hat1 hlt1))
          have HO1 : Hid (Own8 w1 w.heap.size (.slice (some ⟨g1, 0, none⟩) (ys.length + 3) cap1) (ys ++ [239, 191, 189])) := Lib.hid (by
            unfold Own8; rw [List.length_append, List.map_append]; exact hown1)
          have HB1 : Hid (Below w.heap.size w w1) := Lib.hid (((HB.out.alloc hwz _)).grown hgrow1 (by simp; omega) (fun k e => (World.ownsRow.lt HO.out k e).1))
          clear hown1 hgrow1 hat1 hlt1
          go_wp2_with fail
          go_roundg (gk - n)
          case measure => omega
          case rel => exact ⟨_, a + n, _, a, rfl, by omega, rfl, by go_num, HS, HO1, HB1⟩
        · rw [if_neg (by omega)] at hstep
          have HS := Lib.hid hstep
          clear hn hd hstep
          go_wp2_with (first
            | (go_at_call 63; refine Hn.out.mono ?_; rintro e w1 ⟨rfl, rfl⟩)
            | (at_builtin; refine wpList_append_lies _ rfl _ _ _ rfl w.heap.size 5 i0 _ 1 1 Tryz.underlying99 hi hz0 hz1 hz2 rfl (by omega) u ys.length (ys.map u8v) rfl (World.ownsRow.alloc HO.out _) ⟨wr.heap.size, 0, none⟩ 3 3 [.int .u8 239, .int .u8 191, .int .u8 189] rfl rfl (World.news_of_block (cs := #[.int .u8 239, .int .u8 191, .int .u8 189]) (t := 5) (fr := (0, 0)) (heap_alloc_new wr _)) (by simp [Value.oneCell']) (by omega) (by unfold maxLen; omega) (by omega) (by simp; omega) (wr.heap.size + 1) (by simp) ?_; intro g1 cap1 w1 hown1 hgrow1 hat1 hlt1))
          have HO1 : Hid (Own8 w1 w.heap.size (.slice (some ⟨g1, 0, none⟩) (ys.length + 3) cap1) (ys ++ [239, 191, 189])) := Lib.hid (by
            unfold Own8; rw [List.length_append, List.map_append]; exact hown1)
          have HB1 : Hid (Below w.heap.size w w1) := Lib.hid (((HB.out.alloc hwz _)).grown hgrow1 (by simp; omega) (fun k e => (World.ownsRow.lt HO.out k e).1))
          clear hown1 hgrow1 hat1 hlt1
          go_wp2_with fail
          go_roundg (gk - n)
          case measure => omega
          case rel => exact ⟨_, a + n, _, x, rfl, by omega, rfl, by go_num, HS, HO1, HB1⟩
      · have Hn : Hid (Calls Tryz.prog 63 #[.string s, .int .i64 a] wr fun e w' => e = .returned (.tuple #[.int .i64 r, .int .i64 n, .bool true]) ∧ wr = w') := Lib.hid (by
          refine hn.mono ?_
          rintro e w' ⟨he, hw⟩
          refine ⟨?_, hw⟩
          rw [he]
          simp [hr])
        rw [if_neg (by omega), show fixR r = r by unfold fixR; rw [if_neg hr]] at hstep
        have HS := Lib.hid hstep
        obtain ⟨k1, k2, k3⟩ := dec_ok hd hr
        have hex : s.extract a (a + n) = str (enc r) := extract_str s a n (enc r) (by rw [HL.out]; exact k3) k2
        have hsl : ∀ w0 : World, (Instr.slice 9 (.string s) (some (.int .i64 (a : Int))) (some (.int .i64 ((a : Int) + (n : Int)))) none).run Tryz.prog w0 = .ok (.string (str (enc r))) w0 := by
          intro w0
          rw [run_slice_string_if w0 9 s .i64 .i64 _ _ Tryz.underlying9, if_pos (by omega), if_pos (by omega), ← hex]
          rfl
        have hsz2 : Hid ((str (enc r)).size = n) := Lib.hid (by rw [str_size]; exact k2.symm)
        clear hn hd hr hstep k1 k2 k3
        go_wp2_with (first
          | (go_at_call 63; refine Hn.out.mono ?_; rintro e w1 ⟨rfl, rfl⟩)
          | (at_builtin; refine Lib.wpList_append_own_string _ rfl _ _ _ _ rfl w.heap.size 5 i0 Tryz.underlying99 Tryz.underlying9 hi hz0 hz1 hz2 u ys.length (ys.map u8v) rfl HO.out (str (enc r)) rfl (by have := hsz2.out; unfold maxLen; omega) (by have := hsz2.out; omega) (by omega) ?_; intro v2 w2 hown2 hgrow2 hnil2))
        have HO2 : Hid (Own8 w2 w.heap.size v2 (ys ++ enc r)) := Lib.hid (by
          unfold Own8; rw [List.length_append, List.map_append]
          have := hown2
          rw [str_size, strCells_str] at this
          exact this)
        have HB2 : Hid (Below w.heap.size w w2) := Lib.hid (HB.out.grown hgrow2 (by omega) (fun j e => (World.ownsRow.lt HO.out j e).1))
        clear hown2 hgrow2 hnil2
        go_wp2_with fail
        go_roundg (gk - n)
        case measure => omega
        case rel => exact ⟨_, a + n, _, x, rfl, by omega, rfl, by go_num, HS, HO2, HB2⟩
    · have hO := HO.out
      have hconv := conv_own hO
      have HE : Hid (LooseS w l (.returned (.tuple #[.string (str ys), .int .i64 x])) wr) := Lib.hid (by
        obtain ⟨h1, h2⟩ := HA.out.done (by rw [HSZ.out]; exact hlt)
        unfold LooseS
        rw [h1, h2]
        exact ⟨rfl, HB.out⟩)
      clear hO
      go_wp2_with fail
      go_ret2
      exact HE.out
end Go.Proofs.YtppabkllconkjaaGreatDoor.U
/- The three encodings of single bytes, as plain mathematics; nothing of the program. -/
namespace Go.Proofs.YtppabkllconkjaaGreatDoor.U
set_option linter.unusedVariables false
set_option linter.unusedSimpArgs false
set_option maxRecDepth 100000
def w52 : List Int := [8364, 129, 8218, 402, 8222, 8230, 8224, 8225, 710, 8240, 352, 8249, 338, 141, 381, 143, 144, 8216, 8217, 8220, 8221, 8226, 8211, 8212, 732, 8482, 353, 8250, 339, 157, 382, 376]
def scW (b : Nat) : Int := if 128 ≤ b ∧ b < 160 then w52.getD (b - 128) 0 else b
def sc5 (b : Nat) : Int := if b < 161 ∨ b = 173 then b else if b = 240 then 8470 else if b = 253 then 167 else b - 160 + 1024
def sc15 (b : Nat) : Int := if b = 164 then 8364 else if b = 166 then 352 else if b = 168 then 353 else if b = 180 then 381 else if b = 184 then 382 else if b = 188 then 338 else if b = 189 then 339 else if b = 190 then 376 else b
/-- A byte's scalar. -/
def scE (e : Int) (b : Nat) : Int := if e = 3 then scW b else if e = 4 then sc5 b else if e = 5 then sc15 b else 0
/-- Is it one of the three? -/
def isE (e : Int) : Bool := e == 3 || e == 4 || e == 5
theorem isE_iff {e : Int} : isE e = true ↔ e = 3 ∨ e = 4 ∨ e = 5 := by simp [isE, or_assoc]
theorem isE_no {e : Int} : isE e = false ↔ ¬ e = 3 ∧ ¬ e = 4 ∧ ¬ e = 5 := by simp [isE, and_assoc]
/-- All scalars, by bytes. -/
def tbl (e : Int) : List Int := if isE e = true then (List.range 256).map (scE e) else []
/-- The first byte at which a scalar stands. -/
def look (f : Nat → Int) (n : Nat) (r : Int) : Option Nat := (List.range n).find? fun b => f b == r
def bf (e : Int) (r : Int) : Option Nat := if isE e = true then look (scE e) 256 r else none
theorem look_succ (f : Nat → Int) (n : Nat) (r : Int) : look f (n + 1) r = if (look f n r).isSome = true then look f n r else if f n = r then some n else none := by
  unfold look
  rw [List.range_succ, List.find?_append]
  cases h : List.find? (fun b => f b == r) (List.range n) with
  | some x => simp
  | none =>
    by_cases h2 : f n = r
    · simp [h2]
    · simp [h2]
theorem look_some {f : Nat → Int} {n : Nat} {r : Int} {b : Nat} (h : look f n r = some b) : b < n ∧ f b = r := by
  unfold look at h
  have h1 := List.find?_some h
  have h2 := List.mem_of_find?_eq_some h
  simp at h1 h2
  exact ⟨h2, h1⟩
theorem look_none {f : Nat → Int} {n : Nat} {r : Int} : look f n r = none ↔ ∀ b, b < n → f b ≠ r := by
  unfold look
  simp
theorem look_first {f : Nat → Int} {n m : Nat} {r : Int} (hm : m < n) (h0 : ∀ b, b < m → f b ≠ r) (h : f m = r) : look f n r = some m := by
  cases h1 : look f n r with
  | none => exact absurd h (look_none.1 h1 m hm)
  | some x =>
    obtain ⟨hx, hfx⟩ := look_some h1
    rcases Nat.lt_trichotomy x m with hlt | rfl | hgt
    · exact absurd hfx (h0 x hlt)
    · rfl
    · exfalso
      unfold look at h1
      rw [List.find?_eq_some_iff_append] at h1
      obtain ⟨_, pre, post, hab, hall⟩ := h1
      have hl : pre.length = x := by
        have e1 : (List.range n)[pre.length]? = some x := by rw [hab]; simp
        rw [List.getElem?_range (by
          have := congrArg List.length hab
          simp at this; omega)] at e1
        simpa using e1
      have hmem : m ∈ pre := by
        have e2 : (List.range n)[m]? = some m := List.getElem?_range hm
        rw [hab, List.getElem?_append_left (by omega)] at e2
        exact List.mem_of_getElem? e2
      have := hall m hmem
      simp at this
      exact this h
/-- A run of bytes and their scalars. -/
def scR : List (Int × Int × Int) → Int → Int
  | [], b => b
  | (f, s, n) :: t, b => if 0 ≤ b - f ∧ b - f < n then s + (b - f) else scR t b
def r5 : List (Int × Int × Int) := [(161, 1025, 12), (174, 1038, 2), (176, 1040, 64), (240, 8470, 1), (241, 1105, 12), (253, 167, 1), (254, 1118, 2)]
def r15 : List (Int × Int × Int) := [(164, 8364, 1), (166, 352, 1), (168, 353, 1), (180, 381, 1), (184, 382, 1), (188, 338, 2), (190, 376, 1)]
theorem scR_5 : ∀ b : Nat, b < 256 → scR r5 (b : Int) = sc5 b := by decide +kernel
theorem scR_15 : ∀ b : Nat, b < 256 → scR r15 (b : Int) = sc15 b := by decide +kernel
theorem sc_bd : ∀ e ∈ [(3 : Int), 4, 5], ∀ b : Nat, b < 256 → 0 ≤ scE e b ∧ scE e b < 55296 := by decide +kernel
/-- In each encoding no scalar has two bytes. -/
theorem bf_sc : ∀ e ∈ [(3 : Int), 4, 5], ∀ b : Nat, b < 256 → bf e (scE e b) = some b := by decide +kernel
theorem isE_mem {e : Int} (h : isE e = true) : e ∈ [(3 : Int), 4, 5] := by
  rcases isE_iff.1 h with rfl | rfl | rfl <;> simp
theorem bf_of {e : Int} (h : isE e = true) {b : Nat} (hb : b < 256) : bf e (scE e b) = some b := bf_sc e (isE_mem h) b hb
theorem sc_inj {e : Int} (h : isE e = true) {a b : Nat} (ha : a < 256) (hb : b < 256) : scE e a = scE e b ↔ a = b := by
  constructor
  · intro hs
    have h1 := bf_of h ha
    rw [hs, bf_of h hb] at h1
    exact (Option.some.inj h1).symm
  · rintro rfl; rfl
end Go.Proofs.YtppabkllconkjaaGreatDoor.U
/- The contracts of the methods that tell a byte's scalar, of the document's own lists, of scalars and of Scalar. -/
namespace Go.Proofs.YtppabkllconkjaaGreatDoor.U
open Go.RowKit
set_option linter.unusedVariables false
set_option linter.unusedSimpArgs false
set_option maxRecDepth 100000
theorem Ints.formS {w : World} {v : Value} {xs : List Int} (h : Ints w v xs) : ∃ p cap, v = .slice p xs.length cap := by
  rcases h with ⟨rfl, p, cap, rfl⟩ | ⟨b, off, cap, rfl, _⟩
  · exact ⟨p, cap, rfl⟩
  · exact ⟨_, cap, rfl⟩
def ints32 : Array Value := (w52.map (Value.int .i64)).toArray
def blkV : Value := .agg ints32
theorem w52_at : ∀ b, b < 32 → ints32[b]? = some (.int .i64 (w52.getD b 0)) := by
  intro b hb
  have : w52.length = 32 := by decide
  have h2 : b < w52.length := by omega
  unfold ints32
  simp [h2, List.getD]
theorem scW_in {b : Nat} (h : 128 ≤ b) (h1 : b < 160) : w52.getD (b - 128) 0 = scW b := by unfold scW; rw [if_pos ⟨h, h1⟩]
theorem scW_out {b : Nat} (h : ¬ (128 ≤ b ∧ b < 160)) : (b : Int) = scW b := by unfold scW; rw [if_neg h]
theorem blk_any (xs : Array Value) (hat : ∀ b, b < 32 → xs[b]? = some (.int .i64 (w52.getD b 0))) (x : Int) (b : Nat) (hx : x = b) (hb : b < 256) (w : World) :
    Calls Tryz.prog 163 #[.agg xs, .int .u8 x] w fun e w' => RetI (scW b) w e w' := by
  have h0' : 0 ≤ x := by omega
  have h1' : x < 256 := by omega
  have HX := Lib.hid hx
  have HS := Lib.hid (@scW_in b)
  have HO := Lib.hid (@scW_out b)
  have HB : Hid (Blk (w.alloc (.cells xs 178)) w.heap.size xs 178) := Lib.hid (Blk.new _ _ _)
  have HE : Hid (Below w.heap.size w (w.alloc (.cells xs 178))) := Lib.hid ((Below.refl _ _).alloc (Nat.le_refl _) _)
  by_cases h : x - 128 ≥ 0 ∧ x - 128 < 32
  · obtain ⟨h0, h1⟩ := h
    obtain ⟨n, hn⟩ : ∃ n : Nat, b = n + 128 := ⟨b - 128, by omega⟩
    have hc : (w.alloc (.cells xs 178)).cell? ⟨w.heap.size, n, none⟩ = some (.int .i64 (w52.getD n 0)) := (HB.out.cell _).trans (hat _ (by omega))
    have e2 := HS.out (by omega) (by omega)
    rw [hn, Nat.add_sub_cancel, ← hn] at e2
    rw [e2] at hc
    have hd : x - 128 = (n : Int) := by omega
    have h1 : (n : Int) < 32 := by omega
    clear hn e2 hx hat h0
    go_enter Tryz.func163, Tryz.ntmps163
    go_wp2_with fail
    go_ret
    exact ⟨rfl, HE.out⟩
  · have HOO := Lib.hid (HO.out (by omega))
    by_cases h0 : x - 128 ≥ 0
    · have h1 : ¬ x - 128 < 32 := by omega
      clear hx h hat
      go_enter Tryz.func163, Tryz.ntmps163
      go_wp2_with fail
      go_ret
      exact ⟨ret_int (by rw [← HOO.out, HX.out]), HE.out⟩
    · clear hx h hat
      go_enter Tryz.func163, Tryz.ntmps163
      go_wp2_with fail
      go_ret
      exact ⟨ret_int (by rw [← HOO.out, HX.out]), HE.out⟩
theorem blk_scalar (b : Nat) (hb : b < 256) (w : World) : Calls Tryz.prog 163 #[blkV, .int .u8 (b : Int)] w fun e w' => RetI (scW b) w e w' :=
  blk_any ints32 w52_at b b rfl hb w
theorem run_any (l : List (Int × Int × Int)) (xs : Array Value) (hl : l.length = 7)
    (hat : ∀ i, (h : i < l.length) → xs[i * 3]? = some (.int .i64 l[i].1) ∧ xs[i * 3 + 1]? = some (.int .i64 l[i].2.1) ∧ xs[i * 3 + 2]? = some (.int .i64 l[i].2.2))
    (hbd : ∀ i, (h : i < l.length) → 0 ≤ l[i].1 ∧ l[i].1 < 256 ∧ 0 ≤ l[i].2.1 ∧ l[i].2.1 < 65536 ∧ 0 ≤ l[i].2.2 ∧ l[i].2.2 < 256) (b : Int) (h0 : 0 ≤ b) (h1 : b < 256) (w : World) :
    Calls Tryz.prog 164 #[.agg xs, .int .u8 b] w fun e w' => RetI (scR l b) w e w' := by
  have HAT := Lib.hid hat
  have HBD := Lib.hid hbd
  have HB : Hid (Blk (w.alloc (.cells xs 182)) w.heap.size xs 182) := Lib.hid (Blk.new _ _ _)
  have HE : Hid (Below w.heap.size w (w.alloc (.cells xs 182))) := Lib.hid ((Below.refl _ _).alloc (Nat.le_refl _) _)
  obtain ⟨R, HR⟩ : ∃ R, Hid (scR l b = R) := ⟨_, Lib.hid rfl⟩
  rw [HR.out]
  clear hat hbd
  go_enter Tryz.func164, Tryz.ntmps164
  go_wp2_with fail
  go_loopg [7] 8 (fun g q wr => ∃ (k : Nat), k + g = 8 ∧ q = .int .i64 k ∧ k ≤ 7 ∧ Hid (scR (l.drop k) b = R) ∧ w.alloc (.cells xs 182) = wr)
  case atStart => exact ⟨0, by omega, rfl, by omega, HR, rfl⟩
  case round =>
    obtain ⟨k, hkg, rfl, hk7, HK, rfl⟩ := hrel
    by_cases hk : k < 7
    · have hkl : k < l.length := by omega
      obtain ⟨a1, a2, a3⟩ := HAT.out k hkl
      obtain ⟨f, s, n, he⟩ : ∃ f s n, l[k] = (f, s, n) := ⟨_, _, _, rfl⟩
      have hK := HK.out
      rw [List.drop_eq_getElem_cons hkl, he] at hK
      have hb := HBD.out k hkl
      rw [he] at a1 a2 a3 hb
      obtain ⟨b1, b2, b3, b4, b5, b6⟩ := hb
      simp only at b1 b2 b3 b4 b5 b6
      by_cases hin : b - f ≥ 0 ∧ b - f < n
      · obtain ⟨t1, t2⟩ := hin
        have HR2 : Hid (s + (b - f) = R) := Lib.hid (by unfold scR at hK; rwa [if_pos ⟨t1, t2⟩] at hK)
        clear hK he
        go_wp2_with fail
        go_ret
        exact ⟨ret_int HR2.out, HE.out⟩
      · have HR2 : Hid (scR (l.drop (k + 1)) b = R) := Lib.hid (by unfold scR at hK; rwa [if_neg hin] at hK)
        clear hK he
        by_cases t1 : b - f ≥ 0
        · have t2 : ¬ b - f < n := by omega
          clear hin
          go_wp2_with fail
          go_roundg (gk - 1)
          case measure => omega
          case rel => exact ⟨k + 1, by omega, by go_num, by omega, HR2, rfl⟩
        · clear hin
          go_wp2_with fail
          go_roundg (gk - 1)
          case measure => omega
          case rel => exact ⟨k + 1, by omega, by go_num, by omega, HR2, rfl⟩
    · have hk' : k = 7 := by omega
      subst hk'
      have hK := HK.out
      have HK2 : Hid (b = R) := Lib.hid (by rwa [List.drop_eq_nil_of_le (by omega)] at hK)
      clear hK
      go_wp2_with fail
      go_ret
      exact ⟨ret_int HK2.out, HE.out⟩
def cells7 (l : List (Int × Int × Int)) : Array Value := (l.flatMap fun p => [.int .i64 p.1, .int .i64 p.2.1, .int .i64 p.2.2]).toArray
def runV (l : List (Int × Int × Int)) : Value := .agg (cells7 l)
theorem runs_5 (b : Nat) (hb : b < 256) (w : World) : Calls Tryz.prog 164 #[runV r5, .int .u8 (b : Int)] w fun e w' => RetI (sc5 b) w e w' := by
  rw [← scR_5 b hb]
  refine run_any r5 (cells7 r5) (by decide) ?_ ?_ b (by omega) (by omega) w
  · intro i h
    have h7 : i < 7 := by simpa [r5] using h
    have : ∀ i, (h : i < r5.length) → i < 7 → cells7 r5 = cells7 r5 := fun _ _ _ => rfl
    rcases (by omega : i = 0 ∨ i = 1 ∨ i = 2 ∨ i = 3 ∨ i = 4 ∨ i = 5 ∨ i = 6) with rfl | rfl | rfl | rfl | rfl | rfl | rfl <;> exact ⟨rfl, rfl, rfl⟩
  · decide
theorem runs_15 (b : Nat) (hb : b < 256) (w : World) : Calls Tryz.prog 164 #[runV r15, .int .u8 (b : Int)] w fun e w' => RetI (sc15 b) w e w' := by
  rw [← scR_15 b hb]
  refine run_any r15 (cells7 r15) (by decide) ?_ ?_ b (by omega) (by omega) w
  · intro i h
    have h7 : i < 7 := by simpa [r15] using h
    rcases (by omega : i = 0 ∨ i = 1 ∨ i = 2 ∨ i = 3 ∨ i = 4 ∨ i = 5 ∨ i = 6) with rfl | rfl | rfl | rfl | rfl | rfl | rfl <;> exact ⟨rfl, rfl, rfl⟩
  · decide
theorem high_any (w : World) : Calls Tryz.prog 137 #[] w fun e w' => e = .returned (.slice (some ⟨w.heap.size, 0, none⟩) 32 32) ∧ Blk w' w.heap.size ints32 3 ∧ Below w.heap.size w w' := by
  go_enter Tryz.func137, Tryz.ntmps137
  go_wp2_with fail
  go_ret
  exact ⟨rfl, Blk.new _ _ _, (Below.refl _ _).alloc (Nat.le_refl _) _⟩
theorem iso5_any (b : Int) (n : Nat) (hn : b = n) (hb : n < 256) (w : World) : Calls Tryz.prog 138 #[.int .i64 b] w fun e w' => e = .returned (.int .i64 (sc5 n)) ∧ w = w' := by
  have HN := Lib.hid hn
  have h0 : 0 ≤ b := by omega
  have h1 : b < 256 := by omega
  by_cases c1 : b < 161
  · have HR : Hid (b = sc5 n) := Lib.hid (by unfold sc5; rw [if_pos (by omega)]; omega)
    clear hn
    go_enter Tryz.func138, Tryz.ntmps138
    go_wp2_with fail
    go_ret
    exact ⟨ret_int HR.out, rfl⟩
  by_cases c2 : b = 173
  · have HR : Hid (b = sc5 n) := Lib.hid (by unfold sc5; rw [if_pos (by omega)]; omega)
    subst c2
    clear hn
    go_enter Tryz.func138, Tryz.ntmps138
    go_wp2_with fail
    go_ret
    exact ⟨ret_int HR.out, rfl⟩
  by_cases c3 : b = 240
  · have HR : Hid (8470 = sc5 n) := Lib.hid (by unfold sc5; rw [if_neg (by omega), if_pos (by omega)])
    subst c3
    clear hn
    go_enter Tryz.func138, Tryz.ntmps138
    go_wp2_with fail
    go_ret
    exact ⟨ret_int HR.out, rfl⟩
  by_cases c4 : b = 253
  · have HR : Hid (167 = sc5 n) := Lib.hid (by unfold sc5; rw [if_neg (by omega), if_neg (by omega), if_pos (by omega)])
    subst c4
    clear hn
    go_enter Tryz.func138, Tryz.ntmps138
    go_wp2_with fail
    go_ret
    exact ⟨ret_int HR.out, rfl⟩
  have HR : Hid (b - 160 + 1024 = sc5 n) := Lib.hid (by unfold sc5; rw [if_neg (by omega), if_neg (by omega), if_neg (by omega)]; omega)
  have d2 : (b == 173) = false := by simp; omega
  have d3 : (b == 240) = false := by simp; omega
  have d4 : (b == 253) = false := by simp; omega
  clear hn
  go_enter Tryz.func138, Tryz.ntmps138
  go_wp2_with fail
  go_ret
  exact ⟨ret_int HR.out, rfl⟩
theorem iso15_any (b : Int) (n : Nat) (hn : b = n) (hb : n < 256) (w : World) : Calls Tryz.prog 139 #[.int .i64 b] w fun e w' => e = .returned (.int .i64 (sc15 n)) ∧ w = w' := by
  have HN := Lib.hid hn
  have h0 : 0 ≤ b := by omega
  have h1 : b < 256 := by omega
  by_cases c0 : b = 164
  · have HR : Hid (8364 = sc15 n) := Lib.hid (by unfold sc15; rw [if_pos (by omega)])
    subst c0
    clear hn
    go_enter Tryz.func139, Tryz.ntmps139
    go_wp2_with fail
    go_ret
    exact ⟨ret_int HR.out, rfl⟩
  by_cases c1 : b = 166
  · have HR : Hid (352 = sc15 n) := Lib.hid (by unfold sc15; rw [if_neg (by omega), if_pos (by omega)])
    subst c1
    clear hn
    go_enter Tryz.func139, Tryz.ntmps139
    go_wp2_with fail
    go_ret
    exact ⟨ret_int HR.out, rfl⟩
  by_cases c2 : b = 168
  · have HR : Hid (353 = sc15 n) := Lib.hid (by unfold sc15; rw [if_neg (by omega), if_neg (by omega), if_pos (by omega)])
    subst c2
    clear hn
    go_enter Tryz.func139, Tryz.ntmps139
    go_wp2_with fail
    go_ret
    exact ⟨ret_int HR.out, rfl⟩
  by_cases c3 : b = 180
  · have HR : Hid (381 = sc15 n) := Lib.hid (by unfold sc15; rw [if_neg (by omega), if_neg (by omega), if_neg (by omega), if_pos (by omega)])
    subst c3
    clear hn
    go_enter Tryz.func139, Tryz.ntmps139
    go_wp2_with fail
    go_ret
    exact ⟨ret_int HR.out, rfl⟩
  by_cases c4 : b = 184
  · have HR : Hid (382 = sc15 n) := Lib.hid (by unfold sc15; rw [if_neg (by omega), if_neg (by omega), if_neg (by omega), if_neg (by omega), if_pos (by omega)])
    subst c4
    clear hn
    go_enter Tryz.func139, Tryz.ntmps139
    go_wp2_with fail
    go_ret
    exact ⟨ret_int HR.out, rfl⟩
  by_cases c5 : b = 188
  · have HR : Hid (338 = sc15 n) := Lib.hid (by unfold sc15; rw [if_neg (by omega), if_neg (by omega), if_neg (by omega), if_neg (by omega), if_neg (by omega), if_pos (by omega)])
    subst c5
    clear hn
    go_enter Tryz.func139, Tryz.ntmps139
    go_wp2_with fail
    go_ret
    exact ⟨ret_int HR.out, rfl⟩
  by_cases c6 : b = 189
  · have HR : Hid (339 = sc15 n) := Lib.hid (by unfold sc15; rw [if_neg (by omega), if_neg (by omega), if_neg (by omega), if_neg (by omega), if_neg (by omega), if_neg (by omega), if_pos (by omega)])
    subst c6
    clear hn
    go_enter Tryz.func139, Tryz.ntmps139
    go_wp2_with fail
    go_ret
    exact ⟨ret_int HR.out, rfl⟩
  by_cases c7 : b = 190
  · have HR : Hid (376 = sc15 n) := Lib.hid (by unfold sc15; rw [if_neg (by omega), if_neg (by omega), if_neg (by omega), if_neg (by omega), if_neg (by omega), if_neg (by omega), if_neg (by omega), if_pos (by omega)])
    subst c7
    clear hn
    go_enter Tryz.func139, Tryz.ntmps139
    go_wp2_with fail
    go_ret
    exact ⟨ret_int HR.out, rfl⟩
  have HR : Hid (b = sc15 n) := Lib.hid (by unfold sc15; rw [if_neg (by omega), if_neg (by omega), if_neg (by omega), if_neg (by omega), if_neg (by omega), if_neg (by omega), if_neg (by omega), if_neg (by omega)]; omega)
  have d0 : (b == 164) = false := by simp; omega
  have d1 : (b == 166) = false := by simp; omega
  have d2 : (b == 168) = false := by simp; omega
  have d3 : (b == 180) = false := by simp; omega
  have d4 : (b == 184) = false := by simp; omega
  have d5 : (b == 188) = false := by simp; omega
  have d6 : (b == 189) = false := by simp; omega
  have d7 : (b == 190) = false := by simp; omega
  clear hn
  go_enter Tryz.func139, Tryz.ntmps139
  go_wp2_with fail
  go_ret
  exact ⟨ret_int HR.out, rfl⟩
def RetS (e : Int) (b : Nat) (w : World) (x : Ending) (w' : World) : Prop := x = .returned (.tuple #[.int .i64 (scE e b), .bool (isE e)]) ∧ Below w.heap.size w w'
theorem retS {e : Int} {b : Nat} {w w' : World} {n : Int} {t : Bool} (h : n = scE e b) (ht : t = isE e) (hb : Below w.heap.size w w') : RetS e b w (.returned (.tuple #[.int .i64 n, .bool t])) w' := ⟨by rw [h, ht], hb⟩
theorem scE_3 (b : Nat) : scE 3 b = scW b := by unfold scE; rw [if_pos rfl]
theorem scE_4 (b : Nat) : scE 4 b = sc5 b := by unfold scE; rw [if_neg (by omega), if_pos rfl]
theorem scE_5 (b : Nat) : scE 5 b = sc15 b := by unfold scE; rw [if_neg (by omega), if_neg (by omega), if_pos rfl]
theorem scE_no {e : Int} (h3 : ¬ e = 3) (h4 : ¬ e = 4) (h5 : ¬ e = 5) (b : Nat) : scE e b = 0 := by unfold scE; rw [if_neg h3, if_neg h4, if_neg h5]
theorem rscalar_any (e : Int) (x : Int) (b : Nat) (hx : x = b) (hb : b < 256) (w : World) :
    Calls Tryz.prog 103 #[.int .i8 e, .int .u8 x] w fun r w' => RetS e b w r w' := by
  have h0 : 0 ≤ x := by omega
  have h1 : x < 256 := by omega
  have HX := Lib.hid hx
  have HBB := Lib.hid hb
  have HE : Hid (Below w.heap.size w w) := Lib.hid (Below.refl _ _)
  by_cases c3 : e = 3
  · subst c3
    have HI : Hid (true = isE 3) := Lib.hid rfl
    by_cases hin : x ≥ 128 ∧ x < 160
    · obtain ⟨i0, i1⟩ := hin
      have H13 := high_any w
      obtain ⟨n, hn⟩ : ∃ n : Nat, n = b - 128 := ⟨_, rfl⟩
      have hw : IntKind.u8.wrap (x - 128) = n := by rw [IntKind.wrap_u8]; omega
      have hn32 : n < 32 := by omega
      have hat := w52_at n hn32
      have HR : Hid (w52.getD n 0 = scE 3 b) := Lib.hid (by rw [scE_3, hn]; exact scW_in (by omega) (by omega))
      obtain ⟨y, hy⟩ : ∃ y, w52.getD n 0 = y := ⟨_, rfl⟩
      rw [hy] at hat HR
      clear hx hb hn hy
      go_enter Tryz.func103, Tryz.ntmps103
      go_wp2_with (go_at_call 137; refine H13.mono ?_; rintro e w' ⟨rfl, hbk, hbl⟩; have hc := (hbk.cell n).trans hat; have HB := Lib.hid hbl; clear hbk hbl)
      go_ret2
      exact retS HR.out HI.out HB.out
    · have HR : Hid (x = scE 3 b) := Lib.hid (by rw [scE_3, hx]; exact scW_out (by omega))
      by_cases i0 : x ≥ 128
      · have i1 : ¬ x < 160 := by omega
        clear hx hb hin
        go_enter Tryz.func103, Tryz.ntmps103
        go_wp2_with fail
        go_ret2
        exact retS HR.out HI.out HE.out
      · clear hx hb hin
        go_enter Tryz.func103, Tryz.ntmps103
        go_wp2_with fail
        go_ret2
        exact retS HR.out HI.out HE.out
  by_cases c4 : e = 4
  · subst c4
    have HI : Hid (true = isE 4) := Lib.hid rfl
    have HC := Lib.hid (iso5_any x b hx hb w)
    have HR : Hid (sc5 b = scE 4 b) := Lib.hid (scE_4 b).symm
    clear hx hb c3
    go_enter Tryz.func103, Tryz.ntmps103
    go_wp2_with (go_at_call 138; refine HC.out.mono ?_; rintro e w' ⟨rfl, rfl⟩)
    go_ret2
    exact retS HR.out HI.out HE.out
  by_cases c5 : e = 5
  · subst c5
    have HI : Hid (true = isE 5) := Lib.hid rfl
    have HC := Lib.hid (iso15_any x b hx hb w)
    have HR : Hid (sc15 b = scE 5 b) := Lib.hid (scE_5 b).symm
    clear hx hb c3 c4
    go_enter Tryz.func103, Tryz.ntmps103
    go_wp2_with (go_at_call 139; refine HC.out.mono ?_; rintro e w' ⟨rfl, rfl⟩)
    go_ret2
    exact retS HR.out HI.out HE.out
  have HI : Hid (false = isE e) := Lib.hid (isE_no.2 ⟨c3, c4, c5⟩).symm
  have HR : Hid (0 = scE e b) := Lib.hid (scE_no c3 c4 c5 b).symm
  have d3 : (e == 3) = false := by simp; omega
  have d4 : (e == 4) = false := by simp; omega
  have d5 : (e == 5) = false := by simp; omega
  clear hx hb c3 c4 c5
  go_enter Tryz.func103, Tryz.ntmps103
  go_wp2_with fail
  go_ret2
  exact retS HR.out HI.out HE.out
end Go.Proofs.YtppabkllconkjaaGreatDoor.U
/- The iterator of utf8.scalars: its contract. -/
namespace Go.Proofs.YtppabkllconkjaaGreatDoor.U
open Go.RowKit Go.Shelf
set_option linter.unusedVariables false
set_option linter.unusedSimpArgs false
set_option maxRecDepth 100000
attribute [local go_sem] Oper.semAt_some
/-- What the iterator tells of one part: where it begins, the scalar or -1. -/
abbrev Item := { p : Nat × Int // p.1 ≤ 100000 ∧ (p.2 = -1 ∨ isB p.2 = true) }
def its : List (Int × Nat) → Nat → List (Nat × Int)
  | [], _ => []
  | p :: t, a => (a, p.1) :: its t (a + p.2)
structure ItAt (l : List UInt8) (a : Nat) (pre : List Item) : Prop where
  le : a ≤ l.length
  few : pre.length ≤ a
  it : its (prt l) 0 = pre.map (·.1) ++ its (prt (l.drop a)) a
theorem ItAt.start (l : List UInt8) : ItAt l 0 [] := ⟨Nat.zero_le _, Nat.le_refl _, by simp⟩
theorem ItAt.step {l : List UInt8} {a : Nat} {pre : List Item} (h : ItAt l a pre) (hl : a < l.length) {r : Int} {n : Nat} (hd : dec (l.drop a) = (r, n)) (x : Item) (hx : x.1 = (a, r)) : ItAt l (a + n) (pre ++ [x]) := by
  have hne := drop_ne hl
  have h1 := dec_pos (l.drop a)
  have h2 := dec_le hne
  rw [hd] at h1 h2
  simp only [List.length_drop] at h1 h2
  refine ⟨by omega, by simp; have := h.few; omega, ?_⟩
  rw [h.it, prt_cons hne, hd, List.drop_drop]
  simp [its, hx]
theorem ItAt.done {l : List UInt8} {a : Nat} {pre : List Item} (h : ItAt l a pre) (hl : ¬ a < l.length) : pre.map (·.1) = its (prt l) 0 := by
  have e : l.drop a = [] := List.drop_eq_nil_of_le (by omega)
  rw [h.it, e]; simp [prt_nil, its]
theorem its_all : ∀ (ps : List (Int × Nat)) (a : Nat), (its ps a).all (fun p => p.2 != -1) = ps.all (fun p => p.1 != -1)
  | [], _ => rfl
  | p :: t, a => by simp only [its, List.all_cons]; rw [its_all t]
theorem its_map : ∀ (ps : List (Int × Nat)) (a : Nat), (its ps a).map (·.2) = ps.map (·.1)
  | [], _ => rfl
  | p :: t, a => by simp only [its, List.map_cons]; rw [its_map t]
def wrgI : List (Nat × Int) → Int
  | [] => -1
  | p :: t => if p.2 = -1 then (p.1 : Int) else wrgI t
theorem its_wrg : ∀ (ps : List (Int × Nat)) (a : Nat), wrgI (its ps a) = wrg ps a
  | [], _ => rfl
  | p :: t, a => by
    by_cases h : p.1 = -1
    · simp only [its, wrgI]; rw [if_pos h, wrg_bad h]
    · simp only [its, wrgI]; rw [if_neg h, wrg_good h, its_wrg t]
/-- What a round keeps: whatever lay below n₀, and the box of the text. -/
def KpS (n₀ Bs : Nat) (W W' : World) : Prop := Below n₀ W W' ∧ W'.heap[Bs]? = W.heap[Bs]?
theorem KpS.refl (n₀ Bs : Nat) (W : World) : KpS n₀ Bs W W := ⟨Below.refl _ _, rfl⟩
theorem KpS.trans {n₀ Bs : Nat} {A B C : World} (h : KpS n₀ Bs A B) (k : KpS n₀ Bs B C) : KpS n₀ Bs A C := ⟨h.1.trans k.1, k.2.trans h.2⟩
theorem KpS.cell {n₀ Bs : Nat} {A B : World} (h : KpS n₀ Bs A B) : B.cell? ⟨Bs, 0, none⟩ = A.cell? ⟨Bs, 0, none⟩ := World.cell?_of_block h.2
theorem kpS_b {n₀ Bs : Nat} {w : World} (hn : n₀ ≤ w.heap.size) (hB : Bs < w.heap.size) (W : World) (l : Nat) (o o' : Obj) (hl : w.heap.size ≤ l) (h : W.heap[l]? = some o) (h1 : o.isCells = false) (h2 : o.isWalk = false) : KpS n₀ Bs W (W.putObj l o') :=
  ⟨belowK_b hn W l o o' hl h h1 h2, World.putObj_heap_other (by omega)⟩
def encI (x : Item) : Array Value := #[.int .i64 (x.1.1 : Int), .int .i64 x.1.2]
set_option maxRecDepth 100000 in
set_option maxHeartbeats 2000000 in
theorem scalars1_in (n : Nat) (hn : 1 ≤ n) (lp Bs n₀ : Nat) (s : ByteArray) (hs : s.size ≤ 100000) (h2 : 6 < n₀) (J Jx : List Item → World → Prop)
    (hY : ∀ pre x W, J pre W → pre.length < s.size → YieldAt Fence.wide (n - 1) Tryz.prog lp (encI x) W fun e W' =>
      (e = .returned (.bool true) ∧ J (pre ++ [x]) W' ∧ KpS n₀ Bs W W') ∨ (e = .returned (.bool false) ∧ Jx (pre ++ [x]) W'))
    (W : World) (hg : Gl W) (hn0 : n₀ ≤ W.heap.size) (hBs : W.cell? ⟨Bs, 0, none⟩ = some (.string s)) (h0 : J [] W) :
    CallsIn Fence.wide n Tryz.prog 155 #[.func (.yield lp) #[] #[], .pointer (some ⟨Bs, 0, none⟩)] W fun e W' => (∃ v, e = .returned v) ∧
      ((∃ ys : List Item, ys.map (·.1) = its (prt s.data.toList) 0 ∧ J ys W') ∨ (∃ pre : List Item, (∃ t, its (prt s.data.toList) 0 = pre.map (·.1) ++ t) ∧ Jx pre W')) := by
  have hsz : s.data.toList.length = s.size := by simp
  obtain ⟨l, HL⟩ : ∃ l, Hid (s.data.toList = l) := ⟨_, Lib.hid rfl⟩
  have HSZ : Hid (l.length = s.size) := Lib.hid (by rw [← HL.out]; exact hsz)
  rw [HL.out]
  have HG := Lib.hid hg
  clear hsz hg
  refine callsIn_of_wp Tryz.func155 rfl trivial ?_ rfl
  simp only [Tryz.ntmps155, List.size_toArray, List.length_cons, List.length_nil, Nat.reduceAdd, Nat.reduceSub, Array.replicate_succ, Array.replicate_zero, List.push_toArray, List.append_toArray, List.nil_append, List.cons_append]
  gi_wp2
  gi_loopw [3] (fun q3 wr => ∃ (a : Nat) (pre : List Item), q3 = .int .i64 a ∧ Hid (ItAt l a pre) ∧ Hid (J pre wr) ∧ Hid (KpS n₀ Bs W wr))
    (fun q3 _ => s.size - (intOf q3).toNat)
  case atStart => exact ⟨0, [], rfl, Lib.hid (ItAt.start _), Lib.hid h0, Lib.hid (KpS.refl _ _ _)⟩
  case round =>
    obtain ⟨a, pre, rfl, HA, HJ, HB⟩ := hrel
    have hale : a ≤ s.size := by have := HA.out.le; rw [HSZ.out] at this; exact this
    have hcs : wr.cell? ⟨Bs, 0, none⟩ = some (.string s) := HB.out.cell.trans hBs
    have HGr : Hid (Gl wr) := Lib.hid (HG.out.below h2 HB.out.1)
    by_cases hlt : a < s.size
    · obtain ⟨r, n2, hd⟩ : ∃ r n, dec (l.drop a) = (r, n) := ⟨_, _, rfl⟩
      have hrd := read_any s a wr HGr.out hs hlt
      rw [HL.out, hd] at hrd
      have Hrd := Lib.hid hrd
      have hrc : r = -1 ∨ isB r = true := by have := dec_cases (l.drop a); rw [hd] at this; exact this
      obtain ⟨x, hx⟩ : ∃ x : Item, x.1 = (a, r) := ⟨⟨(a, r), by omega, hrc⟩, rfl⟩
      have HS := Lib.hid (HA.out.step (by rw [HSZ.out]; exact hlt) hd x hx)
      have h1 : 1 ≤ n2 := by have := dec_pos (l.drop a); rw [hd] at this; exact this
      have h4 : n2 ≤ 4 := by have := dec_le4 (l.drop a); rw [hd] at this; exact this
      have h3 : a + n2 ≤ s.size := by have := HS.out.le; rw [HSZ.out] at this; exact this
      obtain ⟨fn, tmps, assign, body, hy, hR⟩ := hY _ x wr HJ.out (by have := HA.out.few; omega)
      have he : encI x = #[.int .i64 (a : Int), .int .i64 r] := by unfold encI; rw [hx]
      rw [he] at hy
      have HX := Lib.hid hx
      clear hx hrd hd hrc he
      gi_wp2_with (refine ⟨trivial, ?_⟩; gi_at_call 156; refine (callsIn_wide.2 Hrd.out).mono ?_; rintro e w' ⟨rfl, rfl⟩)
      refine hR.mono ?_
      rintro e W3 (⟨rfl, hJ3, hk3⟩ | ⟨rfl, hJx3⟩)
      · have HJ3 := Lib.hid hJ3
        have HB3 : Hid (KpS n₀ Bs W W3) := Lib.hid (HB.out.trans hk3)
        clear hJ3
        gi_wp2
        go_roundw
        case rel => exact ⟨a + n2, _, by go_num, HS, HJ3, HB3⟩
        case measure => simp [intOf]; omega
      · gi_wp2
        refine bodyPost_ret (results_none rfl _ _ _) rfl ?_
        exact ⟨⟨_, rfl⟩, .inr ⟨_, ⟨_, HS.out.it⟩, hJx3⟩⟩
    · have HE := Lib.hid (HA.out.done (by rw [HSZ.out]; exact hlt))
      gi_wp2
      go_end0
      exact ⟨⟨_, rfl⟩, .inl ⟨_, HE.out, HJ.out⟩⟩
set_option maxHeartbeats 1000000 in
theorem scalars_in (n : Nat) (s : ByteArray) (w : World) :
    CallsIn Fence.wide n Tryz.prog 126 #[.string s] w fun e w' => e = .returned (.func (.func 155) #[] #[.pointer (some ⟨w.heap.size, 0, none⟩)]) ∧ w' = w.alloc (.cells #[.string s] 9) := by
  refine callsIn_of_wp Tryz.func126 rfl trivial ?_ rfl
  simp only [Tryz.ntmps126, List.size_toArray, List.length_cons, List.length_nil, Nat.reduceAdd, Nat.reduceSub, Array.replicate_succ, Array.replicate_zero, List.push_toArray, List.append_toArray, List.nil_append, List.cons_append]
  gi_wp2
  go_ret
  exact ⟨rfl, rfl⟩
theorem scalars_stops (n : Nat) (hn : 1 ≤ n) (Bs n₀ : Nat) (s : ByteArray) (hs : s.size ≤ 100000) (w : World) (hg : Gl w) (h2 : 6 < n₀) (hBs : Bs < w.heap.size) (hn₀ : n₀ ≤ w.heap.size)
    (hc : w.cell? ⟨Bs, 0, none⟩ = some (.string s)) :
    SeqStopsK Fence.wide n Tryz.prog 155 #[.pointer (some ⟨Bs, 0, none⟩)] encI (KpS n₀ Bs) (fun ys : List Item => ys.map (·.1) = its (prt s.data.toList) 0)
      (fun pre : List Item => ∃ t, its (prt s.data.toList) 0 = pre.map (·.1) ++ t) s.size w := fun l J Jx W hW _ _ hY h0 =>
  scalars1_in n hn l Bs n₀ s hs h2 J Jx hY W (hg.below' hW) (Nat.le_trans hn₀ hW.size) ((hW.cell (p := ⟨Bs, 0, none⟩) hBs).trans hc) h0
end Go.Proofs.YtppabkllconkjaaGreatDoor.U
/- The contracts of utf8.Valid, Scalars, Loose: ranges over the iterator. -/
namespace Go.Proofs.YtppabkllconkjaaGreatDoor.U
open Go.RowKit Go.Shelf
set_option linter.unusedVariables false
set_option linter.unusedSimpArgs false
set_option maxRecDepth 100000
attribute [local go_sem] Oper.semAt_some
theorem ok_its (l : List UInt8) : okB l = (its (prt l) 0).all (fun p => p.2 != -1) := by
  unfold okB; rw [its_all]
theorem scl_its (l : List UInt8) : scl l = (its (prt l) 0).map (·.2) := by
  unfold scl; rw [its_map]
theorem wrg_its (l : List UInt8) : wrg (prt l) 0 = wrgI (its (prt l) 0) := by rw [its_wrg]
theorem ok_of_all {l : List UInt8} {ys : List Item} (h : ys.map (·.1) = its (prt l) 0) (hp : ∀ p ∈ ys, p.1.2 ≠ -1) : okB l = true := by
  rw [ok_its, ← h]
  simp only [List.all_map, List.all_eq_true, Function.comp, bne_iff_ne, ne_eq]
  exact hp
theorem no_of_one {l : List UInt8} {pre : List Item} (h : ∃ t, its (prt l) 0 = pre.map (·.1) ++ t) {p : Item} (hp : p ∈ pre) (hr : p.1.2 = -1) : okB l = false := by
  obtain ⟨t, ht⟩ := h
  rw [ok_its, ht]
  cases hx : (pre.map (·.1) ++ t).all (fun p => p.2 != -1)
  · rfl
  · rw [List.all_eq_true] at hx
    have := hx p.1 (List.mem_append_left _ (List.mem_map.2 ⟨p, hp, rfl⟩))
    simp [hr] at this
set_option maxRecDepth 100000 in
set_option maxHeartbeats 2000000 in
theorem valid_any (s : ByteArray) (w : World) (hg : Gl w) (hs : s.size ≤ 100000) : Calls Tryz.prog 95 #[.string s] w fun e w' => RetB (okB s.data.toList) w e w' := by
  refine (callsIn_wide (n := 5)).1 ?_
  have h2 := hg.size
  refine callsIn_of_wp_marks Tryz.func95 rfl trivial ?_ rfl
  simp only [Tryz.ntmps95, List.size_toArray, List.length_cons, List.length_nil, Nat.reduceAdd, Nat.reduceSub, Array.replicate_succ, Array.replicate_zero, List.push_toArray, List.append_toArray, List.nil_append, List.cons_append]
  gi_wp2_with (refine ⟨trivial, ?_⟩; gi_at_call 126; refine (scalars_in _ s _).mono ?_; rintro e w' ⟨rfl, rfl⟩)
  have bR := Boxed.new w 4 (.bool false)
  have bN := Boxed.new (w.alloc (.cells #[.bool false] 4)) 9 (.string s)
  rw [World.size_alloc] at bN
  have hB0 : Below w.heap.size w ((w.alloc (.cells #[.bool false] 4)).alloc (.cells #[.string s] 9)) := ((Below.refl _ w).alloc (Nat.le_refl _) _).alloc (by simp) _
  refine wpIn_rangeFunc_ownG rfl (by omega) (gf := 155) (lb := #[.pointer (some ⟨w.heap.size + 1, 0, none⟩)]) rfl trivial (enters_of Tryz.func155 (by kernel_rfl) rfl)
    (scalars_stops 4 (by omega) (w.heap.size + 1) w.heap.size s hs _ (hg.below' hB0) (by omega) (by simp) (by simp; omega) bN.cell) KpS.trans (kpS_b (by simp; omega) (by simp)) (Below.refl _ _) (fun _ => rfl)
    (fun pre W => ((∀ p ∈ pre, p.1.2 ≠ -1) ∧ W.cell? ⟨w.heap.size, 0, none⟩ = some (.bool false) ∧ W.frozen? ⟨w.heap.size, 0, none⟩ = false) ∧ Below w.heap.size w W)
    (fun c pre W => (c = .ret ∧ (∃ p ∈ pre, p.1.2 = -1) ∧ W.cell? ⟨w.heap.size, 0, none⟩ = some (.bool false)) ∧ Below w.heap.size w W)
    (OwnFrom.and (Own.from (fun s A B row hs hg hr => ⟨hs.1, cell_kept hs.2.1 hg hr, (frozen_kept hs.2.1 hg hr).trans hs.2.2⟩) _) (ownFrom_below (Nat.le_refl _) (by simp; omega)))
    (fun c => OwnFrom.and (Own.from (fun s A B row hs hg hr => by obtain ⟨hc, e1, e4⟩ := hs; exact ⟨hc, e1, cell_kept e4 hg hr⟩) _) (ownFrom_below (Nat.le_refl _) (by simp; omega)))
    ⟨⟨by simp, (bR.alloc _).cell, (bR.alloc _).frozen⟩, hB0⟩
    (fun x => { tmps := #[.string s, undef, .pointer (some ⟨w.heap.size, 0, none⟩), undef, .int .i64 x.1.2, .string s, .func (.func 155) #[] #[.pointer (some ⟨w.heap.size + 1, 0, none⟩)], .int .i64 (x.1.1 : Int), .int .i64 x.1.2, undef, undef], defers := [] }) ?assign ?body ?done ?stop
  case assign =>
    intro l x W K hK
    simp only [encI]
    gi_wp2
    exact hK
  case body =>
    rintro l pre x W ⟨⟨hp, hcr, hfr⟩, hB⟩ _
    have HP := Lib.hid hp
    have HB := Lib.hid hB
    clear hp hB
    by_cases hx : x.1.2 = -1
    · have hxb : (x.1.2 == -1) = true := by simpa using hx
      have HX := Lib.hid hx
      clear hx
      gi_wp2
      exact ⟨(KeepsOthers.setCell _ _ _).from _, ⟨rfl, ⟨x, by simp, HX.out⟩, World.cell?_setCell_same' _ _ _ (by rw [hcr]; rfl)⟩, HB.out.setCell (p := ⟨w.heap.size, 0, none⟩) (Nat.le_refl _) _⟩
    · have hxb : (x.1.2 == -1) = false := by simpa using hx
      have HX := Lib.hid hx
      clear hx
      gi_wp2
      exact ⟨KeepsFrom.refl _ _, KpS.refl _ _ _, ⟨fun p hp' => (List.mem_append.1 hp').elim (HP.out p) (fun e => by simp at e; subst e; exact HX.out), hcr, hfr⟩, HB.out⟩
  case done =>
    rintro D ys W hD hy ⟨⟨hne, hcr, hfr⟩, hB⟩ hK
    have HOK := Lib.hid (ok_of_all hy hne)
    have HB := Lib.hid hB
    clear hy hne hB
    gi_wp2
    have hK' := (KeepsOthers.setCell W ⟨w.heap.size, 0, none⟩ (.bool true)).same D _ hK rfl
    refine ⟨by simp, .inl ⟨_, _, rfl, run_takeDeferred hK', ?_⟩⟩
    have hc5 := cell_kept (World.cell?_setCell_same' W ⟨w.heap.size, 0, none⟩ (.bool true) (by rw [hcr]; rfl)) (grownBy_putObj' _ D (.deferred none)) (fun r e => by cases e; exact ⟨_, hK', rfl⟩)
    refine ⟨.bool true, ?_, by rw [HOK.out], (HB.out.setCell (p := ⟨w.heap.size, 0, none⟩) (Nat.le_refl _) _).trans (belowK_b (w := w) (Nat.le_refl _) _ D _ _ (by simp at hD; omega) hK' rfl rfl)⟩
    simp [results, Tryz.f95, go_sem, hc5]
  case stop =>
    rintro D c pre W hD hsp ⟨⟨rfl, ⟨p, hp, hr⟩, hcr⟩, hB⟩ hK
    have HOK := Lib.hid (no_of_one hsp hp hr)
    have HB := Lib.hid hB
    clear hsp hp hr hB
    gi_wp2
    refine ⟨by simp, .inl ⟨_, _, rfl, run_takeDeferred hK, ?_⟩⟩
    have hc5 := cell_kept hcr (grownBy_putObj' _ D (.deferred none)) (fun r e => by cases e; exact ⟨_, hK, rfl⟩)
    refine ⟨.bool false, ?_, by rw [HOK.out], HB.out.trans (belowK_b (w := w) (Nat.le_refl _) W D _ _ (by simp at hD; omega) hK rfl rfl)⟩
    simp [results, Tryz.f95, go_sem, hc5]
end Go.Proofs.YtppabkllconkjaaGreatDoor.U
/- The contracts of utf8.Valid, Scalars, Loose: ranges over the iterator. -/
namespace Go.Proofs.YtppabkllconkjaaGreatDoor.U
open Go.RowKit Go.Shelf
set_option linter.unusedVariables false
set_option linter.unusedSimpArgs false
set_option maxRecDepth 100000
attribute [local go_sem] Oper.semAt_some
def itR (x : Item) : Value := .int .i64 x.1.2
theorem scl_items {l : List UInt8} {ys : List Item} (h : ys.map (·.1) = its (prt l) 0) : ys.map (fun x => x.1.2) = scl l := by
  rw [scl_its, ← h, List.map_map]; rfl
theorem ownsRow_setCell {W : World} {base B : Nat} {e t : TypeId} {size k : Nat} {v u : Value} {xs : List Value} (h : W.ownsRow base e size v k xs) (hb : Boxed W B t u) (hte : t ≠ e) (x : Value) : (W.setCell ⟨B, 0, none⟩ x).ownsRow base e size v k xs :=
  h.kept (grownBy_setCell' W B x) (.inr (hb.not_row hte h).symm)
theorem boxed_putObj {W : World} {B D : Nat} {t : TypeId} {v : Value} (h : Boxed W B t v) (o : Obj) (hne : B ≠ D) : Boxed (W.putObj D o) B t v :=
  h.kept (grownBy_putObj' W D o) (fun e => hne (by cases e; rfl))
theorem own_form {W : World} {base k size : Nat} {e : TypeId} {v : Value} {xs : List Value} (h : W.ownsRow base e size v k xs) : ∃ p cap, v = .slice p k cap := by
  rcases h.2 with ⟨rfl, rfl⟩ | ⟨g, cap, cur, rfl, _⟩
  · exact ⟨_, _, rfl⟩
  · exact ⟨_, _, rfl⟩
set_option maxRecDepth 100000 in
set_option maxHeartbeats 4000000 in
theorem scal_any (s : ByteArray) (w : World) (hg : Gl w) (hs : s.size ≤ 100000) : Calls Tryz.prog 161 #[.string s] w fun e w' => ScalS w s.data.toList e w' := by
  obtain ⟨i0, hi, hz0, hz1, hz2⟩ := info_parts info3
  refine (callsIn_wide (n := 5)).1 ?_
  have h2 := hg.size
  refine callsIn_of_wp_marks Tryz.func161 rfl trivial ?_ rfl
  simp only [Tryz.ntmps161, List.size_toArray, List.length_cons, List.length_nil, Nat.reduceAdd, Nat.reduceSub, Array.replicate_succ, Array.replicate_zero, List.push_toArray, List.append_toArray, List.nil_append, List.cons_append]
  gi_wp2_with (refine ⟨trivial, ?_⟩; gi_at_call 126; refine (scalars_in _ s _).mono ?_; rintro e w' ⟨rfl, rfl⟩)
  have bR0 := Boxed.new w 74 (.slice none 0 0)
  have bR1 := Boxed.new (w.alloc (.cells #[.slice none 0 0] 74)) 4 (.bool false)
  rw [World.size_alloc] at bR1
  have bL := Boxed.new ((w.alloc (.cells #[.slice none 0 0] 74)).alloc (.cells #[.bool false] 4)) 74 (.slice none 0 0)
  rw [World.size_alloc, World.size_alloc] at bL
  have bN := Boxed.new (((w.alloc (.cells #[.slice none 0 0] 74)).alloc (.cells #[.bool false] 4)).alloc (.cells #[.slice none 0 0] 74)) 9 (.string s)
  rw [World.size_alloc, World.size_alloc, World.size_alloc] at bN
  have hB0 : Below w.heap.size w ((((w.alloc (.cells #[.slice none 0 0] 74)).alloc (.cells #[.bool false] 4)).alloc (.cells #[.slice none 0 0] 74)).alloc (.cells #[.string s] 9)) := ((((Below.refl _ w).alloc (Nat.le_refl _) _).alloc (by simp) _).alloc (by simp; omega) _).alloc (by simp; omega) _
  refine wpIn_rangeFunc_ownG rfl (by omega) (gf := 155) (lb := #[.pointer (some ⟨w.heap.size + 1 + 1 + 1, 0, none⟩)]) rfl trivial (enters_of Tryz.func155 (by kernel_rfl) rfl)
    (scalars_stops 4 (by omega) (w.heap.size + 1 + 1 + 1) w.heap.size s hs _ (hg.below' hB0) (by omega) (by simp) (by simp; omega) bN.cell) KpS.trans (kpS_b (by simp; omega) (by simp)) (Below.refl _ _) (fun _ => rfl)
    (fun pre W => (∃ v, Boxed W (w.heap.size + 1 + 1) 74 v ∧ W.ownsRow w.heap.size 3 1 v pre.length (pre.map itR) ∧ True) ∧ Boxed W w.heap.size 74 (.slice none 0 0) ∧ Boxed W (w.heap.size + 1) 4 (.bool false) ∧ Boxed W (w.heap.size + 1 + 1 + 1) 9 (.string s) ∧ (∀ p ∈ pre, p.1.2 ≠ -1) ∧ Below w.heap.size w W)
    (fun c pre W => (c = .ret ∧ ∃ p ∈ pre, p.1.2 = -1) ∧ Boxed W w.heap.size 74 (.slice none 0 0) ∧ Boxed W (w.heap.size + 1) 4 (.bool false) ∧ Below w.heap.size w W)
    (OwnFrom.and (Own.from (holdsRow_own w.heap.size (w.heap.size + 1 + 1) 74 3 1 (fun (pre : List Item) => pre.length) (fun pre => pre.map itR) (fun _ _ => True)) _) (OwnFrom.and (Own.from (boxed_own _ _ _) _) (OwnFrom.and (Own.from (boxed_own _ _ _) _) (OwnFrom.and (Own.from (boxed_own _ _ _) _) (OwnFrom.and (ownFrom_pure _ _) (ownFrom_below (Nat.le_refl _) (by simp; omega)))))))
    (fun c => OwnFrom.and (ownFrom_pure _ _) (OwnFrom.and (Own.from (boxed_own _ _ _) _) (OwnFrom.and (Own.from (boxed_own _ _ _) _) (ownFrom_below (Nat.le_refl _) (by simp; omega)))))
    ⟨⟨_, bL.alloc _, World.ownsRow_nil _ _ _ _, trivial⟩, ((bR0.alloc _).alloc _).alloc _, (bR1.alloc _).alloc _, bN, by simp, hB0⟩
    (fun x => { tmps := #[.string s, undef, .pointer (some ⟨w.heap.size, 0, none⟩), .pointer (some ⟨w.heap.size + 1, 0, none⟩), .pointer (some ⟨w.heap.size + 1 + 1, 0, none⟩), undef, .int .i64 x.1.2, .string s, .func (.func 155) #[] #[.pointer (some ⟨w.heap.size + 1 + 1 + 1, 0, none⟩)], .int .i64 (x.1.1 : Int), .int .i64 x.1.2, undef, undef, undef, undef, undef, undef, undef], defers := [] }) ?assign ?body ?done ?stop
  case assign =>
    intro l x W K hK
    simp only [encI]
    gi_wp2
    exact hK
  case body =>
    rintro l pre x W ⟨⟨v, hv, hrow, _⟩, hR0, hR1, hN, hp, hB⟩ hlt
    have HP := Lib.hid hp
    have HB := Lib.hid hB
    have hwz := hB.size
    have HV := Lib.hid hv
    have HRow := Lib.hid hrow
    have H0 := Lib.hid hR0
    have H1 := Lib.hid hR1
    have HN := Lib.hid hN
    have hc := hv.cell
    have c0 := hR0.cell
    have c1 := hR1.cell
    have f0 := hR0.frozen
    have f1 := hR1.frozen
    clear hp hB hv hrow hR0 hR1 hN
    by_cases hx : x.1.2 = -1
    · have hxb : (x.1.2 == -1) = true := by simpa using hx
      have HX := Lib.hid hx
      clear hx
      gi_wp2
      refine ⟨((KeepsOthers.setCell _ _ _).trans (KeepsOthers.setCell _ _ _)).from _, ⟨rfl, x, by simp, HX.out⟩, (H0.out.set _).other (by omega) _, (H1.out.other (by omega) _).set _, ?_⟩
      exact (HB.out.setCell (p := ⟨w.heap.size, 0, none⟩) (Nat.le_refl _) _).setCell (p := ⟨w.heap.size + 1, 0, none⟩) (by simp) _
    · have hxb : (x.1.2 == -1) = false := by simpa using hx
      have HX := Lib.hid hx
      clear hx
      gi_wp2_with (gi_at_builtin; refine wpListIn_append_own _ rfl _ _ 74 rfl w.heap.size 3 i0 (.int .i64 0) 1 8 Tryz.underlying74 hi hz0 hz1 hz2 rfl (by decide) v pre.length (pre.map itR) rfl (HRow.out.alloc _) ⟨W.heap.size, 0, none⟩ 1 1 [.int .i64 x.1.2] rfl rfl (cell_one_new _ _ _) (by simp [Value.oneCell']) (by unfold maxLen; omega) (by omega) (by simp; omega) ?_; intro v' w1 hown' hgrow _; obtain ⟨g', cap', rfl⟩ := ownsRow_succ hown'; obtain ⟨hv1, hv2, hr2, hk2, hb2⟩ := HV.out.appended (by decide) HRow.out hwz (by omega) hown' hgrow; have hc1 := hv1.cell; have hf1 := hv1.frozen; have K0 := Lib.hid ((H0.out.alloc (.cells #[.int .i64 x.1.2] 3)).kept hgrow (H0.out.not_row (by decide) HRow.out)); have K1 := Lib.hid ((H1.out.alloc (.cells #[.int .i64 x.1.2] 3)).kept hgrow (H1.out.not_row (by decide) HRow.out)); have KN := Lib.hid ((HN.out.alloc (.cells #[.int .i64 x.1.2] 3)).kept hgrow (HN.out.not_row (by decide) HRow.out)); have V2 := Lib.hid hv2; have R2 := Lib.hid hr2; have K2 := Lib.hid hk2; have B2 := Lib.hid hb2; clear hown' hgrow hv1 hv2 hr2 hk2 hb2)
      refine ⟨K2.out.from _, ⟨B2.out, (((KN.out.other (B' := w.heap.size + 1 + 1) (by omega) _).trans HN.out.symm))⟩, ⟨_, V2.out, by rw [List.length_append, List.map_append]; exact R2.out, trivial⟩, K0.out.other (by omega) _, K1.out.other (by omega) _, KN.out.other (by omega) _, fun p hp' => (List.mem_append.1 hp').elim (HP.out p) (fun e => by simp at e; subst e; exact HX.out), HB.out.trans B2.out⟩
  case done =>
    rintro D ys W hD hy ⟨⟨v, hv, hrow, _⟩, hR0, hR1, hN, hne, hB⟩ hK
    obtain ⟨p, cap, rfl⟩ := own_form hrow
    have HOK := Lib.hid (ok_of_all hy hne)
    have HSC := Lib.hid (scl_items hy)
    have hc := hv.cell
    have c0 := hR0.cell
    have c1 := hR1.cell
    have f0 := hR0.frozen
    have f1 := hR1.frozen
    have HV := Lib.hid hv
    have HRow := Lib.hid hrow
    have H0 := Lib.hid hR0
    have H1 := Lib.hid hR1
    have HB := Lib.hid hB
    have hd1 : w.heap.size + 1 < D := by simp at hD; omega
    clear hy hne hB hv hrow hR0 hR1 hN
    have hdl : w.heap.size ≤ D := by omega
    gi_wp2
    have hK' := ((KeepsOthers.setCell W ⟨w.heap.size, 0, none⟩ (.slice p ys.length cap)).trans (KeepsOthers.setCell _ ⟨w.heap.size + 1, 0, none⟩ (.bool true))).same D _ hK rfl
    have h0 := (boxed_putObj ((H0.out.set (.slice p ys.length cap)).other (B' := w.heap.size + 1) (by omega) (.bool true)) (.deferred none) (show w.heap.size ≠ D by omega)).cell
    have h1 := (boxed_putObj ((H1.out.other (B' := w.heap.size) (by omega) (.slice p ys.length cap)).set (.bool true)) (.deferred none) (show w.heap.size + 1 ≠ D by omega)).cell
    have hr3 := ownsRow_putObj (ownsRow_setCell (ownsRow_setCell HRow.out H0.out (by decide) (.slice p ys.length cap)) (H1.out.other (B' := w.heap.size) (by omega) (.slice p ys.length cap)) (by decide) (.bool true)) (.deferred none) hK' rfl
    refine ⟨by simp, .inl ⟨_, _, rfl, run_takeDeferred hK', ?_⟩⟩
    refine ⟨.tuple #[.slice p ys.length cap, .bool true], ?_, ⟨_, by rw [HOK.out], ?_, ?_⟩⟩
    · simp [results, Tryz.f161, go_sem, h0, h1]
    · rw [HOK.out, if_pos rfl, ← HSC.out]
      unfold OwnI
      rw [List.length_map, List.map_map]
      exact hr3
    · exact ((HB.out.setCell (p := ⟨w.heap.size, 0, none⟩) (Nat.le_refl _) _).setCell (p := ⟨w.heap.size + 1, 0, none⟩) (by simp) _).trans (belowK_b (w := w) (Nat.le_refl _) _ D _ _ hdl hK' rfl rfl)
  case stop =>
    rintro D c pre W hD hsp ⟨⟨rfl, p, hp, hr⟩, hR0, hR1, hB⟩ hK
    have HOK := Lib.hid (no_of_one hsp hp hr)
    have HB := Lib.hid hB
    have H0 := Lib.hid hR0
    have H1 := Lib.hid hR1
    have hd1 : w.heap.size + 1 < D := by simp at hD; omega
    clear hsp hp hr hB hR0 hR1
    gi_wp2
    refine ⟨by simp, .inl ⟨_, _, rfl, run_takeDeferred hK, ?_⟩⟩
    have h0 := (boxed_putObj H0.out (.deferred none) (show w.heap.size ≠ D by omega)).cell
    have h1 := (boxed_putObj H1.out (.deferred none) (show w.heap.size + 1 ≠ D by omega)).cell
    refine ⟨.tuple #[.slice none 0 0, .bool false], ?_, ⟨_, by rw [HOK.out], by rw [HOK.out]; exact ownI_nil _ _, HB.out.trans (belowK_b (w := w) (Nat.le_refl _) W D _ _ (by simp at hD; omega) hK rfl rfl)⟩⟩
    simp [results, Tryz.f161, go_sem, h0, h1]
end Go.Proofs.YtppabkllconkjaaGreatDoor.U
