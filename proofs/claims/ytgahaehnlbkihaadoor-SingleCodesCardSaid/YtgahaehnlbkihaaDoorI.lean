/- The contracts of the document's own Table and Byte. -/
import Derived.Test.YtgahaehnlbkihaaDoorH
import Derived.Maps.Own
import Derived.Maps.OwnSet
import Derived.Deep.WholeRow
import Derived.Deep.OwnRows
namespace Go.Proofs.YtgahaehnlbkihaaDoor
open Go.RowKit Go.Maps
set_option linter.unusedVariables false
set_option linter.unusedSimpArgs false
theorem own_below {w w' : World} {base : Nat} {e : TypeId} {size : Nat} {v : Value} {n : Nat} {xs : List Value} (h : w.ownsRow base e size v n xs) (hb : Below w.heap.size w w') : w'.ownsRow base e size v n xs := by
  refine ⟨h.1, ?_⟩
  rcases h.2 with hn | ⟨g, cap, cur, rfl, hb0, hgg, rest⟩
  · exact .inl hn
  · refine .inr ⟨g, cap, cur, rfl, hb0, ?_, rest⟩
    rw [hb.block g (Array.getElem?_eq_some_iff.1 hgg).1]
    exact hgg
theorem ints_cells {w : World} {v : Value} {g : Nat → Int} (h : Ints w v ((List.range 256).map g)) : ∃ b off cap, v = .slice (some ⟨b, off, none⟩) 256 cap ∧ b < w.heap.size ∧ ∀ k : Nat, k < 256 → w.cell? ⟨b, off + k, none⟩ = some (.int .i64 (g k)) := by
  rcases h with ⟨h0, _⟩ | ⟨b, off, cap, rfl, hlt, hc⟩
  · exfalso
    have := congrArg List.length h0
    simp at this
  · refine ⟨b, off, cap, by simp, hlt, fun k hk => ?_⟩
    have := hc k (by simpa using hk)
    simpa using this
def RetT (e : Int) (w : World) (x : Ending) (w' : World) : Prop := ∃ v, x = .returned v ∧ Ints w' v (tbl e) ∧ Below w.heap.size w w'
theorem tbl_is {e : Int} (h : isE e = true) : tbl e = (List.range 256).map (scE e) := by unfold tbl; rw [if_pos h]
theorem tbl_isnt {e : Int} (h : isE e = false) : tbl e = [] := by unfold tbl; rw [h]; rfl
theorem ints_nil (w : World) : Ints w (.slice none 0 0) [] := .inl ⟨rfl, none, 0, rfl⟩
theorem range_snoc (g : Nat → Int) (k : Nat) : (List.range (k + 1)).map g = (List.range k).map g ++ [g k] := by simp [List.range_succ]
set_option maxRecDepth 100000 in
theorem rtable_any (e : Int) (w : World) : Calls Tryd.prog 15 #[.int .i8 e] w fun x w' => RetT e w x w' := by
  obtain ⟨i0, hi, hz0, hz1, hz2⟩ := info_parts info3
  cases h : isE e
  · have HN : Hid (tbl e = []) := Lib.hid (tbl_isnt h)
    have HI := Lib.hid h
    clear h
    go_enter Tryd.func15, Tryd.ntmps15
    go_wp2_with fail
    go_loopg [3, 4] 1 (fun g q3 q4 wr => g = 1 ∧ q3 = .slice none 0 0 ∧ q4 = .int .i64 0 ∧ w = wr)
    case atStart => exact ⟨rfl, rfl, rfl, rfl⟩
    case round =>
      obtain ⟨rfl, rfl, rfl, rfl⟩ := hrel
      have HC := Lib.hid (rscalar_any e 0 0 rfl (by omega) w)
      have hw8 : IntKind.u8.wrap 0 = 0 := by decide
      go_wp2_with (go_at_call 25; refine HC.out.mono ?_; rintro x w1 ⟨rfl, hb1⟩; rw [HI.out]; have HB1 := Lib.hid hb1; clear hb1)
      go_ret
      exact ⟨_, rfl, by rw [HN.out]; exact ints_nil _, HB1.out⟩
  · have HN : Hid (tbl e = (List.range 256).map (scE e)) := Lib.hid (tbl_is h)
    have HI := Lib.hid h
    clear h
    go_enter Tryd.func15, Tryd.ntmps15
    go_wp2_with fail
    go_loopg [3, 4] 257 (fun g q3 q4 wr => ∃ (u : Value) (k : Nat), u = q3 ∧ k + g = 257 ∧ q4 = .int .i64 k ∧ k ≤ 256 ∧ Hid (OwnI wr w.heap.size u ((List.range k).map (scE e))) ∧ Hid (Below w.heap.size w wr))
    case atStart => exact ⟨_, 0, rfl, by omega, rfl, by omega, Lib.hid (ownI_nil _ _), Lib.hid (Below.refl _ _)⟩
    case round =>
      obtain ⟨u, k, rfl, hkg, rfl, hk7, HO, HB⟩ := hrel
      by_cases hk : k < 256
      · have hw8 : IntKind.u8.wrap (k : Int) = k := by rw [IntKind.wrap_u8]; omega
        have HC := Lib.hid (rscalar_any e k k rfl hk wr)
        have HX : Hid ((List.range (k + 1)).map (scE e) = (List.range k).map (scE e) ++ [scE e k]) := Lib.hid (range_snoc _ _)
        obtain ⟨c, hc⟩ : ∃ c, scE e k = c := ⟨_, rfl⟩
        have hlen : ((List.range k).map (scE e)).length = k := by simp
        obtain ⟨xs, hxs⟩ : ∃ xs, (List.range k).map (scE e) = xs := ⟨_, rfl⟩
        rw [hxs] at HX HO hlen
        rw [hc] at HX
        have HCC := Lib.hid hc
        have hwz := HB.out.size
        have HO' : Hid (wr.ownsRow w.heap.size 3 1 u k (xs.map (Value.int .i64))) := Lib.hid (by have := HO.out; unfold OwnI at this; rwa [hlen] at this)
        have HLX := Lib.hid hlen
        clear hxs hc HO hlen
        go_wp2_with (first
          | (go_at_call 25; refine HC.out.mono ?_; rintro x w1 ⟨rfl, hb1⟩; rw [HI.out, HCC.out]; have HO1 : Hid (w1.ownsRow w.heap.size 3 1 u k (xs.map (Value.int .i64))) := Lib.hid (own_below HO'.out hb1); have HB1 : Hid (Below w.heap.size w w1) := Lib.hid (below_call HB.out hb1); have hq1 := HB1.out.size; clear hb1)
          | (at_builtin; refine wpList_append_lies _ rfl _ _ _ rfl w.heap.size 3 i0 _ 1 8 Tryd.underlying30 hi hz0 hz1 hz2 rfl (by omega) u k _ rfl (World.ownsRow.alloc HO1.out _) ⟨w1.heap.size, 0, none⟩ 1 1 [_] rfl rfl (cell_one_new _ _ _) (by simp [Value.oneCell']) (by omega) (by unfold maxLen; omega) (by omega) (by simp; omega) (w1.heap.size + 1) (by simp) ?_; intro g2 cap2 w2 hown2 hgrow2 hat2 hlt2))
        have HO2 : Hid (OwnI w2 w.heap.size (.slice (some ⟨g2, 0, none⟩) (k + 1) cap2) ((List.range (k + 1)).map (scE e))) := Lib.hid (by
          rw [HX.out]; unfold OwnI; rw [List.length_append, List.map_append, HLX.out]; exact hown2)
        have HB2 : Hid (Below w.heap.size w w2) := Lib.hid ((HB1.out.alloc hq1 _).grown hgrow2 (by simp; omega) (fun j ej => (World.ownsRow.lt HO1.out j ej).1))
        clear hown2 hgrow2 hat2 hlt2
        go_wp2_with fail
        go_roundg (gk - 1)
        case measure => omega
        case rel => exact ⟨_, k + 1, rfl, by omega, by go_num, by omega, HO2, HB2⟩
      · have hk' : k = 256 := by omega
        subst hk'
        go_wp2_with fail
        go_ret
        exact ⟨_, rfl, by rw [HN.out]; exact ints_of_own HO.out, HB.out⟩
set_option maxRecDepth 100000 in
theorem rbyte_any (e : Int) (r : Int) (w : World) : Calls Tryd.prog 20 #[.int .i8 e, .int .i64 r] w fun x w' => RetY e r w x w' := by
  have HT := Lib.hid (rtable_any e w)
  cases h : isE e
  · have HN : Hid (tbl e = []) := Lib.hid (tbl_isnt h)
    have HR := Lib.hid (bf_isnt (r := r) h)
    clear h
    go_enter Tryd.func20, Tryd.ntmps20
    go_wp2_with (go_at_call 15; refine HT.out.mono ?_; rintro x w1 ⟨v, rfl, hv, hb1⟩; rw [HN.out] at hv; obtain ⟨p, cap, rfl⟩ := hv.form; have HB1 := Lib.hid hb1; clear hb1 hv)
    go_loopg [7] 1 (fun g q wr => g = 1 ∧ q = .int .i64 0 ∧ w1 = wr)
    case atStart => exact ⟨rfl, rfl, rfl⟩
    case round =>
      obtain ⟨rfl, rfl, rfl⟩ := hrel
      go_wp2_with fail
      go_ret2
      exact retY_none HR.out HB1.out
  · have HN : Hid (tbl e = (List.range 256).map (scE e)) := Lib.hid (tbl_is h)
    have HI := Lib.hid h
    clear h
    go_enter Tryd.func20, Tryd.ntmps20
    go_wp2_with (go_at_call 15; refine HT.out.mono ?_; rintro x w1 ⟨v, rfl, hv, hb1⟩; rw [HN.out] at hv; obtain ⟨b, off, cap, rfl, hlt, hc⟩ := ints_cells hv; have HB1 := Lib.hid hb1; clear hb1 hv; have HC := Lib.hid hc; clear hc)
    go_loopg [7] 257 (fun gh q wr => ∃ (k : Nat), k + gh = 257 ∧ q = .int .i64 k ∧ k ≤ 256 ∧ Hid (look (scE e) k r = none) ∧ w1 = wr)
    case atStart => exact ⟨0, by omega, rfl, by omega, Lib.hid rfl, rfl⟩
    case round =>
      obtain ⟨k, hkg, rfl, hk7, HL, rfl⟩ := hrel
      by_cases hk : k < 256
      · have hw8 : IntKind.u8.wrap (k : Int) = k := by rw [IntKind.wrap_u8]; omega
        have hc := HC.out k hk
        obtain ⟨c, hcc⟩ : ∃ c, scE e k = c := ⟨_, rfl⟩
        rw [hcc] at hc
        by_cases hcr : c = r
        · have HR : Hid (bf e r = some k) := Lib.hid (by rw [bf_is HI.out]; exact look_first hk (look_none.1 HL.out) (hcc.trans hcr))
          subst hcr
          clear hcc
          go_wp2_with fail
          go_ret2
          exact retY_some HR.out HB1.out
        · have HL1 : Hid (look (scE e) (k + 1) r = none) := Lib.hid (look_skip HL.out (by rw [hcc]; exact hcr))
          have hcb : (c == r) = false := by simp [hcr]
          clear hcc hcr
          go_wp2_with fail
          go_roundg (gk - 1)
          case measure => omega
          case rel => exact ⟨k + 1, by omega, by go_num, by omega, HL1, rfl⟩
      · have hk' : k = 256 := by omega
        subst hk'
        have HR : Hid (bf e r = none) := Lib.hid (by rw [bf_is HI.out]; exact HL.out)
        go_wp2_with fail
        go_ret2
        exact retY_none HR.out HB1.out
theorem wakes_any (w : World) : Calls Tryd.prog 5 #[] w fun e w' => RetB true w e w' := by
  have H1 : Hid (∀ w, Calls Tryd.prog 11 #[.int .i8 3, .int .u8 128] w fun e w' => e = .returned (.tuple #[.int .i64 8364, .bool true]) ∧ Below w.heap.size w w') := Lib.hid fun w => by
    refine (fscalar_3 128 128 rfl (by omega) w).mono ?_
    rintro e w' ⟨rfl, hb⟩
    refine ⟨?_, hb⟩
    rw [show scE 3 128 = 8364 from by decide, show isE 3 = true from rfl]
  have H2 : Hid (∀ w, Calls Tryd.prog 11 #[.int .i8 4, .int .u8 192] w fun e w' => e = .returned (.tuple #[.int .i64 1056, .bool true]) ∧ Below w.heap.size w w') := Lib.hid fun w => by
    refine (fscalar_4 192 192 rfl (by omega) w).mono ?_
    rintro e w' ⟨rfl, hb⟩
    refine ⟨?_, hb⟩
    rw [show scE 4 192 = 1056 from by decide, show isE 4 = true from rfl]
  have H3 : Hid (∀ w, Calls Tryd.prog 12 #[.int .i8 5, .int .i64 8364] w fun e w' => e = .returned (.tuple #[.int .u8 164, .bool true]) ∧ Below w.heap.size w w') := Lib.hid fun w => by
    refine (fbyte_5 8364 w).mono ?_
    rintro e w' ⟨rfl, hb⟩
    refine ⟨?_, hb⟩
    rw [show bf 5 8364 = some 164 from by decide +kernel]; rfl
  go_enter Tryd.func5, Tryd.ntmps5
  go_wp2_with (first
    | (go_at_call 11; refine (H1.out _).mono ?_; rintro e w1 ⟨rfl, hb1⟩; have HB1 := Lib.hid hb1; clear hb1 H1)
    | (go_at_call 11; refine (H2.out _).mono ?_; rintro e w2 ⟨rfl, hb2⟩; have HB2 := Lib.hid hb2; clear hb2 H2)
    | (go_at_call 12; refine (H3.out _).mono ?_; rintro e w3 ⟨rfl, hb3⟩; have HB3 := Lib.hid hb3; clear hb3))
  go_ret
  exact ⟨rfl, below_call (below_call HB1.out HB2.out) HB3.out⟩
end Go.Proofs.YtgahaehnlbkihaaDoor
