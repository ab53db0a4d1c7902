/- The contracts of the document's own Split and Lines. -/
import Derived.Test.YtehehmpepkgbeaaDoorCG
import Derived.Test.YtehehmpepkgbeaaDoorCH
namespace Go.Proofs.YtehehmpepkgbeaaDoor.Chr
open Go.RowKit
set_option linter.unusedVariables false
set_option linter.unusedSimpArgs false
theorem extract_list9 (s : ByteArray) (a e : Nat) : s.extract a e = str ((s.data.toList.drop a).take (e - a)) := by
  apply ByteArray.ext
  rw [ByteArray.data_extract]
  apply Array.ext'
  show (s.data.extract a e).toList = _
  rw [Array.toList_extract, List.extract_eq_take_drop]
  rfl
theorem slice_from9 (s : ByteArray) {l x : List UInt8} (a : Nat) (h2 : a ≤ s.size) (hl : s.data.toList = l) (hx : x = l.drop a) (w0 : World) :
    (Instr.slice 9 (.string s) (some (.int .i64 (a : Int))) none none).run Tryd.prog w0 = .ok (.string (str x)) w0 := by
  have hs : s.data.toList.length = s.size := by simp
  rw [run_slice_string_from_if w0 9 s .i64 _ Tryd.underlying9, if_pos (by omega), extract_list9, hx, ← hl]
  have e : (s.data.toList.drop (a : Int).toNat).take (s.size - (a : Int).toNat) = s.data.toList.drop a := by
    rw [List.take_of_length_le (by rw [List.length_drop]; simp)]; rfl
  rw [e]
theorem slice_to9 (s : ByteArray) {l x : List UInt8} (e : Nat) (h2 : e ≤ s.size) (hl : s.data.toList = l) (hx : x = l.take e) (w0 : World) :
    (Instr.slice 9 (.string s) none (some (.int .i64 (e : Int))) none).run Tryd.prog w0 = .ok (.string (str x)) w0 := by
  rw [run_slice_string_to_if w0 9 s .i64 _ Tryd.underlying9, if_pos (by omega), extract_list9, hx, ← hl]
  rfl
/-- No place ahead of k serves. -/
def NoCut (l : List UInt8) (k : Nat) : Prop := (List.range k).find? (cutOk l) = none
theorem NoCut.step {l : List UInt8} {k : Nat} (h : NoCut l k) (hc : cutOk l k = false) : NoCut l (k + 1) := by
  unfold NoCut at *
  rw [List.range_succ, List.find?_append, h]
  simp [hc]
theorem NoCut.hit {l : List UInt8} {k : Nat} (h : NoCut l k) (hl : k < l.length) (hc : cutOk l k = true) (hp : plain l = false) : spl l = (l.take k, l.drop (k + 1), true) := by
  unfold spl
  rw [if_neg (by rw [hp]; decide)]
  have : (List.range l.length).find? (cutOk l) = some k := by
    obtain ⟨j, hj⟩ : ∃ j, l.length = k + 1 + j := ⟨l.length - (k + 1), by omega⟩
    unfold NoCut at h
    rw [hj, List.range_add, List.find?_append, List.range_succ, List.find?_append, h]
    simp [hc]
  rw [this]
theorem NoCut.done {l : List UInt8} (h : NoCut l l.length) (hp : plain l = false) : spl l = ([], [], false) := by
  unfold spl
  rw [if_neg (by rw [hp]; decide)]
  unfold NoCut at h
  rw [h]
theorem cutOk_at {l : List UInt8} {k : Nat} (h : k < l.length) : cutOk l k = (l[k] == 58 && (plain (l.take k) && plain (l.drop (k + 1)))) := by
  unfold cutOk
  rw [List.getElem?_eq_getElem h]
  have : (some l[k] == some (58 : UInt8)) = (l[k] == 58) := by simp
  rw [this]
theorem u8_eq (c : UInt8) (n : UInt8) : ((c.toNat : Int) == (n.toNat : Int)) = (c == n) := by
  rw [Bool.eq_iff_iff]
  simp only [beq_iff_eq]
  constructor
  · intro h
    exact UInt8.toNat.inj (by omega)
  · rintro rfl; rfl
set_option maxHeartbeats 8000000 in
theorem rsplit_any (l : List UInt8) (w : World) (hs : l.length ≤ 100000) : Calls Tryd.prog 19 #[.string (str l)] w fun e w' => SplR (spl l) w e w' := by
  have HP0 : Hid (Calls Tryd.prog 21 #[.string (str l)] w fun e w' => RetB (plain l) w e w') := Lib.hid (rplain_any l w hs)
  have HPT : Hid (∀ k w, Calls Tryd.prog 21 #[.string (str (l.take k))] w fun e w' => RetB (plain (l.take k)) w e w') := Lib.hid fun k w => rplain_any _ w (by rw [List.length_take]; omega)
  have HPD : Hid (∀ k w, Calls Tryd.prog 21 #[.string (str (l.drop k))] w fun e w' => RetB (plain (l.drop k)) w e w') := Lib.hid fun k w => rplain_any _ w (by rw [List.length_drop]; omega)
  have hz := str_size l
  have HGE : Hid (∀ k (h' : k < (str l).size), l[k]? = some (str l)[k]) := Lib.hid fun k h' => by
    have h2 : k < l.length := by rw [← hz]; exact h'
    rw [List.getElem?_eq_getElem h2]; rfl
  have HST : Hid (∀ k, k ≤ l.length → ∀ w0 : World, (Instr.slice 9 (.string (str l)) none (some (.int .i64 (k : Int))) none).run Tryd.prog w0 = .ok (.string (str (l.take k))) w0) := Lib.hid fun k h w0 => slice_to9 (str l) k (by rw [hz]; exact h) (str_list l) rfl w0
  have HSF : Hid (∀ k, k ≤ l.length → ∀ w0 : World, (Instr.slice 9 (.string (str l)) (some (.int .i64 (k : Int))) none none).run Tryd.prog w0 = .ok (.string (str (l.drop k))) w0) := Lib.hid fun k h w0 => slice_from9 (str l) k (by rw [hz]; exact h) (str_list l) rfl w0
  unfold SplR
  cases hp : plain l with
  | true =>
    rw [hp] at HP0
    rw [spl_plain hp]
    obtain ⟨s, hS⟩ : ∃ S, str l = S := ⟨_, rfl⟩
    have HEM : Hid (str [] = (⟨#[]⟩ : ByteArray)) := Lib.hid rfl
    dsimp only
    rw [hS] at HP0 ⊢
    clear hS hz hp HPT HPD HGE HST HSF
    go_enter Tryd.func19, Tryd.ntmps19
    go_wp2_with (go_at_call 21; refine HP0.out.mono ?_; rintro _ w3 ⟨rfl, hb3⟩)
    go_ret3
    exact ⟨rfl, hb3⟩
  | false =>
    rw [hp] at HP0
    have HPL := Lib.hid hp
    obtain ⟨R, hR⟩ : ∃ R, spl l = R := ⟨_, rfl⟩
    have HRR := Lib.hid hR
    rw [hR]
    obtain ⟨s, hS⟩ : ∃ S, str l = S := ⟨_, rfl⟩
    rw [hS] at HP0 hz HGE HST HSF ⊢
    have HZ := Lib.hid hz
    have hs : s.size ≤ 100000 := by omega
    clear hS hz hp hR
    go_enter Tryd.func19, Tryd.ntmps19
    go_wp2_with (go_at_call 21; refine HP0.out.mono ?_; rintro _ w3 ⟨rfl, hb3⟩; have HB3 := Lib.hid hb3; clear hb3 HP0)
    go_loopg [5] (s.size + 1) (fun g q wr => ∃ (k : Nat), k + g = s.size + 1 ∧ q = .int .i64 k ∧ k ≤ s.size ∧ Hid (NoCut l k) ∧ Hid (Below w.heap.size w wr))
    case atStart => exact ⟨0, by omega, rfl, by omega, Lib.hid rfl, Lib.hid HB3.out⟩
    case round =>
      obtain ⟨k, hkg, rfl, hk7, HA, HB⟩ := hrel
      by_cases hlt : k < s.size
      · have hll : k < l.length := by rw [← HZ.out]; exact hlt
        have hk0 : (0 : Int) ≤ (k : Int) := by omega
        have hk3 : (k : Int) < (s.size : Int) := by omega
        have hel : l[k] = s[k] := by
          have h := HGE.out k hlt
          rw [List.getElem?_eq_getElem hll] at h
          exact Option.some.inj h
        have hcu := cutOk_at hll
        rw [hel] at hcu
        have hu := u8_eq s[k] 58
        have h58 : ((58 : UInt8).toNat : Int) = 58 := rfl
        rw [h58] at hu
        have hst := HST.out k (by omega)
        have hsf := HSF.out (k + 1) (by omega)
        have hcast : ((k + 1 : Nat) : Int) = (k : Int) + 1 := by omega
        rw [hcast] at hsf
        cases hc : (s[k] == (58 : UInt8)) with
        | false =>
          rw [hc] at hu hcu
          have HN : Hid (NoCut l (k + 1)) := Lib.hid (HA.out.step (by rw [hcu]; rfl))
          clear hc hcu hel h58 hcast
          go_wp2_with fail
          go_roundg (gk - 1)
          case measure => omega
          case rel => exact ⟨k + 1, by omega, by go_num, by omega, HN, HB⟩
        | true =>
          rw [hc] at hu hcu
          have HPTk := Lib.hid (HPT.out k)
          have HPDk := Lib.hid (HPD.out (k + 1))
          cases hp1 : plain (l.take k) with
          | false =>
            rw [hp1] at HPTk hcu
            have HN : Hid (NoCut l (k + 1)) := Lib.hid (HA.out.step (by rw [hcu]; rfl))
            clear hc hcu hel h58 hcast hp1 HPDk
            go_wp2_with (go_at_call 21; refine (HPTk.out _).mono ?_; rintro _ w4 ⟨rfl, hb4⟩; have HB4 := Lib.hid (below_call HB.out hb4); clear hb4 HPTk)
            go_roundg (gk - 1)
            case measure => omega
            case rel => exact ⟨k + 1, by omega, by go_num, by omega, HN, HB4⟩
          | true =>
            rw [hp1] at HPTk hcu
            cases hp2 : plain (l.drop (k + 1)) with
            | false =>
              rw [hp2] at HPDk hcu
              have HN : Hid (NoCut l (k + 1)) := Lib.hid (HA.out.step (by rw [hcu]; rfl))
              clear hc hcu hel h58 hcast hp1 hp2
              go_wp2_with (first
                | (go_at_call 21; refine (HPTk.out _).mono ?_; rintro _ w4 ⟨rfl, hb4⟩; have HB4 := Lib.hid (below_call HB.out hb4); clear hb4 HPTk)
                | (go_at_call 21; refine (HPDk.out _).mono ?_; rintro _ w5 ⟨rfl, hb5⟩; have HB5 := Lib.hid (below_call HB4.out hb5); clear hb5 HPDk))
              go_roundg (gk - 1)
              case measure => omega
              case rel => exact ⟨k + 1, by omega, by go_num, by omega, HN, HB5⟩
            | true =>
              rw [hp2] at HPDk hcu
              have HN : Hid (R = (l.take k, l.drop (k + 1), true)) := Lib.hid (HRR.out.symm.trans (HA.out.hit hll (by rw [hcu]; rfl) HPL.out))
              clear hc hcu hel h58 hcast hp1 hp2
              go_wp2_with (first
                | (go_at_call 21; refine (HPTk.out _).mono ?_; rintro _ w4 ⟨rfl, hb4⟩; have HB4 := Lib.hid (below_call HB.out hb4); clear hb4 HPTk)
                | (go_at_call 21; refine (HPDk.out _).mono ?_; rintro _ w5 ⟨rfl, hb5⟩; have HB5 := Lib.hid (below_call HB4.out hb5); clear hb5 HPDk))
              go_region
              go_wp2_with fail
              go_ret3
              exact ⟨by rw [HN.out]; rfl, below_draws HB5.out _⟩
      · have HN : Hid (R = ([], [], false)) := Lib.hid (by
          have h1 : k = l.length := by have := HZ.out; omega
          have h2 := HA.out
          rw [h1] at h2
          exact HRR.out.symm.trans (h2.done HPL.out))
        go_wp2_with fail
        go_ret3
        exact ⟨by rw [HN.out]; rfl, HB.out⟩
/-- Lines made plain up to a place. -/
structure LnAt (l : List UInt8) (k : Nat) (ys : List UInt8) : Prop where
  few : ys.length ≤ k
  eq : lns l = ys ++ lns (l.drop k)
theorem lns_cons (c : UInt8) (t : List UInt8) : lns (c :: t) = if c = 13 ∧ t.head? = some 10 then lns t else (if c = 13 then 10 else c) :: lns t := rfl
theorem LnAt.skip {l : List UInt8} {k : Nat} {ys : List UInt8} (h : LnAt l k ys) (hk : k < l.length) (h1 : l[k] = 13) (h2 : l[k + 1]? = some 10) : LnAt l (k + 1) ys := by
  refine ⟨by have := h.few; omega, ?_⟩
  rw [h.eq, List.drop_eq_getElem_cons hk, lns_cons, if_pos ⟨h1, by rw [List.head?_drop]; exact h2⟩]
theorem LnAt.cr {l : List UInt8} {k : Nat} {ys : List UInt8} (h : LnAt l k ys) (hk : k < l.length) (h1 : l[k] = 13) (h2 : l[k + 1]? ≠ some 10) : LnAt l (k + 1) (ys ++ [10]) := by
  refine ⟨by have := h.few; simp; omega, ?_⟩
  rw [h.eq, List.drop_eq_getElem_cons hk, lns_cons, if_neg (fun e => h2 (by rw [← List.head?_drop]; exact e.2)), if_pos h1]
  simp
theorem LnAt.put {l : List UInt8} {k : Nat} {ys : List UInt8} (h : LnAt l k ys) (hk : k < l.length) (h1 : l[k] ≠ 13) : LnAt l (k + 1) (ys ++ [l[k]]) := by
  refine ⟨by have := h.few; simp; omega, ?_⟩
  rw [h.eq, List.drop_eq_getElem_cons hk, lns_cons, if_neg (fun e => h1 e.1), if_neg h1]
  simp
theorem LnAt.done {l : List UInt8} {k : Nat} {ys : List UInt8} (h : LnAt l k ys) (hk : ¬ k < l.length) : lns l = ys := by
  rw [h.eq, List.drop_eq_nil_of_le (by omega)]
  simp [lns]
set_option maxHeartbeats 8000000 in
theorem rlines_any (l : List UInt8) (w : World) (hs : l.length ≤ 100000) : Calls Tryd.prog 29 #[.string (str l)] w fun e w' => RetT (lns l) w e w' := by
  obtain ⟨i0, hi, hz0, hz1, hz2⟩ := info_parts info5
  have hz := str_size l
  have HGE : Hid (∀ k (h' : k < (str l).size), l[k]? = some (str l)[k]) := Lib.hid fun k h' => by
    have h2 : k < l.length := by rw [← hz]; exact h'
    rw [List.getElem?_eq_getElem h2]; rfl
  unfold RetT
  obtain ⟨s, hS⟩ : ∃ S, str l = S := ⟨_, rfl⟩
  rw [hS] at hz HGE ⊢
  have HZ := Lib.hid hz
  have hs : s.size ≤ 100000 := by omega
  clear hS hz
  go_enter Tryd.func29, Tryd.ntmps29
  go_wp2_with fail
  go_loopg [3, 4] (s.size + 1) (fun g q3 q4 wr => ∃ (v : Value) (k : Nat) (ys : List UInt8), v = q3 ∧ k + g = s.size + 1 ∧ q4 = .int .i64 k ∧ k ≤ s.size ∧ Hid (LnAt l k ys) ∧ Hid (Own8 wr w.heap.size q3 ys) ∧ Hid (Below w.heap.size w wr))
  case atStart => exact ⟨_, 0, [], rfl, by omega, rfl, by omega, Lib.hid ⟨by simp, by simp⟩, Lib.hid (own_nil _ _), Lib.hid (Below.refl _ _)⟩
  case round =>
    obtain ⟨v, k, ys, rfl, hkg, rfl, hk7, HA, HO, HB⟩ := hrel
    have hwz := HB.out.size
    by_cases hlt : k < s.size
    · have hll : k < l.length := by rw [← HZ.out]; exact hlt
      have hk0 : (0 : Int) ≤ (k : Int) := by omega
      have hk3 : (k : Int) < (s.size : Int) := by omega
      have HLN := Lib.hid HA.out.few
      have hel : l[k] = s[k] := by
        have h := HGE.out k hlt
        rw [List.getElem?_eq_getElem hll] at h
        exact Option.some.inj h
      have hu := u8_eq s[k] 13
      have h13 : ((13 : UInt8).toNat : Int) = 13 := rfl
      rw [h13] at hu
      cases hc : (s[k] == (13 : UInt8)) with
      | false =>
        rw [hc] at hu
        have HN : Hid (LnAt l (k + 1) (ys ++ [s[k]])) := Lib.hid (by
          have := HA.out.put hll (by rw [hel]; simpa using hc)
          rwa [hel] at this)
        clear hc hel h13
        go_wp2_with (at_builtin; refine wpList_append_lies _ rfl _ _ _ rfl w.heap.size 5 i0 _ 1 1 Tryd.underlying29 hi hz0 hz1 hz2 rfl (by omega) v ys.length (ys.map u8v) rfl (World.ownsRow.alloc HO.out _) ⟨wr.heap.size, 0, none⟩ 1 1 [_] rfl rfl (cell_one_new _ _ _) (by simp [Value.oneCell']) (by omega) (by have := HLN.out; unfold maxLen; omega) (by have := HLN.out; omega) (by simp; omega) (wr.heap.size + 1) (by simp) ?_; intro g1 cap1 w1 hown1 hgrow1 hat1 hlt1)
        have HO1 : Hid (Own8 w1 w.heap.size (.slice (some ⟨g1, 0, none⟩) (ys.length + 1) cap1) (ys ++ [s[k]])) := Lib.hid (by
          unfold Own8; rw [List.length_append, List.map_append]; exact hown1)
        have HB1 : Hid (Below w.heap.size w w1) := Lib.hid (((HB.out.alloc hwz _)).grown hgrow1 (by simp; omega) (fun k e => (World.ownsRow.lt HO.out k e).1))
        clear hown1 hgrow1 hat1 hlt1
        go_wp2_with fail
        go_roundg (gk - 1)
        case measure => omega
        case rel => exact ⟨_, k + 1, _, rfl, by omega, by go_num, by omega, HN, HO1, HB1⟩
      | true =>
        rw [hc] at hu
        have hc13 : s[k] = 13 := by simpa using hc
        by_cases hlt2 : k + 1 < s.size
        · have hk4 : (k : Int) + 1 < (s.size : Int) := by omega
          have hk5 : (0 : Int) ≤ (k : Int) + 1 := by omega
          have hel2 := HGE.out (k + 1) hlt2
          have hu2 := u8_eq s[k + 1] 10
          have h10 : ((10 : UInt8).toNat : Int) = 10 := rfl
          rw [h10] at hu2
          cases hd : (s[k + 1] == (10 : UInt8)) with
          | true =>
            rw [hd] at hu2
            have HN : Hid (LnAt l (k + 1) ys) := Lib.hid (HA.out.skip hll (hel.trans hc13) (by rw [hel2]; congr 1; simpa using hd))
            clear hc hel h13 hel2 h10 hd hc13
            go_wp2_with fail
            go_roundg (gk - 1)
            case measure => omega
            case rel => exact ⟨_, k + 1, ys, rfl, by omega, by go_num, by omega, HN, HO, HB⟩
          | false =>
            rw [hd] at hu2
            have HN : Hid (LnAt l (k + 1) (ys ++ [10])) := Lib.hid (HA.out.cr hll (hel.trans hc13) (by rw [hel2]; intro e; have e2 := Option.some.inj e; simp [e2] at hd))
            clear hc hel h13 hel2 h10 hd hc13
            go_wp2_with (at_builtin; refine wpList_append_lies _ rfl _ _ _ rfl w.heap.size 5 i0 _ 1 1 Tryd.underlying29 hi hz0 hz1 hz2 rfl (by omega) v ys.length (ys.map u8v) rfl (World.ownsRow.alloc HO.out _) ⟨wr.heap.size, 0, none⟩ 1 1 [_] rfl rfl (cell_one_new _ _ _) (by simp [Value.oneCell']) (by omega) (by have := HLN.out; unfold maxLen; omega) (by have := HLN.out; omega) (by simp; omega) (wr.heap.size + 1) (by simp) ?_; intro g1 cap1 w1 hown1 hgrow1 hat1 hlt1)
            have HO1 : Hid (Own8 w1 w.heap.size (.slice (some ⟨g1, 0, none⟩) (ys.length + 1) cap1) (ys ++ [10])) := Lib.hid (by
              unfold Own8; rw [List.length_append, List.map_append]; exact hown1)
            have HB1 : Hid (Below w.heap.size w w1) := Lib.hid (((HB.out.alloc hwz _)).grown hgrow1 (by simp; omega) (fun k e => (World.ownsRow.lt HO.out k e).1))
            clear hown1 hgrow1 hat1 hlt1
            go_wp2_with fail
            go_roundg (gk - 1)
            case measure => omega
            case rel => exact ⟨_, k + 1, _, rfl, by omega, by go_num, by omega, HN, HO1, HB1⟩
        · have hk4 : ¬ (k : Int) + 1 < (s.size : Int) := by omega
          have HN : Hid (LnAt l (k + 1) (ys ++ [10])) := Lib.hid (HA.out.cr hll (hel.trans hc13) (by rw [List.getElem?_eq_none (by rw [← HZ.out]; omega)]; simp))
          clear hc hel h13 hc13
          go_wp2_with (at_builtin; refine wpList_append_lies _ rfl _ _ _ rfl w.heap.size 5 i0 _ 1 1 Tryd.underlying29 hi hz0 hz1 hz2 rfl (by omega) v ys.length (ys.map u8v) rfl (World.ownsRow.alloc HO.out _) ⟨wr.heap.size, 0, none⟩ 1 1 [_] rfl rfl (cell_one_new _ _ _) (by simp [Value.oneCell']) (by omega) (by have := HLN.out; unfold maxLen; omega) (by have := HLN.out; omega) (by simp; omega) (wr.heap.size + 1) (by simp) ?_; intro g1 cap1 w1 hown1 hgrow1 hat1 hlt1)
          have HO1 : Hid (Own8 w1 w.heap.size (.slice (some ⟨g1, 0, none⟩) (ys.length + 1) cap1) (ys ++ [10])) := Lib.hid (by
            unfold Own8; rw [List.length_append, List.map_append]; exact hown1)
          have HB1 : Hid (Below w.heap.size w w1) := Lib.hid (((HB.out.alloc hwz _)).grown hgrow1 (by simp; omega) (fun k e => (World.ownsRow.lt HO.out k e).1))
          clear hown1 hgrow1 hat1 hlt1
          go_wp2_with fail
          go_roundg (gk - 1)
          case measure => omega
          case rel => exact ⟨_, k + 1, _, rfl, by omega, by go_num, by omega, HN, HO1, HB1⟩
    · have hO := HO.out
      have hconv := conv_own hO
      have HR : Hid (lns l = ys) := Lib.hid (HA.out.done (by rw [← HZ.out]; exact hlt))
      clear hO
      go_wp2_with fail
      go_ret
      exact ⟨by rw [HR.out]; rfl, HB.out⟩
end Go.Proofs.YtehehmpepkgbeaaDoor.Chr
