/- The contract of the document's own Lower; slices of bytes that grow. -/
import Derived.Test.YtfpncdhneikkaaaDoorE
import Derived.Lib.Bytealg
import Derived.Laws.Externs
import Derived.Laws.DeepStrings4
import Derived.Laws.BytesArg
import Derived.Laws.IdiomStrings
namespace Go.Proofs.YtfpncdhneikkaaaDoor
open Go.RowKit
set_option linter.unusedVariables false
set_option linter.unusedSimpArgs false
def Own8 (w : World) (base : Nat) (v : Value) (xs : List UInt8) : Prop := w.ownsRow base 5 1 v xs.length (xs.map u8v)
theorem own_nil (w : World) (base : Nat) : Own8 w base (.slice none 0 0) [] := World.ownsRow_nil w base 5 1
theorem conv_own {w : World} {base : Nat} {v : Value} {xs : List UInt8} (h : Own8 w base v xs) : (convert 33 9 v).run Tryd.prog w = .ok (.string (str xs)) w := by
  rcases h.2 with ⟨rfl, h0⟩ | ⟨g, cap, cur, rfl, hb, hg, hcap, hm, hsz, ht⟩
  · have : xs = [] := List.eq_nil_of_length_eq_zero h0
    subst this
    exact run_convert_bytes_nil (P := Tryd.prog) w 33 5 Tryd.underlying33 Tryd.underlying5 0 0 9 Tryd.underlying9
  · refine run_convert_bytes_back (P := Tryd.prog) w 33 9 5 ⟨g, 0, none⟩ cap xs Tryd.underlying33 Tryd.underlying5 Tryd.underlying9 ?_
    intro i hi
    have hc := (World.ownsRow.cells (g := g) h rfl) i (u8v xs[i]) (by simp [hi])
    rw [hc]; rfl
theorem lwr_take {l : List UInt8} {k : Nat} (h : k < l.length) : lwr (l.take (k + 1)) = lwr (l.take k) ++ [lo l[k]] := by
  unfold lwr
  rw [List.take_add_one, List.getElem?_eq_getElem h, List.map_append]
  rfl
theorem lwr_take_len {l : List UInt8} {k : Nat} (h : k ≤ l.length) : (lwr (l.take k)).length = k := by simp [lwr]; omega
set_option maxHeartbeats 1600000 in
theorem rlower_any (s : ByteArray) (w : World) (hs : s.size ≤ 100000) : Calls Tryd.prog 18 #[.string s] w fun e w' => RetS (lwr s.data.toList) w e w' := by
  obtain ⟨i0, hi, hz0, hz1, hz2⟩ := info_parts info5
  have hsz : s.data.toList.length = s.size := by simp
  obtain ⟨l, HL⟩ : ∃ l, Hid (s.data.toList = l) := ⟨_, Lib.hid rfl⟩
  have HSZ : Hid (l.length = s.size) := Lib.hid (by rw [← HL.out]; exact hsz)
  have HE : Hid (∀ k (h : k < s.size), l[k]'(by rw [HSZ.out]; exact h) = s[k]) := Lib.hid (by
    intro k h
    have e := HL.out
    subst e
    rfl)
  rw [HL.out]
  clear hsz
  go_enter Tryd.func18, Tryd.ntmps18
  go_wp2_with fail
  go_loopg [3, 4] (s.size + 1) (fun g q3 q4 wr => ∃ (v : Value) (k : Nat), v = q3 ∧ k + g = s.size + 1 ∧ q4 = .int .i64 k ∧ k ≤ s.size ∧ Hid (Own8 wr w.heap.size q3 (lwr (l.take k))) ∧ Hid (Below w.heap.size w wr))
  case atStart => exact ⟨_, 0, rfl, by omega, rfl, by omega, Lib.hid (own_nil _ _), Lib.hid (Below.refl _ _)⟩
  case round =>
    obtain ⟨v, k, rfl, hkg, rfl, hk7, HO, HB⟩ := hrel
    have hwz := HB.out.size
    by_cases hlt : k < s.size
    · have hkl : k < l.length := by rw [HSZ.out]; exact hlt
      have hk0 : (0 : Int) ≤ (k : Int) := by omega
      have hk3 : (k : Int) < (s.size : Int) := by omega
      have HN := Lib.hid (lwr_take hkl)
      rw [HE.out k hlt] at HN
      have HLN := Lib.hid (lwr_take_len (l := l) (k := k) (by omega))
      have hbd := s[k].toNat_lt
      by_cases h1 : 65 ≤ (s[k].toNat : Int)
      · have d1 : decide (65 ≤ (s[k].toNat : Int)) = true := by simpa using h1
        have d1n : decide (65 ≤ s[k].toNat) = true := by simp; omega
        by_cases h2 : (s[k].toNat : Int) ≤ 90
        · have d2 : decide ((s[k].toNat : Int) ≤ 90) = true := by simpa using h2
          have d2n : decide (s[k].toNat ≤ 90) = true := by simp; omega
          have hor := lo_add s[k] h1 h2
          clear hkl h1 h2
          go_wp2_with (at_builtin; refine wpList_append_lies _ rfl _ _ _ rfl w.heap.size 5 i0 _ 1 1 Tryd.underlying33 hi hz0 hz1 hz2 rfl (by omega) v (lwr (l.take k)).length ((lwr (l.take k)).map u8v) rfl (World.ownsRow.alloc HO.out _) ⟨wr.heap.size, 0, none⟩ 1 1 [_] rfl rfl (cell_one_new _ _ _) (by simp [Value.oneCell']) (by omega) (by rw [HLN.out]; unfold maxLen; omega) (by rw [HLN.out]; omega) (by simp; omega) (wr.heap.size + 1) (by simp) ?_; intro g1 cap1 w1 hown1 hgrow1 hat1 hlt1)
          have HO1 : Hid (Own8 w1 w.heap.size (.slice (some ⟨g1, 0, none⟩) ((lwr (l.take k)).length + 1) cap1) (lwr (l.take (k + 1)))) := Lib.hid (by
            unfold Own8; rw [HN.out, List.length_append, List.map_append]; exact hown1)
          have HB1 : Hid (Below w.heap.size w w1) := Lib.hid (((HB.out.alloc hwz _)).grown hgrow1 (by simp; omega) (fun k e => (World.ownsRow.lt HO.out k e).1))
          clear hown1 hgrow1 hat1 hlt1
          go_wp2_with fail
          go_roundg (gk - 1)
          case measure => omega
          case rel => exact ⟨_, k + 1, rfl, by omega, by go_num, by omega, HO1, HB1⟩
        · have d2 : decide ((s[k].toNat : Int) ≤ 90) = false := by simpa using h2
          have d2n : decide (s[k].toNat ≤ 90) = false := by simp; omega
          have HN := Lib.hid (HN.out.trans (by rw [lo_not s[k] (fun h => h2 h.2)]))
          clear hkl h1 h2
          go_wp2_with (at_builtin; refine wpList_append_lies _ rfl _ _ _ rfl w.heap.size 5 i0 _ 1 1 Tryd.underlying33 hi hz0 hz1 hz2 rfl (by omega) v (lwr (l.take k)).length ((lwr (l.take k)).map u8v) rfl (World.ownsRow.alloc HO.out _) ⟨wr.heap.size, 0, none⟩ 1 1 [_] rfl rfl (cell_one_new _ _ _) (by simp [Value.oneCell']) (by omega) (by rw [HLN.out]; unfold maxLen; omega) (by rw [HLN.out]; omega) (by simp; omega) (wr.heap.size + 1) (by simp) ?_; intro g1 cap1 w1 hown1 hgrow1 hat1 hlt1)
          have HO1 : Hid (Own8 w1 w.heap.size (.slice (some ⟨g1, 0, none⟩) ((lwr (l.take k)).length + 1) cap1) (lwr (l.take (k + 1)))) := Lib.hid (by
            unfold Own8; rw [HN.out, List.length_append, List.map_append]; exact hown1)
          have HB1 : Hid (Below w.heap.size w w1) := Lib.hid (((HB.out.alloc hwz _)).grown hgrow1 (by simp; omega) (fun k e => (World.ownsRow.lt HO.out k e).1))
          clear hown1 hgrow1 hat1 hlt1
          go_wp2_with fail
          go_roundg (gk - 1)
          case measure => omega
          case rel => exact ⟨_, k + 1, rfl, by omega, by go_num, by omega, HO1, HB1⟩
      · have d1 : decide (65 ≤ (s[k].toNat : Int)) = false := by simpa using h1
        have d1n : decide (65 ≤ s[k].toNat) = false := by simp; omega
        have HN := Lib.hid (HN.out.trans (by rw [lo_not s[k] (fun h => h1 h.1)]))
        clear hkl h1
        go_wp2_with (at_builtin; refine wpList_append_lies _ rfl _ _ _ rfl w.heap.size 5 i0 _ 1 1 Tryd.underlying33 hi hz0 hz1 hz2 rfl (by omega) v (lwr (l.take k)).length ((lwr (l.take k)).map u8v) rfl (World.ownsRow.alloc HO.out _) ⟨wr.heap.size, 0, none⟩ 1 1 [_] rfl rfl (cell_one_new _ _ _) (by simp [Value.oneCell']) (by omega) (by rw [HLN.out]; unfold maxLen; omega) (by rw [HLN.out]; omega) (by simp; omega) (wr.heap.size + 1) (by simp) ?_; intro g1 cap1 w1 hown1 hgrow1 hat1 hlt1)
        have HO1 : Hid (Own8 w1 w.heap.size (.slice (some ⟨g1, 0, none⟩) ((lwr (l.take k)).length + 1) cap1) (lwr (l.take (k + 1)))) := Lib.hid (by
          unfold Own8; rw [HN.out, List.length_append, List.map_append]; exact hown1)
        have HB1 : Hid (Below w.heap.size w w1) := Lib.hid (((HB.out.alloc hwz _)).grown hgrow1 (by simp; omega) (fun k e => (World.ownsRow.lt HO.out k e).1))
        clear hown1 hgrow1 hat1 hlt1
        go_wp2_with fail
        go_roundg (gk - 1)
        case measure => omega
        case rel => exact ⟨_, k + 1, rfl, by omega, by go_num, by omega, HO1, HB1⟩
    · have hconv := conv_own HO.out
      rw [List.take_of_length_le (by rw [HSZ.out]; omega)] at hconv
      go_wp2_with fail
      go_ret
      exact ⟨rfl, HB.out⟩
end Go.Proofs.YtfpncdhneikkaaaDoor
