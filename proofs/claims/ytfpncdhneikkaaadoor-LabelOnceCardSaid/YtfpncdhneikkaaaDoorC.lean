/- The contracts of white space and of Trim, the program's and the document's own. -/
import Derived.Test.YtfpncdhneikkaaaDoorB
import Derived.Lib.Bytealg
import Derived.Laws.Externs
import Derived.Laws.DeepStrings4
import Derived.Laws.BytesArg
import Derived.Laws.IdiomStrings
namespace Go.Proofs.YtfpncdhneikkaaaDoor
open Go.RowKit
set_option linter.unusedVariables false
set_option linter.unusedSimpArgs false
theorem extract_list (s : ByteArray) (a e : Nat) : s.extract a e = str ((s.data.toList.drop a).take (e - a)) := by
  apply ByteArray.ext
  rw [ByteArray.data_extract]
  apply Array.ext'
  show (s.data.extract a e).toList = _
  rw [Array.toList_extract, List.extract_eq_take_drop]
  rfl
theorem slice_law (s : ByteArray) {l x : List UInt8} (a e : Nat) (h1 : a ≤ e) (h2 : e ≤ s.size) (hl : s.data.toList = l) (hx : x = (l.drop a).take (e - a)) (w0 : World) :
    (Instr.slice 9 (.string s) (some (.int .i64 (a : Int))) (some (.int .i64 (e : Int))) none).run Tryd.prog w0 = .ok (.string (str x)) w0 := by
  rw [run_slice_string_if w0 9 s .i64 .i64 _ _ Tryd.underlying9, if_pos (by omega), if_pos (by omega), hx, ← hl, ← extract_list]
  rfl
set_option maxHeartbeats 1600000 in
theorem trim_any (s : ByteArray) (w : World) (hs : s.size ≤ maxLen) : Calls Tryd.prog 15 #[.string s] w fun e w' => RetS (trm s.data.toList) w e w' := by
  unfold maxLen at hs
  have hsz : s.data.toList.length = s.size := by simp
  obtain ⟨l, HL⟩ : ∃ l, Hid (s.data.toList = l) := ⟨_, Lib.hid rfl⟩
  have HSZ : Hid (l.length = s.size) := Lib.hid (by rw [← HL.out]; exact hsz)
  have HE : Hid (∀ k (h : k < s.size), l[k]'(by rw [HSZ.out]; exact h) = s[k]) := Lib.hid (by
    intro k h
    have e := HL.out
    subst e
    rfl)
  rw [HL.out]
  clear hsz
  have hB0 : Below w.heap.size w (w.alloc (.cells #[.string s] 9)) := (Below.refl _ w).alloc (Nat.le_refl _) _
  have hC0 : (w.alloc (.cells #[.string s] 9)).cell? ⟨w.heap.size, 0, none⟩ = some (.string s) := (Blk.new w _ _).cell 0
  have HB0 := Lib.hid hB0
  have HC0 := Lib.hid hC0
  clear hB0 hC0
  go_enter Tryd.func15, Tryd.ntmps15
  go_wp2_with fail
  go_quiet (fail)
  go_wp2_with fail
  go_loopg [3] (s.size + 1) (fun g q wr => ∃ (i : Nat), i + g = s.size + 1 ∧ q = .int .i64 i ∧ i ≤ s.size ∧ Hid (Up l i) ∧ Hid (Below w.heap.size w wr) ∧ wr.cell? ⟨w.heap.size, 0, none⟩ = some (.string s))
  case atStart => exact ⟨0, by omega, rfl, by omega, Lib.hid (Up.start _), Lib.hid (below_draws HB0.out _), HC0.out⟩
  case round =>
    obtain ⟨i, hig, rfl, hi7, HU, HB, hc⟩ := hrel
    by_cases hlt : i < s.size
    · have hlt2 : (i : Int) < (s.size : Int) := by omega
      have hk0 : (0 : Int) ≤ (i : Int) := by omega
      obtain ⟨b, hb⟩ : ∃ b, isW s[i] = b := ⟨_, rfl⟩
      cases b
      · have HD : Hid (Dn l i s.size) := Lib.hid (by
          have := HU.out.down (fun h => by rw [HE.out i hlt]; exact hb)
          rwa [HSZ.out] at this)
        go_wp2_with (go_at_call 20; refine (isWhite_any s w.heap.size i hlt wr hc).mono ?_; rintro e w1 ⟨rfl, rfl⟩)
        clear hlt2 hk0 hb
        go_loopg [4] (s.size + 1) (fun g q wr => ∃ (e : Nat), e + 1 = g ∧ q = .int .i64 e ∧ i ≤ e ∧ e ≤ s.size ∧ Hid (Dn l i e) ∧ Hid (Below w.heap.size w wr) ∧ wr.cell? ⟨w.heap.size, 0, none⟩ = some (.string s))
        case atStart => exact ⟨s.size, rfl, rfl, hi7, Nat.le_refl _, HD, HB, hc⟩
        case round =>
          obtain ⟨e, hge, rfl, hie, hes, HD, HB, hc⟩ := hrel
          by_cases hlt : i < e
          · obtain ⟨k, rfl⟩ : ∃ k, e = k + 1 := ⟨e - 1, by omega⟩
            have hks : k < s.size := by omega
            have hw1 : ((k + 1 : Nat) : Int) - 1 = (k : Int) := by omega
            have hw2 : (k : Int) + 1 - 1 = (k : Int) := by omega
            have hw3 : IntKind.i64.wrap ((k : Int)) = k := by rw [IntKind.wrap_i64]; unfold maxLen at *; omega
            have hk0 : (0 : Int) ≤ (k : Int) := by omega
            have hk3 : (k : Int) < (s.size : Int) := by omega
            have hlt2 : (i : Int) < (k : Int) + 1 := by omega
            obtain ⟨b, hb⟩ : ∃ b, isW s[k] = b := ⟨_, rfl⟩
            cases b
            · have HT : Hid (trm l = (l.drop i).take (k + 1 - i)) := Lib.hid (HD.out.done fun _ => by simp only [Nat.add_sub_cancel]; rw [HE.out k hks]; exact hb)
              have hsl := slice_law s i (k + 1) (by omega) (by omega) HL.out HT.out
              push_cast at hsl
              go_wp2_with (go_at_call 20; refine (isWhite_any s w.heap.size k hks wr hc).mono ?_; rintro e w1 ⟨rfl, rfl⟩)
              go_ret
              exact ⟨rfl, HB.out⟩
            · have HD2 : Hid (Dn l i k) := Lib.hid (HD.out.step hlt (by simp only [Nat.add_sub_cancel]; rw [HE.out k hks]; exact hb))
              go_wp2_with (go_at_call 20; refine (isWhite_any s w.heap.size k hks wr hc).mono ?_; rintro e w1 ⟨rfl, rfl⟩)
              go_roundg (gk - 1)
              case measure => omega
              case rel => exact ⟨k, by omega, by go_num, by omega, by omega, HD2, HB, hc⟩
          · obtain rfl : e = i := by omega
            have HT : Hid (trm l = (l.drop e).take (e - e)) := Lib.hid (HD.out.done fun h => absurd h (by omega))
            have hsl := slice_law s e e (by omega) (by omega) HL.out HT.out
            go_wp2_with fail
            go_ret
            exact ⟨rfl, HB.out⟩
      · have HU2 : Hid (Up l (i + 1)) := Lib.hid (HU.out.step (by rw [HSZ.out]; exact hlt) (by rw [HE.out i hlt]; exact hb))
        go_wp2_with (go_at_call 20; refine (isWhite_any s w.heap.size i hlt wr hc).mono ?_; rintro e w1 ⟨rfl, rfl⟩)
        go_roundg (gk - 1)
        case measure => omega
        case rel => exact ⟨i + 1, by omega, by go_num, by omega, HU2, HB, hc⟩
    · have HD : Hid (Dn l i s.size) := Lib.hid (by
        have := HU.out.down (fun h => absurd h (by rw [HSZ.out]; exact hlt))
        rwa [HSZ.out] at this)
      go_wp2_with fail
      go_loopg [4] (s.size + 1) (fun g q wr => ∃ (e : Nat), e + 1 = g ∧ q = .int .i64 e ∧ i ≤ e ∧ e ≤ s.size ∧ Hid (Dn l i e) ∧ Hid (Below w.heap.size w wr) ∧ wr.cell? ⟨w.heap.size, 0, none⟩ = some (.string s))
      case atStart => exact ⟨s.size, rfl, rfl, hi7, Nat.le_refl _, HD, HB, hc⟩
      case round =>
        obtain ⟨e, hge, rfl, hie, hes, HD, HB, hc⟩ := hrel
        by_cases hlt : i < e
        · obtain ⟨k, rfl⟩ : ∃ k, e = k + 1 := ⟨e - 1, by omega⟩
          have hks : k < s.size := by omega
          have hw1 : ((k + 1 : Nat) : Int) - 1 = (k : Int) := by omega
          have hw2 : (k : Int) + 1 - 1 = (k : Int) := by omega
          have hw3 : IntKind.i64.wrap ((k : Int)) = k := by rw [IntKind.wrap_i64]; unfold maxLen at *; omega
          have hk0 : (0 : Int) ≤ (k : Int) := by omega
          have hk3 : (k : Int) < (s.size : Int) := by omega
          have hlt2 : (i : Int) < (k : Int) + 1 := by omega
          obtain ⟨b, hb⟩ : ∃ b, isW s[k] = b := ⟨_, rfl⟩
          cases b
          · have HT : Hid (trm l = (l.drop i).take (k + 1 - i)) := Lib.hid (HD.out.done fun _ => by simp only [Nat.add_sub_cancel]; rw [HE.out k hks]; exact hb)
            have hsl := slice_law s i (k + 1) (by omega) (by omega) HL.out HT.out
            push_cast at hsl
            go_wp2_with (go_at_call 20; refine (isWhite_any s w.heap.size k hks wr hc).mono ?_; rintro e w1 ⟨rfl, rfl⟩)
            go_ret
            exact ⟨rfl, HB.out⟩
          · have HD2 : Hid (Dn l i k) := Lib.hid (HD.out.step hlt (by simp only [Nat.add_sub_cancel]; rw [HE.out k hks]; exact hb))
            go_wp2_with (go_at_call 20; refine (isWhite_any s w.heap.size k hks wr hc).mono ?_; rintro e w1 ⟨rfl, rfl⟩)
            go_roundg (gk - 1)
            case measure => omega
            case rel => exact ⟨k, by omega, by go_num, by omega, by omega, HD2, HB, hc⟩
        · obtain rfl : e = i := by omega
          have HT : Hid (trm l = (l.drop e).take (e - e)) := Lib.hid (HD.out.done fun h => absurd h (by omega))
          have hsl := slice_law s e e (by omega) (by omega) HL.out HT.out
          go_wp2_with fail
          go_ret
          exact ⟨rfl, HB.out⟩

end Go.Proofs.YtfpncdhneikkaaaDoor
