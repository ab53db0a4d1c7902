/- The contracts of Xml and of Great. -/
import Derived.Test.YtgadpoahjlnheaaV
namespace Go.Proofs.Ytgadpoahjlnheaa.Med
open Go.RowKit
set_option linter.unusedVariables false
set_option linter.unusedSimpArgs false
open Lab (RetS ret_str str str_size str_list str_eta str_inj u8v st_ixb info5 info_parts)
theorem extract_list (s : ByteArray) (a e : Nat) : s.extract a e = str ((s.data.toList.drop a).take (e - a)) := by
  apply ByteArray.ext
  rw [ByteArray.data_extract]
  apply Array.ext'
  show (s.data.extract a e).toList = _
  rw [Array.toList_extract, List.extract_eq_take_drop]
  rfl
theorem slice_law (s : ByteArray) {l x : List UInt8} (a e : Nat) (h1 : a ≤ e) (h2 : e ≤ s.size) (hl : s.data.toList = l) (hx : x = (l.drop a).take (e - a)) (w0 : World) :
    (Instr.slice 9 (.string s) (some (.int .i64 (a : Int))) (some (.int .i64 (e : Int))) none).run Try.prog w0 = .ok (.string (str x)) w0 := by
  rw [run_slice_string_if w0 9 s .i64 .i64 _ _ Try.underlying9, if_pos (by omega), if_pos (by omega), hx, ← hl, ← extract_list]
  rfl
theorem slice_from (s : ByteArray) {l x : List UInt8} (a : Nat) (h2 : a ≤ s.size) (hl : s.data.toList = l) (hx : x = l.drop a) (w0 : World) :
    (Instr.slice 9 (.string s) (some (.int .i64 (a : Int))) none none).run Try.prog w0 = .ok (.string (str x)) w0 := by
  have hs : s.data.toList.length = s.size := by simp
  rw [run_slice_string_from_if w0 9 s .i64 _ Try.underlying9, if_pos (by omega), extract_list, hx, ← hl]
  have e : (s.data.toList.drop (a : Int).toNat).take (s.size - (a : Int).toNat) = s.data.toList.drop a := by
    rw [List.take_of_length_le (by rw [List.length_drop]; simp)]; rfl
  rw [e]
theorem slice_to (s : ByteArray) {l x : List UInt8} (e : Nat) (h2 : e ≤ s.size) (hl : s.data.toList = l) (hx : x = l.take e) (w0 : World) :
    (Instr.slice 9 (.string s) none (some (.int .i64 (e : Int))) none).run Try.prog w0 = .ok (.string (str x)) w0 := by
  rw [run_slice_string_to_if w0 9 s .i64 _ Try.underlying9, if_pos (by omega), extract_list, hx, ← hl]
  rfl
def sfx (t : List UInt8) : Bool := decide (4 ≤ t.length) && (t.drop (t.length - 4) == [43, 120, 109, 108])
def tyA : List UInt8 := [97, 112, 112, 108, 105, 99, 97, 116, 105, 111, 110, 47, 120, 109, 108]
def tyT : List UInt8 := [116, 101, 120, 116, 47, 120, 109, 108]
/-- Of XML. -/
def xml (t : List UInt8) : Bool := t == tyA || (t == tyT || sfx t)
theorem suffix_any (t : List UInt8) (w : World) (ht : t.length ≤ maxLen) : Calls Try.prog 48 #[.string (str t), .string ⟨#[43, 120, 109, 108]⟩] w fun e w' => e = .returned (.bool (sfx t)) ∧ w' = w := by
  unfold maxLen at ht
  obtain ⟨s, hs⟩ : ∃ s, str t = s := ⟨_, rfl⟩
  have hsl : s.data.toList = t := by rw [← hs, str_list]
  have hn : s.size = t.length := by rw [← hs, str_size]
  rw [hs]
  by_cases h4 : 4 ≤ s.size
  · have hw : ∀ w0 : World, (Instr.slice 9 (.string s) (some (.int .i64 ((s.size : Int) - 4))) none none).run Try.prog w0 = .ok (.string (str (t.drop (t.length - 4)))) w0 := fun w0 => by
      have := slice_from s (s.size - 4) (by omega) hsl rfl w0
      rw [Int.natCast_sub h4] at this
      rw [hn] at this ⊢
      exact this
    have h4i : (4 : Int) ≤ (s.size : Int) := by omega
    have hsz : s.size ≤ 9223372036854775807 := by omega
    obtain ⟨x, hx⟩ : ∃ x, t.drop (t.length - 4) = x := ⟨_, rfl⟩
    have HF : Hid (sfx t = (x == [43, 120, 109, 108])) := Lib.hid (by unfold sfx; rw [hx]; simp [← hn, h4])
    rw [hx] at hw
    have ht2 := toList_str x
    clear hx hn hsl hs ht
    go_enter Try.func48, Try.ntmps48
    go_wp2_with fail
    go_ret
    exact ⟨ret_bool HF.out.symm, rfl⟩
  · have h4i : ¬ (4 : Int) ≤ (s.size : Int) := by omega
    have h4d : decide ((4 : Int) ≤ (s.size : Int)) = false := by simp; omega
    have HF : Hid (sfx t = false) := Lib.hid (by unfold sfx; rw [← hn]; simp [h4])
    clear hn hsl hs ht h4 h4i
    go_enter Try.func48, Try.ntmps48
    go_wp2_with fail
    go_ret
    exact ⟨ret_bool HF.out.symm, rfl⟩
theorem ssuffix_any (t : List UInt8) (w : World) (ht : t.length ≤ maxLen) : Calls Try.prog 26 #[.string (str t), .string ⟨#[43, 120, 109, 108]⟩] w fun e w' => e = .returned (.bool (sfx t)) ∧ w' = w := by
  have HS : Hid (∀ w, Calls Try.prog 48 #[.string (str t), .string ⟨#[43, 120, 109, 108]⟩] w fun e w' => e = .returned (.bool (sfx t)) ∧ w' = w) := Lib.hid fun w => suffix_any t w ht
  clear ht
  go_enter Try.func26, Try.ntmps26
  go_wp2_with (go_at_call 48; refine (HS.out _).mono ?_; rintro _ w9 ⟨rfl, hw9⟩; subst w9)
  go_ret
  exact ⟨rfl, rfl⟩
set_option maxHeartbeats 1000000 in
theorem xml_any (m : Med) (u : Value) (w : World) (hu : ∃ p n cap, u = .slice p n cap) (ht : m.1.length ≤ maxLen) : Calls Try.prog 13 #[.agg #[.string (str m.1), u]] w fun e w' => RetB (xml m.1) w e w' := by
  obtain ⟨p, n, cap, rfl⟩ := hu
  obtain ⟨t, ps⟩ := m
  simp only at *
  have HS : Hid (∀ w, Calls Try.prog 26 #[.string (str t), .string ⟨#[43, 120, 109, 108]⟩] w fun e w' => e = .returned (.bool (sfx t)) ∧ w' = w) := Lib.hid fun w => ssuffix_any t w ht
  have HB0 : Hid (Below w.heap.size w (w.alloc (.cells #[.string (str t), .slice p n cap] 25))) := Lib.hid ((Below.refl _ w).alloc (Nat.le_refl _) _)
  have HX : Hid (xml t = (t == tyA || (t == tyT || sfx t))) := Lib.hid rfl
  obtain ⟨b3, hb3⟩ : ∃ b, sfx t = b := ⟨_, rfl⟩
  rw [hb3] at HS HX
  obtain ⟨b, hb⟩ : ∃ b, xml t = b := ⟨_, rfl⟩
  rw [hb] at HX
  rw [hb]
  clear ht hb hb3
  have htl := toList_str t
  by_cases h1 : t = tyA
  · have d1 : (t == [97, 112, 112, 108, 105, 99, 97, 116, 105, 111, 110, 47, 120, 109, 108]) = true := by simpa [tyA] using h1
    have HF : Hid (b = true) := Lib.hid (by rw [HX.out, h1]; simp)
    clear h1
    go_enter Try.func13, Try.ntmps13
    go_wp2_with fail
    go_ret
    exact ⟨ret_bool HF.out.symm, HB0.out⟩
  have d1 : (t == [97, 112, 112, 108, 105, 99, 97, 116, 105, 111, 110, 47, 120, 109, 108]) = false := by simpa [tyA] using h1
  by_cases h2 : t = tyT
  · have d2 : (t == [116, 101, 120, 116, 47, 120, 109, 108]) = true := by simpa [tyT] using h2
    have HF : Hid (b = true) := Lib.hid (by rw [HX.out, h2]; simp)
    clear h1 h2
    go_enter Try.func13, Try.ntmps13
    go_wp2_with fail
    go_ret
    exact ⟨ret_bool HF.out.symm, HB0.out⟩
  · have d2 : (t == [116, 101, 120, 116, 47, 120, 109, 108]) = false := by simpa [tyT] using h2
    have HF : Hid (b = b3) := Lib.hid (by rw [HX.out, show (t == tyA) = false from d1, show (t == tyT) = false from d2]; rfl)
    clear h1 h2
    go_enter Try.func13, Try.ntmps13
    go_wp2_with (go_at_call 26; refine (HS.out _).mono ?_; rintro _ w9 ⟨rfl, hw9⟩; subst w9)
    go_ret
    exact ⟨ret_bool HF.out.symm, HB0.out⟩
set_option maxHeartbeats 1000000 in
theorem rxml_any (m : Med) (u : Value) (w : World) (hu : ∃ p n cap, u = .slice p n cap) (ht : m.1.length ≤ maxLen) : Calls Try.prog 14 #[.agg #[.string (str m.1), u]] w fun e w' => RetB (xml m.1) w e w' := by
  obtain ⟨p, n, cap, rfl⟩ := hu
  obtain ⟨t, ps⟩ := m
  simp only at *
  unfold maxLen at ht
  have HB0 : Hid (Below w.heap.size w (w.alloc (.cells #[.string (str t), .slice p n cap] 25))) := Lib.hid ((Below.refl _ w).alloc (Nat.le_refl _) _)
  have HX : Hid (xml t = (t == tyA || (t == tyT || sfx t))) := Lib.hid rfl
  obtain ⟨b, hb⟩ : ∃ b, xml t = b := ⟨_, rfl⟩
  rw [hb] at HX
  rw [hb]
  clear hb
  have htl := toList_str t
  have hssz := str_size t
  by_cases h1 : t = tyA
  · have d1 : (t == [97, 112, 112, 108, 105, 99, 97, 116, 105, 111, 110, 47, 120, 109, 108]) = true := by simpa [tyA] using h1
    have HF : Hid (b = true) := Lib.hid (by rw [HX.out, h1]; simp)
    clear h1
    go_enter Try.func14, Try.ntmps14
    go_wp2_with fail
    go_ret
    exact ⟨ret_bool HF.out.symm, HB0.out⟩
  have d1 : (t == [97, 112, 112, 108, 105, 99, 97, 116, 105, 111, 110, 47, 120, 109, 108]) = false := by simpa [tyA] using h1
  by_cases h2 : t = tyT
  · have d2 : (t == [116, 101, 120, 116, 47, 120, 109, 108]) = true := by simpa [tyT] using h2
    have HF : Hid (b = true) := Lib.hid (by rw [HX.out, h2]; simp)
    clear h1 h2
    go_enter Try.func14, Try.ntmps14
    go_wp2_with fail
    go_ret
    exact ⟨ret_bool HF.out.symm, HB0.out⟩
  have d2 : (t == [116, 101, 120, 116, 47, 120, 109, 108]) = false := by simpa [tyT] using h2
  by_cases h4 : 4 ≤ t.length
  · have hw : ∀ w0 : World, (Instr.slice 9 (.string (str t)) (some (.int .i64 ((t.length : Int) - 4))) none none).run Try.prog w0 = .ok (.string (str (t.drop (t.length - 4)))) w0 := fun w0 => by
      have := slice_from (str t) (t.length - 4) (by rw [str_size]; omega) (str_list t) rfl w0
      rwa [Int.natCast_sub h4] at this
    have h4i : (4 : Int) ≤ (t.length : Int) := by omega
    obtain ⟨x, hx⟩ : ∃ x, t.drop (t.length - 4) = x := ⟨_, rfl⟩
    have HF : Hid (b = (x == [43, 120, 109, 108])) := Lib.hid (by rw [HX.out, show (t == tyA) = false from d1, show (t == tyT) = false from d2]; unfold sfx; rw [hx]; simp [h4])
    rw [hx] at hw
    have ht2 := toList_str x
    clear h1 h2 hx
    go_enter Try.func14, Try.ntmps14
    go_wp2_with fail
    go_ret
    exact ⟨ret_bool HF.out.symm, HB0.out⟩
  · have h4d : decide ((4 : Int) ≤ (t.length : Int)) = false := by simp; omega
    have HF : Hid (b = false) := Lib.hid (by rw [HX.out, show (t == tyA) = false from d1, show (t == tyT) = false from d2]; unfold sfx; simp [h4])
    clear h1 h2 h4
    go_enter Try.func14, Try.ntmps14
    go_wp2_with fail
    go_ret
    exact ⟨ret_bool HF.out.symm, HB0.out⟩
end Go.Proofs.Ytgadpoahjlnheaa.Med
