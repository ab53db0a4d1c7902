/- Joined: MU, MV, MW, MX. -/
import Derived.BigQuiet
import Derived.Deep.AppendLies
import Derived.Deep.DeepCutAuto
import Derived.Deep.LoopGhost
import Derived.Deep.QuietTactic
import Derived.Deep.RegionHeld3
import Derived.Deep.RegionLaw
import Derived.Deep.WholeRow
import Derived.Laws.AppendOwn
import Derived.Laws.BitsLemmas
import Derived.Laws.BytesArg
import Derived.Laws.DeepStrings4
import Derived.Laws.Externs
import Derived.Laws.IdiomStrings
import Derived.Laws.ResultCell
import Derived.Laws.Rows
import Derived.Laws.StructEq
import Derived.Lib.Bytealg
import Derived.Lib.Hide
import Derived.LoopN
import Derived.Maps.AppendAt
import Derived.Maps.Own
import Derived.Maps.OwnSet
import Derived.OpenShut
import Derived.Outline
import Derived.ProofKit
import Derived.StillTailTactics
import Derived.Test.YtppabkllconkjaaGreatDoorRows
import Derived.WalkKit
import Derived.WalkMore
import Derived.Test.YtppabkllconkjaaGreatDoorK05
import Derived.Test.YtppabkllconkjaaGreatDoorK09
import Derived.Test.YtppabkllconkjaaGreatDoorK10
import Derived.Test.YtppabkllconkjaaGreatDoorK11
import Derived.Test.YtppabkllconkjaaGreatDoorK12
import Derived.Test.YtppabkllconkjaaGreatDoorK13
/- What is asked of Content-Types: whether two are the same, their charset, whether they are of XML. -/
namespace Go.Proofs.YtppabkllconkjaaGreatDoor.Med
open Go.RowKit
set_option linter.unusedVariables false
set_option linter.unusedSimpArgs false
set_option maxRecDepth 100000
open Lab (RetS ret_str str str_size str_list str_eta str_inj u8v st_ixb info5 info_parts)
theorem toList_str (x : List UInt8) : (str x).toList = x := by
  rw [ByteArray.toList_eq]; rfl
theorem Prs.at {w : World} {p : Option Addr} {n cap : Nat} {ps : List Par} (h : Prs w (.slice p n cap) ps) : n = ps.length ∧ ∀ k (hk : k < ps.length), ∃ b off, p = some ⟨b, off, none⟩ ∧ b < w.heap.size ∧ w.cell? ⟨b, off + k * 2, none⟩ = some (.string (str ps[k].1)) ∧ w.cell? ⟨b, off + k * 2 + 1, none⟩ = some (.string (str ps[k].2)) := by
  obtain ⟨p', cap', e, h⟩ := h
  cases e
  refine ⟨rfl, fun k hk => ?_⟩
  rcases h with rfl | ⟨b, off, rfl, hl, hc⟩
  · simp at hk
  · exact ⟨b, off, rfl, hl, hc k hk⟩
theorem Prs.form {w : World} {u : Value} {ps : List Par} (h : Prs w u ps) : ∃ p cap, u = .slice p ps.length cap := by
  obtain ⟨p, cap, e, _⟩ := h
  exact ⟨p, cap, e⟩
end Go.Proofs.YtppabkllconkjaaGreatDoor.Med
/- The contracts of Charset, of Xml and of Great. -/
namespace Go.Proofs.YtppabkllconkjaaGreatDoor.Med
open Go.RowKit
set_option linter.unusedVariables false
set_option linter.unusedSimpArgs false
set_option maxRecDepth 100000
open Lab (RetS ret_str str str_size str_list str_eta str_inj u8v st_ixb info5 info_parts)
/-- The value of the first parameter that is called charset. -/
def chName : List UInt8 := [99, 104, 97, 114, 115, 101, 116]
def chs : List Par → List UInt8 × Bool
  | [] => ([], false)
  | p :: t => if p.1 = chName then (p.2, true) else chs t
theorem chs_yes {ps : List Par} {k : Nat} (h : k < ps.length) (he : ps[k].1 = chName) : chs (ps.drop k) = (ps[k].2, true) := by
  rw [List.drop_eq_getElem_cons h]; unfold chs; rw [if_pos he]
theorem chs_no {ps : List Par} {k : Nat} (h : k < ps.length) (he : ¬ ps[k].1 = chName) : chs (ps.drop k) = chs (ps.drop (k + 1)) := by
  rw [List.drop_eq_getElem_cons h]; rw [chs, if_neg he]
theorem chs_end {ps : List Par} {k : Nat} (h : ¬ k < ps.length) : chs (ps.drop k) = ([], false) := by
  rw [List.drop_eq_nil_of_le (by omega)]; rfl
def ChE (r : List UInt8 × Bool) (w : World) (e : Ending) (w' : World) : Prop := e = .returned (.tuple #[.string (str r.1), .bool r.2]) ∧ Below w.heap.size w w'
theorem ch_ret {a : List UInt8 × Bool} {x : List UInt8} {y : Bool} (h : a = (x, y)) : Ending.returned (.tuple #[.string (str x), .bool y]) = .returned (.tuple #[.string (str a.1), .bool a.2]) := by rw [h]
set_option maxHeartbeats 2000000 in
theorem charset_any (m : Med) (u : Value) (w : World) (hu : Prs w u m.2) (hl : m.2.length ≤ maxLen) : Calls Tryz.prog 85 #[.agg #[.string (str m.1), u]] w fun e w' => ChE (chs m.2) w e w' := by
  obtain ⟨p, cap, rfl⟩ := hu.form
  obtain ⟨t, ps⟩ := m
  simp only at *
  unfold maxLen at hl
  have HB0 : Hid (Below w.heap.size w (w.alloc (.cells #[.string (str t), .slice p ps.length cap] 57))) := Lib.hid ((Below.refl _ w).alloc (Nat.le_refl _) _)
  have hq := Lib.hid (hu.below HB0.out)
  clear hu
  go_enter Tryz.func85, Tryz.ntmps85
  go_wp2_with fail
  generalize hW : (w.alloc (.cells #[.string (str t), .slice p ps.length cap] 57)) = W at *
  clear hW
  go_loopg [9] (ps.length + 1) (fun g q wr => ∃ (k : Nat), k + g = ps.length + 1 ∧ q = .int .i64 k ∧ k ≤ ps.length ∧ Hid (chs (ps.drop k) = chs ps) ∧ Hid (Below W.heap.size W wr))
  case atStart => exact ⟨0, by omega, rfl, by omega, Lib.hid rfl, Lib.hid (Below.refl _ _)⟩
  case round =>
    obtain ⟨k, hkg, rfl, hk7, HE, HW⟩ := hrel
    have hq := Lib.hid (hq.out.below HW.out)
    have hz := HW.out.size
    by_cases hlt : k < ps.length
    · obtain ⟨b, off, rfl, hbl, x1, x2⟩ := (hq.out.at).2 k hlt
      have hk0 : (0 : Int) ≤ (k : Int) := by omega
      have hk3 : (k : Int) < (ps.length : Int) := by omega
      by_cases he : ps[k].1 = chName
      · have ht : (str ps[k].1).toList = [99, 104, 97, 114, 115, 101, 116] := by rw [toList_str, he]; rfl
        have HF := Lib.hid (HE.out.symm.trans (chs_yes hlt he))
        clear he hbl
        go_wp2_with fail
        go_ret2
        exact ⟨ch_ret HF.out, HB0.out.trans ((HW.out.alloc hz _).mono HB0.out.size)⟩
      · have ht : ((str ps[k].1).toList == [99, 104, 97, 114, 115, 101, 116]) = false := by rw [toList_str]; simpa [chName] using he
        have HF := Lib.hid ((chs_no hlt he).symm.trans HE.out)
        clear he hbl
        go_wp2_with fail
        go_roundg (gk - 1)
        case measure => omega
        case rel => exact ⟨k + 1, by omega, by go_num, by omega, HF, Lib.hid (HW.out.alloc hz _)⟩
    · have HF := Lib.hid (HE.out.symm.trans (chs_end hlt))
      go_wp2_with fail
      go_ret2
      exact ⟨ch_ret HF.out, HB0.out.trans (HW.out.mono HB0.out.size)⟩
set_option maxHeartbeats 2000000 in
theorem rcharset_any (m : Med) (u : Value) (w : World) (hu : Prs w u m.2) (hl : m.2.length ≤ maxLen) : Calls Tryz.prog 26 #[.agg #[.string (str m.1), u]] w fun e w' => ChE (chs m.2) w e w' := by
  obtain ⟨p, cap, rfl⟩ := hu.form
  obtain ⟨t, ps⟩ := m
  simp only at *
  unfold maxLen at hl
  have HB0 : Hid (Below w.heap.size w (w.alloc (.cells #[.string (str t), .slice p ps.length cap] 57))) := Lib.hid ((Below.refl _ w).alloc (Nat.le_refl _) _)
  have hb0 := Lib.hid (Blk.new w #[.string (str t), .slice p ps.length cap] 57)
  have hq := Lib.hid (hu.below HB0.out)
  clear hu
  go_enter Tryz.func26, Tryz.ntmps26
  go_wp2_with fail
  generalize hW : (w.alloc (.cells #[.string (str t), .slice p ps.length cap] 57)) = W at *
  clear hW
  have c0 : W.cell? ⟨w.heap.size, 1, none⟩ = some (.slice p ps.length cap) := by rw [hb0.out.cell]; rfl
  go_loopg [4] (ps.length + 1) (fun g q wr => ∃ (k : Nat), k + g = ps.length + 1 ∧ W = wr ∧ q = .int .i64 k ∧ k ≤ ps.length ∧ Hid (chs (ps.drop k) = chs ps))
  case atStart => exact ⟨0, by omega, rfl, rfl, by omega, Lib.hid rfl⟩
  case round =>
    obtain ⟨k, hkg, hw, rfl, hk7, HE⟩ := hrel
    subst hw
    by_cases hlt : k < ps.length
    · obtain ⟨b, off, rfl, hbl, x1, x2⟩ := (hq.out.at).2 k hlt
      have hk0 : (0 : Int) ≤ (k : Int) := by omega
      have hk3 : (k : Int) < (ps.length : Int) := by omega
      by_cases he : ps[k].1 = chName
      · have ht : (str ps[k].1).toList = [99, 104, 97, 114, 115, 101, 116] := by rw [toList_str, he]; rfl
        have HF := Lib.hid (HE.out.symm.trans (chs_yes hlt he))
        clear he hbl
        go_wp2_with fail
        go_ret2
        exact ⟨ch_ret HF.out, HB0.out⟩
      · have ht : ((str ps[k].1).toList == [99, 104, 97, 114, 115, 101, 116]) = false := by rw [toList_str]; simpa [chName] using he
        have HF := Lib.hid ((chs_no hlt he).symm.trans HE.out)
        clear he hbl
        go_wp2_with fail
        go_roundg (gk - 1)
        case measure => omega
        case rel => exact ⟨k + 1, by omega, rfl, by go_num, by omega, HF⟩
    · have HF := Lib.hid (HE.out.symm.trans (chs_end hlt))
      go_wp2_with fail
      go_ret2
      exact ⟨ch_ret HF.out, HB0.out⟩
end Go.Proofs.YtppabkllconkjaaGreatDoor.Med
/- The contracts of Xml and of Great. -/
namespace Go.Proofs.YtppabkllconkjaaGreatDoor.Med
open Go.RowKit
set_option linter.unusedVariables false
set_option linter.unusedSimpArgs false
set_option maxRecDepth 100000
open Lab (RetS ret_str str str_size str_list str_eta str_inj u8v st_ixb info5 info_parts)
theorem extract_list (s : ByteArray) (a e : Nat) : s.extract a e = str ((s.data.toList.drop a).take (e - a)) := by
  apply ByteArray.ext
  rw [ByteArray.data_extract]
  apply Array.ext'
  show (s.data.extract a e).toList = _
  rw [Array.toList_extract, List.extract_eq_take_drop]
  rfl
theorem slice_law (s : ByteArray) {l x : List UInt8} (a e : Nat) (h1 : a ≤ e) (h2 : e ≤ s.size) (hl : s.data.toList = l) (hx : x = (l.drop a).take (e - a)) (w0 : World) :
    (Instr.slice 9 (.string s) (some (.int .i64 (a : Int))) (some (.int .i64 (e : Int))) none).run Tryz.prog w0 = .ok (.string (str x)) w0 := by
  rw [run_slice_string_if w0 9 s .i64 .i64 _ _ Tryz.underlying9, if_pos (by omega), if_pos (by omega), hx, ← hl, ← extract_list]
  rfl
theorem slice_from (s : ByteArray) {l x : List UInt8} (a : Nat) (h2 : a ≤ s.size) (hl : s.data.toList = l) (hx : x = l.drop a) (w0 : World) :
    (Instr.slice 9 (.string s) (some (.int .i64 (a : Int))) none none).run Tryz.prog w0 = .ok (.string (str x)) w0 := by
  have hs : s.data.toList.length = s.size := by simp
  rw [run_slice_string_from_if w0 9 s .i64 _ Tryz.underlying9, if_pos (by omega), extract_list, hx, ← hl]
  have e : (s.data.toList.drop (a : Int).toNat).take (s.size - (a : Int).toNat) = s.data.toList.drop a := by
    rw [List.take_of_length_le (by rw [List.length_drop]; simp)]; rfl
  rw [e]
theorem slice_to (s : ByteArray) {l x : List UInt8} (e : Nat) (h2 : e ≤ s.size) (hl : s.data.toList = l) (hx : x = l.take e) (w0 : World) :
    (Instr.slice 9 (.string s) none (some (.int .i64 (e : Int))) none).run Tryz.prog w0 = .ok (.string (str x)) w0 := by
  rw [run_slice_string_to_if w0 9 s .i64 _ Tryz.underlying9, if_pos (by omega), extract_list, hx, ← hl]
  rfl
def sfx (t : List UInt8) : Bool := decide (4 ≤ t.length) && (t.drop (t.length - 4) == [43, 120, 109, 108])
def tyA : List UInt8 := [97, 112, 112, 108, 105, 99, 97, 116, 105, 111, 110, 47, 120, 109, 108]
def tyT : List UInt8 := [116, 101, 120, 116, 47, 120, 109, 108]
/-- Of XML. -/
def xml (t : List UInt8) : Bool := t == tyA || (t == tyT || sfx t)
theorem suffix_any (t : List UInt8) (w : World) (ht : t.length ≤ maxLen) : Calls Tryz.prog 119 #[.string (str t), .string ⟨#[43, 120, 109, 108]⟩] w fun e w' => e = .returned (.bool (sfx t)) ∧ w' = w := by
  unfold maxLen at ht
  obtain ⟨s, hs⟩ : ∃ s, str t = s := ⟨_, rfl⟩
  have hsl : s.data.toList = t := by rw [← hs, str_list]
  have hn : s.size = t.length := by rw [← hs, str_size]
  rw [hs]
  by_cases h4 : 4 ≤ s.size
  · have hw : ∀ w0 : World, (Instr.slice 9 (.string s) (some (.int .i64 ((s.size : Int) - 4))) none none).run Tryz.prog w0 = .ok (.string (str (t.drop (t.length - 4)))) w0 := fun w0 => by
      have := slice_from s (s.size - 4) (by omega) hsl rfl w0
      rw [Int.natCast_sub h4] at this
      rw [hn] at this ⊢
      exact this
    have h4i : (4 : Int) ≤ (s.size : Int) := by omega
    have hsz : s.size ≤ 9223372036854775807 := by omega
    obtain ⟨x, hx⟩ : ∃ x, t.drop (t.length - 4) = x := ⟨_, rfl⟩
    have HF : Hid (sfx t = (x == [43, 120, 109, 108])) := Lib.hid (by unfold sfx; rw [hx]; simp [← hn, h4])
    rw [hx] at hw
    have ht2 := toList_str x
    clear hx hn hsl hs ht
    go_enter Tryz.func119, Tryz.ntmps119
    go_wp2_with fail
    go_ret
    exact ⟨ret_bool HF.out.symm, rfl⟩
  · have h4i : ¬ (4 : Int) ≤ (s.size : Int) := by omega
    have h4d : decide ((4 : Int) ≤ (s.size : Int)) = false := by simp; omega
    have HF : Hid (sfx t = false) := Lib.hid (by unfold sfx; rw [← hn]; simp [h4])
    clear hn hsl hs ht h4 h4i
    go_enter Tryz.func119, Tryz.ntmps119
    go_wp2_with fail
    go_ret
    exact ⟨ret_bool HF.out.symm, rfl⟩
theorem ssuffix_any (t : List UInt8) (w : World) (ht : t.length ≤ maxLen) : Calls Tryz.prog 81 #[.string (str t), .string ⟨#[43, 120, 109, 108]⟩] w fun e w' => e = .returned (.bool (sfx t)) ∧ w' = w := by
  have HS : Hid (∀ w, Calls Tryz.prog 119 #[.string (str t), .string ⟨#[43, 120, 109, 108]⟩] w fun e w' => e = .returned (.bool (sfx t)) ∧ w' = w) := Lib.hid fun w => suffix_any t w ht
  clear ht
  go_enter Tryz.func81, Tryz.ntmps81
  go_wp2_with (go_at_call 119; refine (HS.out _).mono ?_; rintro _ w9 ⟨rfl, hw9⟩; subst w9)
  go_ret
  exact ⟨rfl, rfl⟩
set_option maxHeartbeats 1000000 in
theorem xml_any (m : Med) (u : Value) (w : World) (hu : ∃ p n cap, u = .slice p n cap) (ht : m.1.length ≤ maxLen) : Calls Tryz.prog 42 #[.agg #[.string (str m.1), u]] w fun e w' => RetB (xml m.1) w e w' := by
  obtain ⟨p, n, cap, rfl⟩ := hu
  obtain ⟨t, ps⟩ := m
  simp only at *
  have HS : Hid (∀ w, Calls Tryz.prog 81 #[.string (str t), .string ⟨#[43, 120, 109, 108]⟩] w fun e w' => e = .returned (.bool (sfx t)) ∧ w' = w) := Lib.hid fun w => ssuffix_any t w ht
  have HB0 : Hid (Below w.heap.size w (w.alloc (.cells #[.string (str t), .slice p n cap] 57))) := Lib.hid ((Below.refl _ w).alloc (Nat.le_refl _) _)
  have HX : Hid (xml t = (t == tyA || (t == tyT || sfx t))) := Lib.hid rfl
  obtain ⟨b3, hb3⟩ : ∃ b, sfx t = b := ⟨_, rfl⟩
  rw [hb3] at HS HX
  obtain ⟨b, hb⟩ : ∃ b, xml t = b := ⟨_, rfl⟩
  rw [hb] at HX
  rw [hb]
  clear ht hb hb3
  have htl := toList_str t
  by_cases h1 : t = tyA
  · have d1 : (t == [97, 112, 112, 108, 105, 99, 97, 116, 105, 111, 110, 47, 120, 109, 108]) = true := by simpa [tyA] using h1
    have HF : Hid (b = true) := Lib.hid (by rw [HX.out, h1]; simp)
    clear h1
    go_enter Tryz.func42, Tryz.ntmps42
    go_wp2_with fail
    go_ret
    exact ⟨ret_bool HF.out.symm, HB0.out⟩
  have d1 : (t == [97, 112, 112, 108, 105, 99, 97, 116, 105, 111, 110, 47, 120, 109, 108]) = false := by simpa [tyA] using h1
  by_cases h2 : t = tyT
  · have d2 : (t == [116, 101, 120, 116, 47, 120, 109, 108]) = true := by simpa [tyT] using h2
    have HF : Hid (b = true) := Lib.hid (by rw [HX.out, h2]; simp)
    clear h1 h2
    go_enter Tryz.func42, Tryz.ntmps42
    go_wp2_with fail
    go_ret
    exact ⟨ret_bool HF.out.symm, HB0.out⟩
  · have d2 : (t == [116, 101, 120, 116, 47, 120, 109, 108]) = false := by simpa [tyT] using h2
    have HF : Hid (b = b3) := Lib.hid (by rw [HX.out, show (t == tyA) = false from d1, show (t == tyT) = false from d2]; rfl)
    clear h1 h2
    go_enter Tryz.func42, Tryz.ntmps42
    go_wp2_with (go_at_call 81; refine (HS.out _).mono ?_; rintro _ w9 ⟨rfl, hw9⟩; subst w9)
    go_ret
    exact ⟨ret_bool HF.out.symm, HB0.out⟩
set_option maxHeartbeats 1000000 in
theorem rxml_any (m : Med) (u : Value) (w : World) (hu : ∃ p n cap, u = .slice p n cap) (ht : m.1.length ≤ maxLen) : Calls Tryz.prog 31 #[.agg #[.string (str m.1), u]] w fun e w' => RetB (xml m.1) w e w' := by
  obtain ⟨p, n, cap, rfl⟩ := hu
  obtain ⟨t, ps⟩ := m
  simp only at *
  unfold maxLen at ht
  have HB0 : Hid (Below w.heap.size w (w.alloc (.cells #[.string (str t), .slice p n cap] 57))) := Lib.hid ((Below.refl _ w).alloc (Nat.le_refl _) _)
  have HX : Hid (xml t = (t == tyA || (t == tyT || sfx t))) := Lib.hid rfl
  obtain ⟨b, hb⟩ : ∃ b, xml t = b := ⟨_, rfl⟩
  rw [hb] at HX
  rw [hb]
  clear hb
  have htl := toList_str t
  have hssz := str_size t
  by_cases h1 : t = tyA
  · have d1 : (t == [97, 112, 112, 108, 105, 99, 97, 116, 105, 111, 110, 47, 120, 109, 108]) = true := by simpa [tyA] using h1
    have HF : Hid (b = true) := Lib.hid (by rw [HX.out, h1]; simp)
    clear h1
    go_enter Tryz.func31, Tryz.ntmps31
    go_wp2_with fail
    go_ret
    exact ⟨ret_bool HF.out.symm, HB0.out⟩
  have d1 : (t == [97, 112, 112, 108, 105, 99, 97, 116, 105, 111, 110, 47, 120, 109, 108]) = false := by simpa [tyA] using h1
  by_cases h2 : t = tyT
  · have d2 : (t == [116, 101, 120, 116, 47, 120, 109, 108]) = true := by simpa [tyT] using h2
    have HF : Hid (b = true) := Lib.hid (by rw [HX.out, h2]; simp)
    clear h1 h2
    go_enter Tryz.func31, Tryz.ntmps31
    go_wp2_with fail
    go_ret
    exact ⟨ret_bool HF.out.symm, HB0.out⟩
  have d2 : (t == [116, 101, 120, 116, 47, 120, 109, 108]) = false := by simpa [tyT] using h2
  by_cases h4 : 4 ≤ t.length
  · have hw : ∀ w0 : World, (Instr.slice 9 (.string (str t)) (some (.int .i64 ((t.length : Int) - 4))) none none).run Tryz.prog w0 = .ok (.string (str (t.drop (t.length - 4)))) w0 := fun w0 => by
      have := slice_from (str t) (t.length - 4) (by rw [str_size]; omega) (str_list t) rfl w0
      rwa [Int.natCast_sub h4] at this
    have h4i : (4 : Int) ≤ (t.length : Int) := by omega
    obtain ⟨x, hx⟩ : ∃ x, t.drop (t.length - 4) = x := ⟨_, rfl⟩
    have HF : Hid (b = (x == [43, 120, 109, 108])) := Lib.hid (by rw [HX.out, show (t == tyA) = false from d1, show (t == tyT) = false from d2]; unfold sfx; rw [hx]; simp [h4])
    rw [hx] at hw
    have ht2 := toList_str x
    clear h1 h2 hx
    go_enter Tryz.func31, Tryz.ntmps31
    go_wp2_with fail
    go_ret
    exact ⟨ret_bool HF.out.symm, HB0.out⟩
  · have h4d : decide ((4 : Int) ≤ (t.length : Int)) = false := by simp; omega
    have HF : Hid (b = false) := Lib.hid (by rw [HX.out, show (t == tyA) = false from d1, show (t == tyT) = false from d2]; unfold sfx; simp [h4])
    clear h1 h2 h4
    go_enter Tryz.func31, Tryz.ntmps31
    go_wp2_with fail
    go_ret
    exact ⟨ret_bool HF.out.symm, HB0.out⟩
end Go.Proofs.YtppabkllconkjaaGreatDoor.Med
/- The walk of MediaBlank. -/
namespace Go.Proofs.YtppabkllconkjaaGreatDoor.Med
open Go.RowKit
set_option linter.unusedVariables false
set_option linter.unusedSimpArgs false
set_option maxRecDepth 100000
open Lab (RetS ret_str str str_size str_list str_eta str_inj u8v st_ixb info5 info_parts)
theorem str_app (a b : List UInt8) : str a ++ str b = str (a ++ b) := by
  apply ByteArray.ext; simp [str]
def ParseU (r : Option Med) (w : World) (e : Ending) (w' : World) : Prop :=
  ∃ p cap, e = .returned (.tuple #[.agg #[.string (str (medOf r).1), .slice p (medOf r).2.length cap], .int .i64 (errOf r)]) ∧ Prs w' (.slice p (medOf r).2.length cap) (medOf r).2 ∧ Below w.heap.size w w'
theorem ParseE.un {r : Option Med} {w w' : World} {e : Ending} (h : ParseE r w e w') : ParseU r w e w' := by
  obtain ⟨u, rfl, hp, hb⟩ := h
  obtain ⟨p, cap, rfl⟩ := hp.form
  exact ⟨p, cap, rfl, hp, hb⟩
theorem parse_str (l : List UInt8) (w : World) (h : l.length ≤ 100000) : Calls Tryz.prog 41 #[.string (str l)] w fun e w' => ParseU (parse l) w e w' := by
  have := parse_any (str l) w (by rw [str_size]; exact h)
  rw [str_list] at this
  exact this.mono fun e w' h => h.un
end Go.Proofs.YtppabkllconkjaaGreatDoor.Med
