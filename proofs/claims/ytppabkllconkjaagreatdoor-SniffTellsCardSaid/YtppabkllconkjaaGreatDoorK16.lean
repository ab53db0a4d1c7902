/- Joined: EA. -/
import Derived.BigQuiet
import Derived.Deep.AppendLies
import Derived.Deep.DeepCutAuto
import Derived.Deep.LoopGhost
import Derived.Deep.QuietTactic
import Derived.Deep.RegionHeld3
import Derived.Laws.AppendOwn
import Derived.Laws.BytesArg
import Derived.Laws.DeepStrings4
import Derived.Laws.Externs
import Derived.Laws.IdiomStrings
import Derived.Lib.Bytealg
import Derived.Lib.Hide
import Derived.LoopN
import Derived.Maps.AppendAt
import Derived.OpenShut
import Derived.Outline
import Derived.OwnWalk
import Derived.ProofKit
import Derived.StillTailTactics
import Derived.Test.YtppabkllconkjaaGreatDoorRows
import Derived.WalkKit
import Derived.WalkMore
import Derived.Test.YtppabkllconkjaaGreatDoorK05
import Derived.Test.YtppabkllconkjaaGreatDoorK09
import Derived.Test.YtppabkllconkjaaGreatDoorK11
/- The contracts of the document's own white, blank, begins, Mark, Shape, Cut. -/
namespace Go.Proofs.YtppabkllconkjaaGreatDoor.Dec
open Go.RowKit
set_option linter.unusedVariables false
set_option linter.unusedSimpArgs false
set_option maxRecDepth 100000
open Lab (RetS ret_str str str_size str_list str_eta str_inj u8v info5 info_parts)
theorem byte_all {P : UInt8 → Prop} (h : ∀ c : Fin 256, P (UInt8.ofNat c)) (c : UInt8) : P c := by
  have := h ⟨c.toNat, c.toNat_lt⟩
  simpa using this
theorem u8_lit {c : UInt8} {n : UInt8} : (c.toNat : Int) = (n.toNat : Int) ↔ c = n := by
  constructor
  · intro h
    exact UInt8.toNat_inj.1 (by omega)
  · intro h; rw [h]
theorem ret_bool {a b : Bool} (h : a = b) : Ending.returned (.bool a) = .returned (.bool b) := by rw [h]
theorem toList_str (x : List UInt8) : (str x).toList = x := by
  rw [ByteArray.toList_eq]; rfl
theorem extract_list (s : ByteArray) (a e : Nat) : s.extract a e = str ((s.data.toList.drop a).take (e - a)) := by
  apply ByteArray.ext
  rw [ByteArray.data_extract]
  apply Array.ext'
  show (s.data.extract a e).toList = _
  rw [Array.toList_extract, List.extract_eq_take_drop]
  rfl
theorem slice_law (s : ByteArray) {l x : List UInt8} (a e : Nat) (h1 : a ≤ e) (h2 : e ≤ s.size) (hl : s.data.toList = l) (hx : x = (l.drop a).take (e - a)) (w0 : World) :
    (Instr.slice 9 (.string s) (some (.int .i64 (a : Int))) (some (.int .i64 (e : Int))) none).run Tryz.prog w0 = .ok (.string (str x)) w0 := by
  rw [run_slice_string_if w0 9 s .i64 .i64 _ _ Tryz.underlying9, if_pos (by omega), if_pos (by omega), hx, ← hl, ← extract_list]
  rfl
theorem slice_from (s : ByteArray) {l x : List UInt8} (a : Nat) (h2 : a ≤ s.size) (hl : s.data.toList = l) (hx : x = l.drop a) (w0 : World) :
    (Instr.slice 9 (.string s) (some (.int .i64 (a : Int))) none none).run Tryz.prog w0 = .ok (.string (str x)) w0 := by
  have hs : s.data.toList.length = s.size := by simp
  rw [run_slice_string_from_if w0 9 s .i64 _ Tryz.underlying9, if_pos (by omega), extract_list, hx, ← hl]
  have e : (s.data.toList.drop (a : Int).toNat).take (s.size - (a : Int).toNat) = s.data.toList.drop a := by
    rw [List.take_of_length_le (by rw [List.length_drop]; simp)]; rfl
  rw [e]
theorem slice_to (s : ByteArray) {l x : List UInt8} (e : Nat) (h2 : e ≤ s.size) (hl : s.data.toList = l) (hx : x = l.take e) (w0 : World) :
    (Instr.slice 9 (.string s) none (some (.int .i64 (e : Int))) none).run Tryz.prog w0 = .ok (.string (str x)) w0 := by
  rw [run_slice_string_to_if w0 9 s .i64 _ Tryz.underlying9, if_pos (by omega), extract_list, hx, ← hl]
  rfl
/-- White space, by its number. -/
def whI (x : Int) : Bool := decide (x = 9) || decide (x = 10) || decide (x = 13) || decide (x = 32)
theorem wht_whI (c : UInt8) : wht c = whI (c.toNat : Int) := by
  have : ∀ c : Fin 256, wht (UInt8.ofNat c) = whI (c.val : Int) := by decide +kernel
  have k := this ⟨c.toNat, c.toNat_lt⟩
  simpa using k
set_option maxHeartbeats 2000000 in
theorem white_int (x : Int) (w : World) : Calls Tryz.prog 124 #[.int .u8 x] w fun e w' => e = .returned (.bool (whI x)) ∧ w' = w := by
  by_cases h1 : x = 9
  · have d1 : (x == 9) = true := by simpa using h1
    have HK : Hid (whI x = true) := Lib.hid (by simp [whI]; omega)
    clear h1
    go_enter Tryz.func124, Tryz.ntmps124
    go_wp2_with fail
    go_ret
    exact ⟨ret_bool HK.out.symm, rfl⟩
  have d1 : (x == 9) = false := by simpa using h1
  by_cases h2 : x = 10
  · have d2 : (x == 10) = true := by simpa using h2
    have HK : Hid (whI x = true) := Lib.hid (by simp [whI]; omega)
    clear h1 h2
    go_enter Tryz.func124, Tryz.ntmps124
    go_wp2_with fail
    go_ret
    exact ⟨ret_bool HK.out.symm, rfl⟩
  have d2 : (x == 10) = false := by simpa using h2
  by_cases h3 : x = 13
  · have d3 : (x == 13) = true := by simpa using h3
    have HK : Hid (whI x = true) := Lib.hid (by simp [whI]; omega)
    clear h1 h2 h3
    go_enter Tryz.func124, Tryz.ntmps124
    go_wp2_with fail
    go_ret
    exact ⟨ret_bool HK.out.symm, rfl⟩
  have d3 : (x == 13) = false := by simpa using h3
  by_cases h4 : x = 32
  · have d4 : (x == 32) = true := by simpa using h4
    have HK : Hid (whI x = true) := Lib.hid (by simp [whI]; omega)
    clear h1 h2 h3 h4
    go_enter Tryz.func124, Tryz.ntmps124
    go_wp2_with fail
    go_ret
    exact ⟨ret_bool HK.out.symm, rfl⟩
  have d4 : (x == 32) = false := by simpa using h4
  have HK : Hid (whI x = false) := Lib.hid (by simp [whI]; omega)
  clear h1 h2 h3 h4
  go_enter Tryz.func124, Tryz.ntmps124
  go_wp2_with fail
  go_ret
  exact ⟨ret_bool HK.out.symm, rfl⟩
theorem white_any (c : UInt8) (w : World) : Calls Tryz.prog 124 #[.int .u8 (c.toNat : Int)] w fun e w' => e = .returned (.bool (wht c)) ∧ w' = w := by
  rw [wht_whI]; exact white_int _ w
set_option maxHeartbeats 1000000 in
theorem blank_any (s : ByteArray) (a : Nat) (w : World) (hs : s.size ≤ maxLen) (ha : a ≤ s.size) : Calls Tryz.prog 125 #[.string s, .int .i64 (a : Int)] w fun e w' => e = .returned (.int .i64 (endW wht s.data.toList a : Int)) ∧ w' = w := by
  unfold maxLen at hs
  have hsz : s.data.toList.length = s.size := by simp
  go_enter Tryz.func125, Tryz.ntmps125
  go_wp2_with fail
  go_loopg [1] (s.size + 1 - a) (fun g q wr => ∃ (k : Nat), k + g = s.size + 1 ∧ w = wr ∧ q = .int .i64 k ∧ k ≤ s.size ∧ Hid (endW wht s.data.toList k = endW wht s.data.toList a))
  case atStart => exact ⟨a, by omega, rfl, rfl, ha, Lib.hid rfl⟩
  case round =>
    obtain ⟨k, hkg, hw, rfl, hk7, HE⟩ := hrel
    subst hw
    by_cases hlt : k < s.size
    · have hkl : k < s.data.toList.length := by rw [hsz]; exact hlt
      have hk0 : (0 : Int) ≤ (k : Int) := by omega
      have hk3 : (k : Int) < (s.size : Int) := by omega
      have hel : s.data.toList[k] = s[k] := rfl
      have HC : Hid (Calls Tryz.prog 124 #[.int .u8 (s[k].toNat : Int)] w fun e w' => e = .returned (.bool (wht s[k])) ∧ w' = w) := Lib.hid (white_any _ _)
      by_cases hb : wht s[k] = true
      · rw [hb] at HC
        have HE2 := Lib.hid ((endW_go hkl (by rw [hel]; exact hb)).symm.trans HE.out)
        clear hb hel
        go_wp2_with (go_at_call 124; refine HC.out.mono ?_; rintro _ w9 ⟨rfl, hw9⟩; subst w9)
        go_roundg (gk - 1)
        case measure => omega
        case rel => exact ⟨k + 1, by omega, rfl, by go_num, by omega, HE2⟩
      · have hb : wht s[k] = false := by simpa using hb
        rw [hb] at HC
        have HE2 := Lib.hid ((endW_stop hkl (by rw [hel]; exact hb)).symm.trans HE.out)
        clear hb hel
        go_wp2_with (go_at_call 124; refine HC.out.mono ?_; rintro _ w9 ⟨rfl, hw9⟩; subst w9)
        go_ret
        exact ⟨by rw [← HE2.out]; rfl, rfl⟩
    · have HE2 := Lib.hid ((endW_out (p := wht) (by rw [hsz]; omega)).symm.trans HE.out)
      go_wp2_with fail
      go_ret
      exact ⟨by rw [← HE2.out]; rfl, rfl⟩
theorem blank_str (l : List UInt8) (a : Nat) (w : World) (hs : l.length ≤ maxLen) (ha : a ≤ l.length) : Calls Tryz.prog 125 #[.string (str l), .int .i64 (a : Int)] w fun e w' => e = .returned (.int .i64 (endW wht l a : Int)) ∧ w' = w := by
  have := blank_any (str l) a w (by rw [str_size]; exact hs) (by rw [str_size]; exact ha)
  rwa [str_list] at this
theorem pre_take {p l : List UInt8} : p.isPrefixOf l = true ↔ p.length ≤ l.length ∧ l.take p.length = p := by
  rw [List.isPrefixOf_iff_prefix]
  constructor
  · intro h; exact ⟨h.length_le, (List.prefix_iff_eq_take.1 h).symm⟩
  · rintro ⟨_, h⟩; exact List.prefix_iff_eq_take.2 h.symm
set_option maxHeartbeats 1000000 in
theorem begins_any (l p : List UInt8) (w : World) (hs : l.length ≤ maxLen) (hp : p.length ≤ maxLen) : Calls Tryz.prog 48 #[.string (str l), .string (str p)] w fun e w' => e = .returned (.bool (p.isPrefixOf l)) ∧ w' = w := by
  unfold maxLen at hs hp
  obtain ⟨s, hs'⟩ : ∃ s, str l = s := ⟨_, rfl⟩
  obtain ⟨q, hq'⟩ : ∃ q, str p = q := ⟨_, rfl⟩
  have hsz : s.size = l.length := by rw [← hs', str_size]
  have hqz : q.size = p.length := by rw [← hq', str_size]
  have hsl : q.size ≤ s.size → ∀ w0 : World, (Instr.slice 9 (.string s) none (some (.int .i64 (q.size : Int))) none).run Tryz.prog w0 = .ok (.string (str (l.take p.length))) w0 := fun h w0 =>
    slice_to s q.size h (by rw [← hs', str_list]) (by rw [hqz]) w0
  have hqt : q.toList = p := by rw [← hq', toList_str]
  rw [hs', hq']
  by_cases h1 : q.size ≤ s.size
  · have d1 : decide ((q.size : Int) ≤ (s.size : Int)) = true := by simpa using h1
    have hsl1 := hsl h1
    obtain ⟨x, hx⟩ : ∃ x, str (l.take p.length) = x := ⟨_, rfl⟩
    have hxt : x.toList = l.take p.length := by rw [← hx, toList_str]
    rw [hx] at hsl1
    by_cases h2 : p.isPrefixOf l = true
    · have HK : Hid (p.isPrefixOf l = true) := Lib.hid h2
      have d2 : x.toList = q.toList := by rw [hxt, hqt]; exact (pre_take.1 h2).2
      clear hsl hs' hq' hsz hqz hs hp hqt hxt hx h2
      go_enter Tryz.func48, Tryz.ntmps48
      go_wp2_with fail
      go_ret
      exact ⟨ret_bool HK.out.symm, rfl⟩
    · have h2 : p.isPrefixOf l = false := (Bool.not_eq_true _).mp h2
      have HK : Hid (p.isPrefixOf l = false) := Lib.hid h2
      have d2 : (x.toList == q.toList) = false := by
        rw [hxt, hqt, beq_eq_false_iff_ne]
        intro e
        rw [pre_take.2 ⟨by omega, e⟩] at h2; cases h2
      clear hsl hs' hq' hsz hqz hs hp hqt hxt hx h2
      go_enter Tryz.func48, Tryz.ntmps48
      go_wp2_with fail
      go_ret
      exact ⟨ret_bool HK.out.symm, rfl⟩
  · have d1 : decide ((q.size : Int) ≤ (s.size : Int)) = false := by simp; omega
    have HK : Hid (p.isPrefixOf l = false) := Lib.hid (by
      rcases Bool.eq_false_or_eq_true (p.isPrefixOf l) with h | h
      · have := (pre_take.1 h).1; omega
      · exact h)
    clear hsl hs' hq' hsz hqz hs hp hqt
    go_enter Tryz.func48, Tryz.ntmps48
    go_wp2_with fail
    go_ret
    exact ⟨ret_bool HK.out.symm, rfl⟩
/-- What Mark tells. -/
def markV (r : Option (Nat × Nat)) : Value := match r with
  | none => .tuple #[.int .i8 0, .int .i64 0, .bool false]
  | some m => .tuple #[.int .i8 (m.1 : Int), .int .i64 (m.2 : Int), .bool true]
def shapeV (r : Option Nat) : Value := match r with
  | none => .tuple #[.int .i8 0, .bool false]
  | some e => .tuple #[.int .i8 (e : Int), .bool true]
set_option maxHeartbeats 1000000 in
theorem mark_any (l : List UInt8) (w : World) (hs : l.length ≤ maxLen) : Calls Tryz.prog 24 #[.string (str l)] w fun e w' => e = .returned (markV (mrk l)) ∧ w' = w := by
  have HB0 : Hid (∀ w, Calls Tryz.prog 48 #[.string (str l), .string ⟨#[239, 187, 191]⟩] w fun e w' => e = .returned (.bool (([239, 187, 191] : List UInt8).isPrefixOf l)) ∧ w' = w) := Lib.hid fun w => begins_any l [239, 187, 191] w hs (by decide)
  have HB1 : Hid (∀ w, Calls Tryz.prog 48 #[.string (str l), .string ⟨#[255, 254]⟩] w fun e w' => e = .returned (.bool (([255, 254] : List UInt8).isPrefixOf l)) ∧ w' = w) := Lib.hid fun w => begins_any l [255, 254] w hs (by decide)
  have HB2 : Hid (∀ w, Calls Tryz.prog 48 #[.string (str l), .string ⟨#[254, 255]⟩] w fun e w' => e = .returned (.bool (([254, 255] : List UInt8).isPrefixOf l)) ∧ w' = w) := Lib.hid fun w => begins_any l [254, 255] w hs (by decide)
  obtain ⟨r, hr⟩ : ∃ r, mrk l = r := ⟨_, rfl⟩
  have hr2 := hr; unfold mrk at hr2
  rw [hr]
  obtain ⟨s, hs'⟩ : ∃ s, str l = s := ⟨_, rfl⟩
  rw [hs'] at HB0 HB1 HB2 ⊢
  obtain ⟨b0, hb0⟩ : ∃ b, ([239, 187, 191] : List UInt8).isPrefixOf l = b := ⟨_, rfl⟩
  rw [hb0] at HB0 hr2
  obtain ⟨b1, hb1⟩ : ∃ b, ([255, 254] : List UInt8).isPrefixOf l = b := ⟨_, rfl⟩
  rw [hb1] at HB1 hr2
  obtain ⟨b2, hb2⟩ : ∃ b, ([254, 255] : List UInt8).isPrefixOf l = b := ⟨_, rfl⟩
  rw [hb2] at HB2 hr2
  clear hr hs' hs hb0 hb1 hb2
  cases b0 with
  | true =>
    have HR := Lib.hid hr2
    clear hr2
    go_enter Tryz.func24, Tryz.ntmps24
    go_wp2_with (go_at_call 48; refine (HB0.out _).mono ?_; rintro _ w9 ⟨rfl, hw9⟩; subst w9; clear HB0)
    go_ret3
    exact ⟨by rw [← HR.out]; rfl, rfl⟩
  | false =>
    cases b1 with
    | true =>
      have HR := Lib.hid hr2
      clear hr2
      go_enter Tryz.func24, Tryz.ntmps24
      go_wp2_with (first | (go_at_call 48; refine (HB0.out _).mono ?_; rintro _ w9 ⟨rfl, hw9⟩; subst w9; clear HB0) | (go_at_call 48; refine (HB1.out _).mono ?_; rintro _ w9 ⟨rfl, hw9⟩; subst w9; clear HB1))
      go_ret3
      exact ⟨by rw [← HR.out]; rfl, rfl⟩
    | false =>
      cases b2 with
      | true =>
        have HR := Lib.hid hr2
        clear hr2
        go_enter Tryz.func24, Tryz.ntmps24
        go_wp2_with (first | (go_at_call 48; refine (HB0.out _).mono ?_; rintro _ w9 ⟨rfl, hw9⟩; subst w9; clear HB0) | (go_at_call 48; refine (HB1.out _).mono ?_; rintro _ w9 ⟨rfl, hw9⟩; subst w9; clear HB1) | (go_at_call 48; refine (HB2.out _).mono ?_; rintro _ w9 ⟨rfl, hw9⟩; subst w9; clear HB2))
        go_ret3
        exact ⟨by rw [← HR.out]; rfl, rfl⟩
      | false =>
        have HR := Lib.hid hr2
        clear hr2
        go_enter Tryz.func24, Tryz.ntmps24
        go_wp2_with (first | (go_at_call 48; refine (HB0.out _).mono ?_; rintro _ w9 ⟨rfl, hw9⟩; subst w9; clear HB0) | (go_at_call 48; refine (HB1.out _).mono ?_; rintro _ w9 ⟨rfl, hw9⟩; subst w9; clear HB1) | (go_at_call 48; refine (HB2.out _).mono ?_; rintro _ w9 ⟨rfl, hw9⟩; subst w9; clear HB2))
        go_ret3
        exact ⟨by rw [← HR.out]; rfl, rfl⟩
set_option maxHeartbeats 1000000 in
theorem shape_any (l : List UInt8) (w : World) (hs : l.length ≤ maxLen) : Calls Tryz.prog 28 #[.string (str l)] w fun e w' => e = .returned (shapeV (shp l)) ∧ w' = w := by
  have HB0 : Hid (∀ w, Calls Tryz.prog 48 #[.string (str l), .string ⟨#[60, 0, 63, 0]⟩] w fun e w' => e = .returned (.bool (([60, 0, 63, 0] : List UInt8).isPrefixOf l)) ∧ w' = w) := Lib.hid fun w => begins_any l [60, 0, 63, 0] w hs (by decide)
  have HB1 : Hid (∀ w, Calls Tryz.prog 48 #[.string (str l), .string ⟨#[0, 60, 0, 63]⟩] w fun e w' => e = .returned (.bool (([0, 60, 0, 63] : List UInt8).isPrefixOf l)) ∧ w' = w) := Lib.hid fun w => begins_any l [0, 60, 0, 63] w hs (by decide)
  obtain ⟨r, hr⟩ : ∃ r, shp l = r := ⟨_, rfl⟩
  have hr2 := hr; unfold shp at hr2
  rw [hr]
  obtain ⟨s, hs'⟩ : ∃ s, str l = s := ⟨_, rfl⟩
  rw [hs'] at HB0 HB1 ⊢
  obtain ⟨b0, hb0⟩ : ∃ b, ([60, 0, 63, 0] : List UInt8).isPrefixOf l = b := ⟨_, rfl⟩
  rw [hb0] at HB0 hr2
  obtain ⟨b1, hb1⟩ : ∃ b, ([0, 60, 0, 63] : List UInt8).isPrefixOf l = b := ⟨_, rfl⟩
  rw [hb1] at HB1 hr2
  clear hr hs' hs hb0 hb1
  cases b0 with
  | true =>
    have HR := Lib.hid hr2
    clear hr2
    go_enter Tryz.func28, Tryz.ntmps28
    go_wp2_with (go_at_call 48; refine (HB0.out _).mono ?_; rintro _ w9 ⟨rfl, hw9⟩; subst w9; clear HB0)
    go_ret2
    exact ⟨by rw [← HR.out]; rfl, rfl⟩
  | false =>
    cases b1 with
    | true =>
      have HR := Lib.hid hr2
      clear hr2
      go_enter Tryz.func28, Tryz.ntmps28
      go_wp2_with (first | (go_at_call 48; refine (HB0.out _).mono ?_; rintro _ w9 ⟨rfl, hw9⟩; subst w9; clear HB0) | (go_at_call 48; refine (HB1.out _).mono ?_; rintro _ w9 ⟨rfl, hw9⟩; subst w9; clear HB1))
      go_ret2
      exact ⟨by rw [← HR.out]; rfl, rfl⟩
    | false =>
      have HR := Lib.hid hr2
      clear hr2
      go_enter Tryz.func28, Tryz.ntmps28
      go_wp2_with (first | (go_at_call 48; refine (HB0.out _).mono ?_; rintro _ w9 ⟨rfl, hw9⟩; subst w9; clear HB0) | (go_at_call 48; refine (HB1.out _).mono ?_; rintro _ w9 ⟨rfl, hw9⟩; subst w9; clear HB1))
      go_ret2
      exact ⟨by rw [← HR.out]; rfl, rfl⟩
end Go.Proofs.YtppabkllconkjaaGreatDoor.Dec
