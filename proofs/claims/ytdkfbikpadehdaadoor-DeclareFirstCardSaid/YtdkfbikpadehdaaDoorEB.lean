/- The contract of the document's own inside. -/
import Derived.Test.YtdkfbikpadehdaaDoorEA
namespace Go.Proofs.YtdkfbikpadehdaaDoor.Dec
open Go.RowKit
set_option linter.unusedVariables false
set_option linter.unusedSimpArgs false
open Lab (RetS ret_str str str_size str_list str_eta str_inj u8v info5 info_parts)
/-- What inside tells. -/
def insV (r : Option (List UInt8)) : Value := match r with
  | none => .tuple #[.string ⟨#[]⟩, .bool false]
  | some x => .tuple #[.string (str x), .bool true]
theorem ins_no1 {m : List UInt8} (h : ([60, 63, 120, 109, 108] : List UInt8).isPrefixOf m = false) : ins m = none := by
  unfold ins; rw [if_neg (fun hh => by rw [h] at hh; cases hh.1)]
theorem ins_no2 {m : List UInt8} (h : m.length < 6) : ins m = none := by
  unfold ins
  rw [List.drop_eq_nil_of_le (by omega), if_neg (fun hh => by cases hh.2)]
theorem ins_no3 {m : List UInt8} (h : 5 < m.length) (hw : wht m[5] = false) : ins m = none := by
  unfold ins
  rw [List.head?_drop, List.getElem?_eq_getElem h, if_neg (fun hh => by
    have := hh.2
    simp [hw] at this)]
theorem ins_yes {m : List UInt8} (h0 : ([60, 63, 120, 109, 108] : List UInt8).isPrefixOf m = true) (h : 5 < m.length) (hw : wht m[5] = true) : ins m = upto (m.drop 5) := by
  unfold ins
  rw [if_pos ⟨h0, by rw [List.head?_drop, List.getElem?_eq_getElem h]; simpa using hw⟩]
set_option maxRecDepth 100000 in
set_option maxHeartbeats 4000000 in
theorem inside_any (l : List UInt8) (w : World) (hs : l.length ≤ maxLen) : Calls Tryd.prog 22 #[.string (str l)] w fun e w' => e = .returned (insV (dcl l)) ∧ w' = w := by
  unfold maxLen at hs
  obtain ⟨m, hm⟩ : ∃ m, l.take 200 = m := ⟨_, rfl⟩
  have hml : m.length ≤ 200 := by rw [← hm, List.length_take]; omega
  obtain ⟨r, hr⟩ : ∃ r, ins m = r := ⟨_, rfl⟩
  have hdr : dcl l = r := by unfold dcl; rw [hm, hr]
  rw [hdr]
  obtain ⟨s, hs'⟩ : ∃ s, str m = s := ⟨_, rfl⟩
  have hsz : s.size = m.length := by rw [← hs', str_size]
  have hs2 : s.size ≤ 200 := by omega
  have HSZ := Lib.hid hsz
  have HB : Hid (∀ w, Calls Tryd.prog 20 #[.string s, .string ⟨#[60, 63, 120, 109, 108]⟩] w fun e w' => e = .returned (.bool (([60, 63, 120, 109, 108] : List UInt8).isPrefixOf m)) ∧ w' = w) := Lib.hid fun w => hs' ▸ begins_any m [60, 63, 120, 109, 108] w (by unfold maxLen; omega) (by decide)
  have HWH : Hid (∀ (c : UInt8) (w : World), Calls Tryd.prog 28 #[.int .u8 (c.toNat : Int)] w fun e w' => e = .returned (.bool (wht c)) ∧ w' = w) := Lib.hid white_any
  have HSL : Hid (∀ (y : Nat), 5 ≤ y → y ≤ s.size → ∀ w0 : World, (Instr.slice 9 (.string s) (some (.int .i64 5)) (some (.int .i64 (y : Int))) none).run Tryd.prog w0 = .ok (.string (str ((m.drop 5).take (y - 5)))) w0) := Lib.hid fun y h1 h2 w0 => hs' ▸ slice_law (str m) 5 y h1 (by rw [str_size]; omega) (str_list m) rfl w0
  have HEL : ∀ (i : Nat) (h : i < s.size) (h' : i < m.length), m[i] = s[i] := by
    intro i h h'; subst hs'; rfl
  have HI1 := Lib.hid fun h => (ins_no1 (m := m) h).symm.trans hr
  have HI2 := Lib.hid fun h => (ins_no2 (m := m) h).symm.trans hr
  have HI3 := Lib.hid fun h hw => (ins_no3 (m := m) h hw).symm.trans hr
  have HI4 := Lib.hid fun h0 h hw => (ins_yes (m := m) h0 h hw).symm.trans hr
  obtain ⟨b, hb⟩ : ∃ b, ([60, 63, 120, 109, 108] : List UInt8).isPrefixOf m = b := ⟨_, rfl⟩
  rw [hb] at HB HI1 HI4
  clear hb hdr hr
  obtain ⟨t, ht⟩ : ∃ t, str l = t := ⟨_, rfl⟩
  have htz : t.size = l.length := by rw [← ht, str_size]
  have hcut : 200 < t.size → ∀ w0 : World, (Instr.slice 9 (.string t) none (some (.int .i64 200)) none).run Tryd.prog w0 = .ok (.string s) w0 := fun h w0 => by
    rw [← ht, ← hs']
    exact slice_to (str l) 200 (by rw [ht]; omega) (str_list l) hm.symm w0
  have hsame : ¬ 200 < t.size → t = s := fun h => by
    rw [← ht, ← hs', ← hm, List.take_of_length_le (by omega)]
  rw [ht]
  clear ht htz hs' hm hs hml hsz
  by_cases hbig : 200 < t.size
  · have hsl0 := hcut hbig
    have dbig : decide ((200 : Int) < (t.size : Int)) = true := by simp; omega
    clear hcut hsame
    cases b with
    | false =>
      have HR := HI1.out rfl
      have HRh := Lib.hid HR
      clear HR HI1 HI2 HI3 HI4 HWH HSL HEL
      go_enter Tryd.func22, Tryd.ntmps22
      go_wp2_with (go_at_call 20; refine (HB.out _).mono ?_; rintro _ w9 ⟨rfl, hw9⟩; subst w9; clear HB)
      go_ret2
      exact ⟨by rw [← HRh.out]; rfl, rfl⟩
    | true =>
      by_cases h6 : s.size < 6
      · have HRh := Lib.hid (HI2.out (by have := HSZ.out; omega))
        have d6 : decide ((s.size : Int) < 6) = true := by simp; omega
        clear HI1 HI2 HI3 HI4 HWH HSL HEL
        go_enter Tryd.func22, Tryd.ntmps22
        go_wp2_with (go_at_call 20; refine (HB.out _).mono ?_; rintro _ w9 ⟨rfl, hw9⟩; subst w9; clear HB)
        go_ret2
        exact ⟨by rw [← HRh.out]; rfl, rfl⟩
      have d6 : decide ((s.size : Int) < 6) = false := by simp; omega
      have hm5 : 5 < m.length := by have := HSZ.out; omega
      have h5 : 5 < s.size := by omega
      have hq3 : (5 : Int) < (s.size : Int) := by omega
      have hel5 := HEL 5 h5 hm5
      have HW5 : Hid (∀ w, Calls Tryd.prog 28 #[.int .u8 (s[5].toNat : Int)] w fun e w' => e = .returned (.bool (wht s[5])) ∧ w' = w) := Lib.hid (HWH.out _)
      by_cases hw5 : wht s[5] = false
      · have HRh := Lib.hid (HI3.out hm5 (by rw [hel5]; exact hw5))
        rw [hw5] at HW5
        clear HI1 HI2 HI3 HI4 HWH HSL HEL hel5 hw5
        go_enter Tryd.func22, Tryd.ntmps22
        go_wp2_with (first | (go_at_call 20; refine (HB.out _).mono ?_; rintro _ w9 ⟨rfl, hw9⟩; subst w9; clear HB) | (go_at_call 28; refine (HW5.out _).mono ?_; rintro _ w9 ⟨rfl, hw9⟩; subst w9; clear HW5))
        go_ret2
        exact ⟨by rw [← HRh.out]; rfl, rfl⟩
      have hw5 : wht s[5] = true := by simpa using hw5
      have HRh := Lib.hid (HI4.out rfl hm5 (by rw [hel5]; exact hw5))
      rw [hw5] at HW5
      clear HI1 HI2 HI3 HI4 HWH hel5 hw5
      have HELh := Lib.hid HEL
      clear HEL
      go_enter Tryd.func22, Tryd.ntmps22
      go_wp2_with (first | (go_at_call 20; refine (HB.out _).mono ?_; rintro _ w9 ⟨rfl, hw9⟩; subst w9; clear HB) | (go_at_call 28; refine (HW5.out _).mono ?_; rintro _ w9 ⟨rfl, hw9⟩; subst w9; clear HW5))
      go_loopg [4] (s.size + 1) (fun g q wr => ∃ (i : Nat), i + g = s.size + 6 ∧ w = wr ∧ q = .int .i64 i ∧ 5 ≤ i ∧ i < s.size ∧ Hid (Miss m 5 i))
      case atStart => exact ⟨5, by omega, rfl, rfl, by omega, by omega, Lib.hid (Miss.start m 5)⟩
      case round =>
        obtain ⟨i, hkg, hw, rfl, hi5, hi7, HE⟩ := hrel
        subst hw
        by_cases hlt : i + 1 < s.size
        · have hml : i + 1 < m.length := by have := HSZ.out; omega
          have hk0 : (0 : Int) ≤ (i : Int) := by omega
          have hk3 : (i : Int) < (s.size : Int) := by omega
          have hf0 : (0 : Int) ≤ (i : Int) + 1 := by omega
          have hf3 : (i : Int) + 1 < (s.size : Int) := by omega
          have e1 := HELh.out i hi7 (by omega)
          have e2 := HELh.out (i + 1) hlt hml
          by_cases h1 : s[i] = 63
          · have d1 : ((s[i].toNat : Int) == 63) = true := by rw [h1]; decide
            by_cases h2 : s[i + 1] = 62
            · have d2 : ((s[i + 1].toNat : Int) == 62) = true := by rw [h2]; decide
              have HH := Lib.hid ((HE.out.hit hml (by rw [e1]; exact h1) (by rw [e2]; exact h2)).symm.trans HRh.out)
              have hsl1 := HSL.out i hi5 (by omega)
              clear h1 h2 e1 e2 HE HSL
              go_wp2_with fail
              go_ret2
              exact ⟨by rw [← HH.out]; rfl, rfl⟩
            · have d2 : ((s[i + 1].toNat : Int) == 62) = false := by
                have : ¬ (s[i + 1].toNat : Int) = 62 := fun e => h2 (u8_lit.1 e)
                simpa using this
              have HE2 := Lib.hid (HE.out.step hi5 hml (by rw [e1, e2]; exact fun hh => h2 hh.2))
              clear h1 h2 e1 e2 HE
              go_wp2_with fail
              go_roundg (gk - 1)
              case measure => omega
              case rel => exact ⟨i + 1, by omega, rfl, by go_num, by omega, by omega, HE2⟩
          · have d1 : ((s[i].toNat : Int) == 63) = false := by
              have : ¬ (s[i].toNat : Int) = 63 := fun e => h1 (u8_lit.1 e)
              simpa using this
            have HE2 := Lib.hid (HE.out.step hi5 hml (by rw [e1, e2]; exact fun hh => h1 hh.1))
            clear h1 e1 e2 HE
            go_wp2_with fail
            go_roundg (gk - 1)
            case measure => omega
            case rel => exact ⟨i + 1, by omega, rfl, by go_num, by omega, by omega, HE2⟩
        · have HH := Lib.hid ((HE.out.out (by have := HSZ.out; omega)).symm.trans HRh.out)
          have hf4 : ¬ (i : Int) + 1 < (s.size : Int) := by omega
          clear HE
          go_wp2_with fail
          go_ret2
          exact ⟨by rw [← HH.out]; rfl, rfl⟩
  · have := hsame hbig
    subst this
    have dbig : decide ((200 : Int) < (t.size : Int)) = false := by simp; omega
    clear hcut hsame
    cases b with
    | false =>
      have HR := HI1.out rfl
      have HRh := Lib.hid HR
      clear HR HI1 HI2 HI3 HI4 HWH HSL HEL
      go_enter Tryd.func22, Tryd.ntmps22
      go_wp2_with (go_at_call 20; refine (HB.out _).mono ?_; rintro _ w9 ⟨rfl, hw9⟩; subst w9; clear HB)
      go_ret2
      exact ⟨by rw [← HRh.out]; rfl, rfl⟩
    | true =>
      by_cases h6 : t.size < 6
      · have HRh := Lib.hid (HI2.out (by have := HSZ.out; omega))
        have d6 : decide ((t.size : Int) < 6) = true := by simp; omega
        clear HI1 HI2 HI3 HI4 HWH HSL HEL
        go_enter Tryd.func22, Tryd.ntmps22
        go_wp2_with (go_at_call 20; refine (HB.out _).mono ?_; rintro _ w9 ⟨rfl, hw9⟩; subst w9; clear HB)
        go_ret2
        exact ⟨by rw [← HRh.out]; rfl, rfl⟩
      have d6 : decide ((t.size : Int) < 6) = false := by simp; omega
      have hm5 : 5 < m.length := by have := HSZ.out; omega
      have h5 : 5 < t.size := by omega
      have hq3 : (5 : Int) < (t.size : Int) := by omega
      have hel5 := HEL 5 h5 hm5
      have HW5 : Hid (∀ w, Calls Tryd.prog 28 #[.int .u8 (t[5].toNat : Int)] w fun e w' => e = .returned (.bool (wht t[5])) ∧ w' = w) := Lib.hid (HWH.out _)
      by_cases hw5 : wht t[5] = false
      · have HRh := Lib.hid (HI3.out hm5 (by rw [hel5]; exact hw5))
        rw [hw5] at HW5
        clear HI1 HI2 HI3 HI4 HWH HSL HEL hel5 hw5
        go_enter Tryd.func22, Tryd.ntmps22
        go_wp2_with (first | (go_at_call 20; refine (HB.out _).mono ?_; rintro _ w9 ⟨rfl, hw9⟩; subst w9; clear HB) | (go_at_call 28; refine (HW5.out _).mono ?_; rintro _ w9 ⟨rfl, hw9⟩; subst w9; clear HW5))
        go_ret2
        exact ⟨by rw [← HRh.out]; rfl, rfl⟩
      have hw5 : wht t[5] = true := by simpa using hw5
      have HRh := Lib.hid (HI4.out rfl hm5 (by rw [hel5]; exact hw5))
      rw [hw5] at HW5
      clear HI1 HI2 HI3 HI4 HWH hel5 hw5
      have HELh := Lib.hid HEL
      clear HEL
      go_enter Tryd.func22, Tryd.ntmps22
      go_wp2_with (first | (go_at_call 20; refine (HB.out _).mono ?_; rintro _ w9 ⟨rfl, hw9⟩; subst w9; clear HB) | (go_at_call 28; refine (HW5.out _).mono ?_; rintro _ w9 ⟨rfl, hw9⟩; subst w9; clear HW5))
      go_loopg [4] (t.size + 1) (fun g q wr => ∃ (i : Nat), i + g = t.size + 6 ∧ w = wr ∧ q = .int .i64 i ∧ 5 ≤ i ∧ i < t.size ∧ Hid (Miss m 5 i))
      case atStart => exact ⟨5, by omega, rfl, rfl, by omega, by omega, Lib.hid (Miss.start m 5)⟩
      case round =>
        obtain ⟨i, hkg, hw, rfl, hi5, hi7, HE⟩ := hrel
        subst hw
        by_cases hlt : i + 1 < t.size
        · have hml : i + 1 < m.length := by have := HSZ.out; omega
          have hk0 : (0 : Int) ≤ (i : Int) := by omega
          have hk3 : (i : Int) < (t.size : Int) := by omega
          have hf0 : (0 : Int) ≤ (i : Int) + 1 := by omega
          have hf3 : (i : Int) + 1 < (t.size : Int) := by omega
          have e1 := HELh.out i hi7 (by omega)
          have e2 := HELh.out (i + 1) hlt hml
          by_cases h1 : t[i] = 63
          · have d1 : ((t[i].toNat : Int) == 63) = true := by rw [h1]; decide
            by_cases h2 : t[i + 1] = 62
            · have d2 : ((t[i + 1].toNat : Int) == 62) = true := by rw [h2]; decide
              have HH := Lib.hid ((HE.out.hit hml (by rw [e1]; exact h1) (by rw [e2]; exact h2)).symm.trans HRh.out)
              have hsl1 := HSL.out i hi5 (by omega)
              clear h1 h2 e1 e2 HE HSL
              go_wp2_with fail
              go_ret2
              exact ⟨by rw [← HH.out]; rfl, rfl⟩
            · have d2 : ((t[i + 1].toNat : Int) == 62) = false := by
                have : ¬ (t[i + 1].toNat : Int) = 62 := fun e => h2 (u8_lit.1 e)
                simpa using this
              have HE2 := Lib.hid (HE.out.step hi5 hml (by rw [e1, e2]; exact fun hh => h2 hh.2))
              clear h1 h2 e1 e2 HE
              go_wp2_with fail
              go_roundg (gk - 1)
              case measure => omega
              case rel => exact ⟨i + 1, by omega, rfl, by go_num, by omega, by omega, HE2⟩
          · have d1 : ((t[i].toNat : Int) == 63) = false := by
              have : ¬ (t[i].toNat : Int) = 63 := fun e => h1 (u8_lit.1 e)
              simpa using this
            have HE2 := Lib.hid (HE.out.step hi5 hml (by rw [e1, e2]; exact fun hh => h1 hh.1))
            clear h1 e1 e2 HE
            go_wp2_with fail
            go_roundg (gk - 1)
            case measure => omega
            case rel => exact ⟨i + 1, by omega, rfl, by go_num, by omega, by omega, HE2⟩
        · have HH := Lib.hid ((HE.out.out (by have := HSZ.out; omega)).symm.trans HRh.out)
          have hf4 : ¬ (i : Int) + 1 < (t.size : Int) := by omega
          clear HE
          go_wp2_with fail
          go_ret2
          exact ⟨by rw [← HH.out]; rfl, rfl⟩
end Go.Proofs.YtdkfbikpadehdaaDoor.Dec
