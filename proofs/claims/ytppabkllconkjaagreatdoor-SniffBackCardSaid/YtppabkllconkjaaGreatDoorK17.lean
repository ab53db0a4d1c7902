/- Joined: EB, EC. -/
import Derived.BigQuiet
import Derived.Deep.AppendLies
import Derived.Deep.DeepCutAuto
import Derived.Deep.LoopGhost
import Derived.Deep.QuietTactic
import Derived.Deep.RegionHeld3
import Derived.Deep.WholeRow
import Derived.Laws.AppendOwn
import Derived.Laws.BytesArg
import Derived.Laws.DeepStrings4
import Derived.Laws.Externs
import Derived.Laws.IdiomStrings
import Derived.Laws.ResultCell
import Derived.Laws.Rows
import Derived.Laws.Tables
import Derived.Lib.Bytealg
import Derived.Lib.Hide
import Derived.LoopN
import Derived.Maps.AppendAt
import Derived.OpenShut
import Derived.Outline
import Derived.OwnWalk
import Derived.ProofKit
import Derived.StillTailTactics
import Derived.Test.YtppabkllconkjaaGreatDoorRows
import Derived.WalkKit
import Derived.WalkMore
import Derived.Test.YtppabkllconkjaaGreatDoorK05
import Derived.Test.YtppabkllconkjaaGreatDoorK09
import Derived.Test.YtppabkllconkjaaGreatDoorK11
import Derived.Test.YtppabkllconkjaaGreatDoorK16
/- The contract of the document's own inside. -/
namespace Go.Proofs.YtppabkllconkjaaGreatDoor.Dec
open Go.RowKit
set_option linter.unusedVariables false
set_option linter.unusedSimpArgs false
set_option maxRecDepth 100000
open Lab (RetS ret_str str str_size str_list str_eta str_inj u8v info5 info_parts)
/-- What inside tells. -/
def insV (r : Option (List UInt8)) : Value := match r with
  | none => .tuple #[.string ⟨#[]⟩, .bool false]
  | some x => .tuple #[.string (str x), .bool true]
theorem ins_no1 {m : List UInt8} (h : ([60, 63, 120, 109, 108] : List UInt8).isPrefixOf m = false) : ins m = none := by
  unfold ins; rw [if_neg (fun hh => by rw [h] at hh; cases hh.1)]
theorem ins_no2 {m : List UInt8} (h : m.length < 6) : ins m = none := by
  unfold ins
  rw [List.drop_eq_nil_of_le (by omega), if_neg (fun hh => by cases hh.2)]
theorem ins_no3 {m : List UInt8} (h : 5 < m.length) (hw : wht m[5] = false) : ins m = none := by
  unfold ins
  rw [List.head?_drop, List.getElem?_eq_getElem h, if_neg (fun hh => by
    have := hh.2
    simp [hw] at this)]
theorem ins_yes {m : List UInt8} (h0 : ([60, 63, 120, 109, 108] : List UInt8).isPrefixOf m = true) (h : 5 < m.length) (hw : wht m[5] = true) : ins m = upto (m.drop 5) := by
  unfold ins
  rw [if_pos ⟨h0, by rw [List.head?_drop, List.getElem?_eq_getElem h]; simpa using hw⟩]
set_option maxRecDepth 100000 in
set_option maxHeartbeats 4000000 in
theorem inside_any (l : List UInt8) (w : World) (hs : l.length ≤ maxLen) : Calls Tryz.prog 92 #[.string (str l)] w fun e w' => e = .returned (insV (dcl l)) ∧ w' = w := by
  unfold maxLen at hs
  obtain ⟨m, hm⟩ : ∃ m, l.take 200 = m := ⟨_, rfl⟩
  have hml : m.length ≤ 200 := by rw [← hm, List.length_take]; omega
  obtain ⟨r, hr⟩ : ∃ r, ins m = r := ⟨_, rfl⟩
  have hdr : dcl l = r := by unfold dcl; rw [hm, hr]
  rw [hdr]
  obtain ⟨s, hs'⟩ : ∃ s, str m = s := ⟨_, rfl⟩
  have hsz : s.size = m.length := by rw [← hs', str_size]
  have hs2 : s.size ≤ 200 := by omega
  have HSZ := Lib.hid hsz
  have HB : Hid (∀ w, Calls Tryz.prog 48 #[.string s, .string ⟨#[60, 63, 120, 109, 108]⟩] w fun e w' => e = .returned (.bool (([60, 63, 120, 109, 108] : List UInt8).isPrefixOf m)) ∧ w' = w) := Lib.hid fun w => hs' ▸ begins_any m [60, 63, 120, 109, 108] w (by unfold maxLen; omega) (by decide)
  have HWH : Hid (∀ (c : UInt8) (w : World), Calls Tryz.prog 124 #[.int .u8 (c.toNat : Int)] w fun e w' => e = .returned (.bool (wht c)) ∧ w' = w) := Lib.hid white_any
  have HSL : Hid (∀ (y : Nat), 5 ≤ y → y ≤ s.size → ∀ w0 : World, (Instr.slice 9 (.string s) (some (.int .i64 5)) (some (.int .i64 (y : Int))) none).run Tryz.prog w0 = .ok (.string (str ((m.drop 5).take (y - 5)))) w0) := Lib.hid fun y h1 h2 w0 => hs' ▸ slice_law (str m) 5 y h1 (by rw [str_size]; omega) (str_list m) rfl w0
  have HEL : ∀ (i : Nat) (h : i < s.size) (h' : i < m.length), m[i] = s[i] := by
    intro i h h'; subst hs'; rfl
  have HI1 := Lib.hid fun h => (ins_no1 (m := m) h).symm.trans hr
  have HI2 := Lib.hid fun h => (ins_no2 (m := m) h).symm.trans hr
  have HI3 := Lib.hid fun h hw => (ins_no3 (m := m) h hw).symm.trans hr
  have HI4 := Lib.hid fun h0 h hw => (ins_yes (m := m) h0 h hw).symm.trans hr
  obtain ⟨b, hb⟩ : ∃ b, ([60, 63, 120, 109, 108] : List UInt8).isPrefixOf m = b := ⟨_, rfl⟩
  rw [hb] at HB HI1 HI4
  clear hb hdr hr
  obtain ⟨t, ht⟩ : ∃ t, str l = t := ⟨_, rfl⟩
  have htz : t.size = l.length := by rw [← ht, str_size]
  have hcut : 200 < t.size → ∀ w0 : World, (Instr.slice 9 (.string t) none (some (.int .i64 200)) none).run Tryz.prog w0 = .ok (.string s) w0 := fun h w0 => by
    rw [← ht, ← hs']
    exact slice_to (str l) 200 (by rw [ht]; omega) (str_list l) hm.symm w0
  have hsame : ¬ 200 < t.size → t = s := fun h => by
    rw [← ht, ← hs', ← hm, List.take_of_length_le (by omega)]
  rw [ht]
  clear ht htz hs' hm hs hml hsz
  by_cases hbig : 200 < t.size
  · have hsl0 := hcut hbig
    have dbig : decide ((200 : Int) < (t.size : Int)) = true := by simp; omega
    clear hcut hsame
    cases b with
    | false =>
      have HR := HI1.out rfl
      have HRh := Lib.hid HR
      clear HR HI1 HI2 HI3 HI4 HWH HSL HEL
      go_enter Tryz.func92, Tryz.ntmps92
      go_wp2_with (go_at_call 48; refine (HB.out _).mono ?_; rintro _ w9 ⟨rfl, hw9⟩; subst w9; clear HB)
      go_ret2
      exact ⟨by rw [← HRh.out]; rfl, rfl⟩
    | true =>
      by_cases h6 : s.size < 6
      · have HRh := Lib.hid (HI2.out (by have := HSZ.out; omega))
        have d6 : decide ((s.size : Int) < 6) = true := by simp; omega
        clear HI1 HI2 HI3 HI4 HWH HSL HEL
        go_enter Tryz.func92, Tryz.ntmps92
        go_wp2_with (go_at_call 48; refine (HB.out _).mono ?_; rintro _ w9 ⟨rfl, hw9⟩; subst w9; clear HB)
        go_ret2
        exact ⟨by rw [← HRh.out]; rfl, rfl⟩
      have d6 : decide ((s.size : Int) < 6) = false := by simp; omega
      have hm5 : 5 < m.length := by have := HSZ.out; omega
      have h5 : 5 < s.size := by omega
      have hq3 : (5 : Int) < (s.size : Int) := by omega
      have hel5 := HEL 5 h5 hm5
      have HW5 : Hid (∀ w, Calls Tryz.prog 124 #[.int .u8 (s[5].toNat : Int)] w fun e w' => e = .returned (.bool (wht s[5])) ∧ w' = w) := Lib.hid (HWH.out _)
      by_cases hw5 : wht s[5] = false
      · have HRh := Lib.hid (HI3.out hm5 (by rw [hel5]; exact hw5))
        rw [hw5] at HW5
        clear HI1 HI2 HI3 HI4 HWH HSL HEL hel5 hw5
        go_enter Tryz.func92, Tryz.ntmps92
        go_wp2_with (first | (go_at_call 48; refine (HB.out _).mono ?_; rintro _ w9 ⟨rfl, hw9⟩; subst w9; clear HB) | (go_at_call 124; refine (HW5.out _).mono ?_; rintro _ w9 ⟨rfl, hw9⟩; subst w9; clear HW5))
        go_ret2
        exact ⟨by rw [← HRh.out]; rfl, rfl⟩
      have hw5 : wht s[5] = true := by simpa using hw5
      have HRh := Lib.hid (HI4.out rfl hm5 (by rw [hel5]; exact hw5))
      rw [hw5] at HW5
      clear HI1 HI2 HI3 HI4 HWH hel5 hw5
      have HELh := Lib.hid HEL
      clear HEL
      go_enter Tryz.func92, Tryz.ntmps92
      go_wp2_with (first | (go_at_call 48; refine (HB.out _).mono ?_; rintro _ w9 ⟨rfl, hw9⟩; subst w9; clear HB) | (go_at_call 124; refine (HW5.out _).mono ?_; rintro _ w9 ⟨rfl, hw9⟩; subst w9; clear HW5))
      go_loopg [4] (s.size + 1) (fun g q wr => ∃ (i : Nat), i + g = s.size + 6 ∧ w = wr ∧ q = .int .i64 i ∧ 5 ≤ i ∧ i < s.size ∧ Hid (Miss m 5 i))
      case atStart => exact ⟨5, by omega, rfl, rfl, by omega, by omega, Lib.hid (Miss.start m 5)⟩
      case round =>
        obtain ⟨i, hkg, hw, rfl, hi5, hi7, HE⟩ := hrel
        subst hw
        by_cases hlt : i + 1 < s.size
        · have hml : i + 1 < m.length := by have := HSZ.out; omega
          have hk0 : (0 : Int) ≤ (i : Int) := by omega
          have hk3 : (i : Int) < (s.size : Int) := by omega
          have hf0 : (0 : Int) ≤ (i : Int) + 1 := by omega
          have hf3 : (i : Int) + 1 < (s.size : Int) := by omega
          have e1 := HELh.out i hi7 (by omega)
          have e2 := HELh.out (i + 1) hlt hml
          by_cases h1 : s[i] = 63
          · have d1 : ((s[i].toNat : Int) == 63) = true := by rw [h1]; decide
            by_cases h2 : s[i + 1] = 62
            · have d2 : ((s[i + 1].toNat : Int) == 62) = true := by rw [h2]; decide
              have HH := Lib.hid ((HE.out.hit hml (by rw [e1]; exact h1) (by rw [e2]; exact h2)).symm.trans HRh.out)
              have hsl1 := HSL.out i hi5 (by omega)
              clear h1 h2 e1 e2 HE HSL
              go_wp2_with fail
              go_ret2
              exact ⟨by rw [← HH.out]; rfl, rfl⟩
            · have d2 : ((s[i + 1].toNat : Int) == 62) = false := by
                have : ¬ (s[i + 1].toNat : Int) = 62 := fun e => h2 (u8_lit.1 e)
                simpa using this
              have HE2 := Lib.hid (HE.out.step hi5 hml (by rw [e1, e2]; exact fun hh => h2 hh.2))
              clear h1 h2 e1 e2 HE
              go_wp2_with fail
              go_roundg (gk - 1)
              case measure => omega
              case rel => exact ⟨i + 1, by omega, rfl, by go_num, by omega, by omega, HE2⟩
          · have d1 : ((s[i].toNat : Int) == 63) = false := by
              have : ¬ (s[i].toNat : Int) = 63 := fun e => h1 (u8_lit.1 e)
              simpa using this
            have HE2 := Lib.hid (HE.out.step hi5 hml (by rw [e1, e2]; exact fun hh => h1 hh.1))
            clear h1 e1 e2 HE
            go_wp2_with fail
            go_roundg (gk - 1)
            case measure => omega
            case rel => exact ⟨i + 1, by omega, rfl, by go_num, by omega, by omega, HE2⟩
        · have HH := Lib.hid ((HE.out.out (by have := HSZ.out; omega)).symm.trans HRh.out)
          have hf4 : ¬ (i : Int) + 1 < (s.size : Int) := by omega
          clear HE
          go_wp2_with fail
          go_ret2
          exact ⟨by rw [← HH.out]; rfl, rfl⟩
  · have := hsame hbig
    subst this
    have dbig : decide ((200 : Int) < (t.size : Int)) = false := by simp; omega
    clear hcut hsame
    cases b with
    | false =>
      have HR := HI1.out rfl
      have HRh := Lib.hid HR
      clear HR HI1 HI2 HI3 HI4 HWH HSL HEL
      go_enter Tryz.func92, Tryz.ntmps92
      go_wp2_with (go_at_call 48; refine (HB.out _).mono ?_; rintro _ w9 ⟨rfl, hw9⟩; subst w9; clear HB)
      go_ret2
      exact ⟨by rw [← HRh.out]; rfl, rfl⟩
    | true =>
      by_cases h6 : t.size < 6
      · have HRh := Lib.hid (HI2.out (by have := HSZ.out; omega))
        have d6 : decide ((t.size : Int) < 6) = true := by simp; omega
        clear HI1 HI2 HI3 HI4 HWH HSL HEL
        go_enter Tryz.func92, Tryz.ntmps92
        go_wp2_with (go_at_call 48; refine (HB.out _).mono ?_; rintro _ w9 ⟨rfl, hw9⟩; subst w9; clear HB)
        go_ret2
        exact ⟨by rw [← HRh.out]; rfl, rfl⟩
      have d6 : decide ((t.size : Int) < 6) = false := by simp; omega
      have hm5 : 5 < m.length := by have := HSZ.out; omega
      have h5 : 5 < t.size := by omega
      have hq3 : (5 : Int) < (t.size : Int) := by omega
      have hel5 := HEL 5 h5 hm5
      have HW5 : Hid (∀ w, Calls Tryz.prog 124 #[.int .u8 (t[5].toNat : Int)] w fun e w' => e = .returned (.bool (wht t[5])) ∧ w' = w) := Lib.hid (HWH.out _)
      by_cases hw5 : wht t[5] = false
      · have HRh := Lib.hid (HI3.out hm5 (by rw [hel5]; exact hw5))
        rw [hw5] at HW5
        clear HI1 HI2 HI3 HI4 HWH HSL HEL hel5 hw5
        go_enter Tryz.func92, Tryz.ntmps92
        go_wp2_with (first | (go_at_call 48; refine (HB.out _).mono ?_; rintro _ w9 ⟨rfl, hw9⟩; subst w9; clear HB) | (go_at_call 124; refine (HW5.out _).mono ?_; rintro _ w9 ⟨rfl, hw9⟩; subst w9; clear HW5))
        go_ret2
        exact ⟨by rw [← HRh.out]; rfl, rfl⟩
      have hw5 : wht t[5] = true := by simpa using hw5
      have HRh := Lib.hid (HI4.out rfl hm5 (by rw [hel5]; exact hw5))
      rw [hw5] at HW5
      clear HI1 HI2 HI3 HI4 HWH hel5 hw5
      have HELh := Lib.hid HEL
      clear HEL
      go_enter Tryz.func92, Tryz.ntmps92
      go_wp2_with (first | (go_at_call 48; refine (HB.out _).mono ?_; rintro _ w9 ⟨rfl, hw9⟩; subst w9; clear HB) | (go_at_call 124; refine (HW5.out _).mono ?_; rintro _ w9 ⟨rfl, hw9⟩; subst w9; clear HW5))
      go_loopg [4] (t.size + 1) (fun g q wr => ∃ (i : Nat), i + g = t.size + 6 ∧ w = wr ∧ q = .int .i64 i ∧ 5 ≤ i ∧ i < t.size ∧ Hid (Miss m 5 i))
      case atStart => exact ⟨5, by omega, rfl, rfl, by omega, by omega, Lib.hid (Miss.start m 5)⟩
      case round =>
        obtain ⟨i, hkg, hw, rfl, hi5, hi7, HE⟩ := hrel
        subst hw
        by_cases hlt : i + 1 < t.size
        · have hml : i + 1 < m.length := by have := HSZ.out; omega
          have hk0 : (0 : Int) ≤ (i : Int) := by omega
          have hk3 : (i : Int) < (t.size : Int) := by omega
          have hf0 : (0 : Int) ≤ (i : Int) + 1 := by omega
          have hf3 : (i : Int) + 1 < (t.size : Int) := by omega
          have e1 := HELh.out i hi7 (by omega)
          have e2 := HELh.out (i + 1) hlt hml
          by_cases h1 : t[i] = 63
          · have d1 : ((t[i].toNat : Int) == 63) = true := by rw [h1]; decide
            by_cases h2 : t[i + 1] = 62
            · have d2 : ((t[i + 1].toNat : Int) == 62) = true := by rw [h2]; decide
              have HH := Lib.hid ((HE.out.hit hml (by rw [e1]; exact h1) (by rw [e2]; exact h2)).symm.trans HRh.out)
              have hsl1 := HSL.out i hi5 (by omega)
              clear h1 h2 e1 e2 HE HSL
              go_wp2_with fail
              go_ret2
              exact ⟨by rw [← HH.out]; rfl, rfl⟩
            · have d2 : ((t[i + 1].toNat : Int) == 62) = false := by
                have : ¬ (t[i + 1].toNat : Int) = 62 := fun e => h2 (u8_lit.1 e)
                simpa using this
              have HE2 := Lib.hid (HE.out.step hi5 hml (by rw [e1, e2]; exact fun hh => h2 hh.2))
              clear h1 h2 e1 e2 HE
              go_wp2_with fail
              go_roundg (gk - 1)
              case measure => omega
              case rel => exact ⟨i + 1, by omega, rfl, by go_num, by omega, by omega, HE2⟩
          · have d1 : ((t[i].toNat : Int) == 63) = false := by
              have : ¬ (t[i].toNat : Int) = 63 := fun e => h1 (u8_lit.1 e)
              simpa using this
            have HE2 := Lib.hid (HE.out.step hi5 hml (by rw [e1, e2]; exact fun hh => h1 hh.1))
            clear h1 e1 e2 HE
            go_wp2_with fail
            go_roundg (gk - 1)
            case measure => omega
            case rel => exact ⟨i + 1, by omega, rfl, by go_num, by omega, by omega, HE2⟩
        · have HH := Lib.hid ((HE.out.out (by have := HSZ.out; omega)).symm.trans HRh.out)
          have hf4 : ¬ (i : Int) + 1 < (t.size : Int) := by omega
          clear HE
          go_wp2_with fail
          go_ret2
          exact ⟨by rw [← HH.out]; rfl, rfl⟩
end Go.Proofs.YtppabkllconkjaaGreatDoor.Dec
/- The contract of the document's own part. -/
namespace Go.Proofs.YtppabkllconkjaaGreatDoor.Dec
open Go.RowKit
set_option linter.unusedVariables false
set_option linter.unusedSimpArgs false
set_option maxRecDepth 100000
open Lab (RetS ret_str str str_size str_list str_eta str_inj u8v info5 info_parts)
theorem results_cell_tmp2 {fn : Func} {p u v : Tmp} {ty : TypeId} (h : fn.results = #[.cell p ty, .tmp u, .tmp v]) (tmps : Array Value) (P : Program) (w : World) :
    (results fn tmps).run P w =
      ((asAddr (tmps.getD p undef)).run P w).andThen fun a w₁ => ((loadVar ty a).run P w₁).andThen fun x w₂ => .ok (.tuple #[x, tmps.getD u undef, tmps.getD v undef]) w₂ := by
  simp only [results, h]
  simp [Sem.run_bind, Result.andThen]
theorem infoP : (Tryz.prog.info? 98).map (fun i => (i.zero, i.size)) = some (some (.agg #[.string ⟨#[]⟩, .string ⟨#[]⟩]), 2) := by kernel_rfl
theorem loadP {W : World} {R : Nat} {x y : Value} (h : Blk W R #[x, y] 98) : (loadVar 98 ⟨R, 0, none⟩).run Tryz.prog W = .ok (.agg #[x, y]) W :=
  run_loadVar_row W R 98 98 #[x, y] (0, 0) _ h Tryz.underlying98 rfl (zero_of_info infoP).2
theorem buildP0 (w : World) : (Instr.build 98 #[]).run Tryz.prog w = .ok (.agg #[.string ⟨#[]⟩, .string ⟨#[]⟩]) w := by kernel_rfl
theorem blk2 {w : World} {b : Nat} {x y : Value} {T : TypeId} (h : Blk w b #[x, y] T) : w.cell? ⟨b, 0, none⟩ = some x ∧ w.cell? ⟨b, 1, none⟩ = some y ∧ w.frozen? ⟨b, 0, none⟩ = false ∧ w.frozen? ⟨b, 1, none⟩ = false :=
  ⟨by rw [h.cell]; rfl, by rw [h.cell]; rfl, h.froz 0, h.froz 1⟩
/-- What part tells. -/
def PtR (l : List UInt8) (r : Option (Prt × List UInt8)) (w : World) (e : Ending) (w' : World) : Prop :=
  (match r with
    | none => ∃ (i : Int), e = .returned (.tuple #[.agg #[.string ⟨#[]⟩, .string ⟨#[]⟩], .int .i64 i, .bool false])
    | some q => e = .returned (.tuple #[.agg #[.string (str q.1.1), .string (str q.1.2)], .int .i64 ((l.length - q.2.length : Nat) : Int), .bool true])) ∧ Below w.heap.size w w'
theorem pt_no {l : List UInt8} {r : Option (Prt × List UInt8)} {w w' : World} {i : Int} (h : r = none) (hb : Below w.heap.size w w') : PtR l r w (.returned (.tuple #[.agg #[.string ⟨#[]⟩, .string ⟨#[]⟩], .int .i64 i, .bool false])) w' := by
  subst h; exact ⟨⟨i, rfl⟩, hb⟩
theorem pt_yes {l : List UInt8} {r : Option (Prt × List UInt8)} {w w' : World} {x y R : List UInt8} {i : Int} (h : r = some ((x, y), R)) (hi : i = ((l.length - R.length : Nat) : Int)) (hb : Below w.heap.size w w') : PtR l r w (.returned (.tuple #[.agg #[.string (str x), .string (str y)], .int .i64 i, .bool true])) w' := by
  subst h; subst hi; exact ⟨rfl, hb⟩
theorem ltr_int (c : UInt8) : ltr c = (decide (97 ≤ (c.toNat : Int)) && decide ((c.toNat : Int) ≤ 122)) := by
  have : ∀ c : Fin 256, ltr (UInt8.ofNat c) = (decide ((97 : Int) ≤ (c.val : Int)) && decide ((c.val : Int) ≤ 122)) := by decide +kernel
  have k := this ⟨c.toNat, c.toNat_lt⟩
  simpa using k
set_option maxRecDepth 100000 in
set_option maxHeartbeats 8000000 in
theorem part_any (l : List UInt8) (a : Nat) (w : World) (hs : l.length ≤ 100000) (ha : a ≤ l.length) : Calls Tryz.prog 93 #[.string (str l), .int .i64 (a : Int)] w fun e w' => PtR l (prt (l.drop a)) w e w' := by
  have HBL : Hid (∀ (a : Nat) (w : World), a ≤ l.length → Calls Tryz.prog 125 #[.string (str l), .int .i64 (a : Int)] w fun e w' => e = .returned (.int .i64 (endW wht l a : Int)) ∧ w' = w) := Lib.hid fun a w h => blank_str l a w (by unfold maxLen; omega) h
  have HSL : Hid (∀ (x y : Nat), x ≤ y → y ≤ l.length → ∀ w0 : World, (Instr.slice 9 (.string (str l)) (some (.int .i64 (x : Int))) (some (.int .i64 (y : Int))) none).run Tryz.prog w0 = .ok (.string (str ((l.drop x).take (y - x)))) w0) := Lib.hid fun x y h1 h2 w0 => slice_law (str l) x y h1 (by rw [str_size]; exact h2) (str_list l) rfl w0
  have hb0 := buildP0
  obtain ⟨k, hk⟩ : ∃ k, endW wht l a = k := ⟨_, rfl⟩
  obtain ⟨t, ht⟩ : ∃ t, endW ltr l k = t := ⟨_, rfl⟩
  obtain ⟨e, he⟩ : ∃ e, endW wht l t = e := ⟨_, rfl⟩
  obtain ⟨v, hv⟩ : ∃ v, endW wht l (e + 1) = v := ⟨_, rfl⟩
  have gk0 : a ≤ k := by rw [← hk]; exact endW_ge _ _ _
  have gk1 : k ≤ l.length := by rw [← hk]; exact endW_le ha
  have gt0 : k ≤ t := by rw [← ht]; exact endW_ge _ _ _
  have gt1 : t ≤ l.length := by rw [← ht]; exact endW_le gk1
  have ge0 : t ≤ e := by rw [← he]; exact endW_ge _ _ _
  have ge1 : e ≤ l.length := by rw [← he]; exact endW_le gt1
  have gv0 : e + 1 ≤ v := by rw [← hv]; exact endW_ge _ _ _
  have gv1 : e < l.length → v ≤ l.length := fun h => by rw [← hv]; exact endW_le h
  have HP := Lib.hid (prt_idx hk ht he hv)
  have HTK := Lib.hid ht
  have HBa : Hid (∀ w, Calls Tryz.prog 125 #[.string (str l), .int .i64 (a : Int)] w fun e w' => e = .returned (.int .i64 (k : Int)) ∧ w' = w) := Lib.hid fun w => by rw [← hk]; exact HBL.out a w ha
  have HBt : Hid (∀ w, Calls Tryz.prog 125 #[.string (str l), .int .i64 (t : Int)] w fun e' w' => e' = .returned (.int .i64 (e : Int)) ∧ w' = w) := Lib.hid fun w => by rw [← he]; exact HBL.out t w gt1
  have HBe : Hid (e < l.length → ∀ w, Calls Tryz.prog 125 #[.string (str l), .int .i64 ((e : Int) + 1)] w fun e' w' => e' = .returned (.int .i64 (v : Int)) ∧ w' = w) := Lib.hid fun h w => by rw [← hv]; exact HBL.out (e + 1) w h
  clear hk ht he hv HBL
  obtain ⟨r, hr⟩ : ∃ r, prt (l.drop a) = r := ⟨_, rfl⟩
  rw [hr] at HP ⊢
  clear hr
  obtain ⟨s, hs'⟩ : ∃ s, str l = s := ⟨_, rfl⟩
  have hsz : s.size = l.length := by rw [← hs', str_size]
  have HEL : Hid (∀ (i : Nat) (h : i < s.size) (h' : i < l.length), l[i] = s[i]) := Lib.hid fun i h h' => by
    subst hs'; rfl
  rw [hs'] at HBa HBt HBe HSL ⊢
  have HSZ := Lib.hid hsz
  have hs6 : s.size ≤ 100000 := by omega
  rw [← hsz] at ha gk1 gt1 ge1 gv1
  have HBe2 : Hid (e < s.size → ∀ w, Calls Tryz.prog 125 #[.string s, .int .i64 ((e : Int) + 1)] w fun e' w' => e' = .returned (.int .i64 (v : Int)) ∧ w' = w) := Lib.hid fun h => HBe.out (by omega)
  have hk0 := Lib.hid (Blk.new w #[.string ⟨#[]⟩, .string ⟨#[]⟩] 98)
  have HB0 : Hid (Below w.heap.size w (w.alloc (.cells #[.string ⟨#[]⟩, .string ⟨#[]⟩] 98))) := Lib.hid ((Below.refl _ w).alloc (Nat.le_refl _) _)
  have hcells := blk2 hk0.out
  obtain ⟨c0, c1, f0, f1⟩ := hcells
  clear hs' hsz hs HBe
  by_cases hA : k = a
  · have HN := Lib.hid (HP.out.trans (if_pos (.inl hA)))
    have dA : ((k : Int) == (a : Int)) = true := by simp; omega
    clear hA HP HBe2 HSL gv1
    go_enter Tryz.func93, Tryz.ntmps93
    go_wp2_with (go_at_call 125; refine (HBa.out _).mono ?_; rintro _ w9 ⟨rfl, hw9⟩; subst w9; clear HBa)
    go_loopg [8] (s.size + 1) (fun g q wr => ∃ (i : Nat), i + g = s.size + 1 + k ∧ w.alloc (.cells #[.string ⟨#[]⟩, .string ⟨#[]⟩] 98) = wr ∧ q = .int .i64 i ∧ k ≤ i ∧ i ≤ s.size ∧ Hid (endW ltr l i = t))
    case atStart => exact ⟨k, by omega, rfl, rfl, Nat.le_refl _, gk1, HTK⟩
    case round =>
      obtain ⟨i, hkg, hw, rfl, hi5, hi7, HE⟩ := hrel
      subst hw
      by_cases hgo : i < s.size ∧ (97 ≤ (s[i]!.toNat : Int) ∧ (s[i]!.toNat : Int) ≤ 122)
      · obtain ⟨hlt, h97, h122⟩ := hgo
        rw [getElem!_pos s i hlt] at h97 h122
        have hil : i < l.length := by have := HSZ.out; omega
        have e1 := HEL.out i hlt hil
        have hj0 : (0 : Int) ≤ (i : Int) := by omega
        have hj3 : (i : Int) < (s.size : Int) := by omega
        have d1 : decide (97 ≤ (s[i].toNat : Int)) = true := by simpa using h97
        have d2 : decide ((s[i].toNat : Int) ≤ 122) = true := by simpa using h122
        have HE2 := Lib.hid ((endW_go (p := ltr) hil (by rw [e1, ltr_int, d1, d2]; rfl)).symm.trans HE.out)
        clear h97 h122 e1 HE
        go_wp2_with fail
        go_roundg (gk - 1)
        case measure => omega
        case rel => exact ⟨i + 1, by omega, rfl, by go_num, by omega, by omega, HE2⟩
      · have hti : t = i := by
          rw [← HE.out]
          by_cases hlt : i < s.size
          · have hil : i < l.length := by have := HSZ.out; omega
            refine endW_stop hil ?_
            rw [HEL.out i hlt hil, ltr_int]
            by_cases h97 : 97 ≤ (s[i].toNat : Int)
            · have h122 : ¬ (s[i].toNat : Int) ≤ 122 := fun h => hgo ⟨hlt, by rw [getElem!_pos s i hlt]; exact ⟨h97, h⟩⟩
              simp [h122]
            · simp [h97]
          · exact endW_out (by have := HSZ.out; omega)
        subst hti
        clear HE HTK
        have hex : (¬ t < s.size) ∨ (∃ h : t < s.size, ¬ 97 ≤ (s[t].toNat : Int)) ∨ (∃ h : t < s.size, 97 ≤ (s[t].toNat : Int) ∧ ¬ (s[t].toNat : Int) ≤ 122) := by
          by_cases hlt : t < s.size
          · right
            rw [getElem!_pos s t hlt] at hgo
            by_cases h97 : 97 ≤ (s[t].toNat : Int)
            · exact .inr ⟨hlt, h97, fun h => hgo ⟨hlt, h97, h⟩⟩
            · exact .inl ⟨hlt, h97⟩
          · exact .inl hlt
        clear hgo
        have hj0 : (0 : Int) ≤ (t : Int) := by omega
        rcases hex with hx | ⟨hx, hy⟩ | ⟨hx, hy, hz⟩
        · have hnx : ¬ (t : Int) < (s.size : Int) := by omega
          go_wp2_with (go_at_call 125; refine (HBt.out _).mono ?_; rintro _ w9 ⟨rfl, hw9⟩; subst w9; clear HBt)
          refine bodyPost_ret (v := .tuple #[.agg #[.string ⟨#[]⟩, .string ⟨#[]⟩], .int .i64 (a : Int), .bool false]) ?_ rfl (pt_no HN.out HB0.out)
          rw [results_cell_tmp2 (p := 4) (u := 5) (v := 6) (ty := 98) rfl]
          have hl := loadP hk0.out
          simp [asAddr, hl]
        · have hj3 : (t : Int) < (s.size : Int) := by omega
          have dy : decide (97 ≤ (s[t].toNat : Int)) = false := by simpa using hy
          clear hy
          go_wp2_with (go_at_call 125; refine (HBt.out _).mono ?_; rintro _ w9 ⟨rfl, hw9⟩; subst w9; clear HBt)
          refine bodyPost_ret (v := .tuple #[.agg #[.string ⟨#[]⟩, .string ⟨#[]⟩], .int .i64 (a : Int), .bool false]) ?_ rfl (pt_no HN.out HB0.out)
          rw [results_cell_tmp2 (p := 4) (u := 5) (v := 6) (ty := 98) rfl]
          have hl := loadP hk0.out
          simp [asAddr, hl]
        · have hj3 : (t : Int) < (s.size : Int) := by omega
          have dy : decide (97 ≤ (s[t].toNat : Int)) = true := by simpa using hy
          have dz : decide ((s[t].toNat : Int) ≤ 122) = false := by simpa using hz
          clear hy hz
          go_wp2_with (go_at_call 125; refine (HBt.out _).mono ?_; rintro _ w9 ⟨rfl, hw9⟩; subst w9; clear HBt)
          refine bodyPost_ret (v := .tuple #[.agg #[.string ⟨#[]⟩, .string ⟨#[]⟩], .int .i64 (a : Int), .bool false]) ?_ rfl (pt_no HN.out HB0.out)
          rw [results_cell_tmp2 (p := 4) (u := 5) (v := 6) (ty := 98) rfl]
          have hl := loadP hk0.out
          simp [asAddr, hl]
  have dA : ((k : Int) == (a : Int)) = false := by simp; omega
  by_cases hB : t = k
  · have HN := Lib.hid (HP.out.trans (if_pos (.inr hB)))
    have dB : ((t : Int) == (k : Int)) = true := by simp; omega
    clear hA hB HP HBe2 HSL gv1
    go_enter Tryz.func93, Tryz.ntmps93
    go_wp2_with (go_at_call 125; refine (HBa.out _).mono ?_; rintro _ w9 ⟨rfl, hw9⟩; subst w9; clear HBa)
    go_loopg [8] (s.size + 1) (fun g q wr => ∃ (i : Nat), i + g = s.size + 1 + k ∧ w.alloc (.cells #[.string ⟨#[]⟩, .string ⟨#[]⟩] 98) = wr ∧ q = .int .i64 i ∧ k ≤ i ∧ i ≤ s.size ∧ Hid (endW ltr l i = t))
    case atStart => exact ⟨k, by omega, rfl, rfl, Nat.le_refl _, gk1, HTK⟩
    case round =>
      obtain ⟨i, hkg, hw, rfl, hi5, hi7, HE⟩ := hrel
      subst hw
      by_cases hgo : i < s.size ∧ (97 ≤ (s[i]!.toNat : Int) ∧ (s[i]!.toNat : Int) ≤ 122)
      · obtain ⟨hlt, h97, h122⟩ := hgo
        rw [getElem!_pos s i hlt] at h97 h122
        have hil : i < l.length := by have := HSZ.out; omega
        have e1 := HEL.out i hlt hil
        have hj0 : (0 : Int) ≤ (i : Int) := by omega
        have hj3 : (i : Int) < (s.size : Int) := by omega
        have d1 : decide (97 ≤ (s[i].toNat : Int)) = true := by simpa using h97
        have d2 : decide ((s[i].toNat : Int) ≤ 122) = true := by simpa using h122
        have HE2 := Lib.hid ((endW_go (p := ltr) hil (by rw [e1, ltr_int, d1, d2]; rfl)).symm.trans HE.out)
        clear h97 h122 e1 HE
        go_wp2_with fail
        go_roundg (gk - 1)
        case measure => omega
        case rel => exact ⟨i + 1, by omega, rfl, by go_num, by omega, by omega, HE2⟩
      · have hti : t = i := by
          rw [← HE.out]
          by_cases hlt : i < s.size
          · have hil : i < l.length := by have := HSZ.out; omega
            refine endW_stop hil ?_
            rw [HEL.out i hlt hil, ltr_int]
            by_cases h97 : 97 ≤ (s[i].toNat : Int)
            · have h122 : ¬ (s[i].toNat : Int) ≤ 122 := fun h => hgo ⟨hlt, by rw [getElem!_pos s i hlt]; exact ⟨h97, h⟩⟩
              simp [h122]
            · simp [h97]
          · exact endW_out (by have := HSZ.out; omega)
        subst hti
        clear HE HTK
        have hex : (¬ t < s.size) ∨ (∃ h : t < s.size, ¬ 97 ≤ (s[t].toNat : Int)) ∨ (∃ h : t < s.size, 97 ≤ (s[t].toNat : Int) ∧ ¬ (s[t].toNat : Int) ≤ 122) := by
          by_cases hlt : t < s.size
          · right
            rw [getElem!_pos s t hlt] at hgo
            by_cases h97 : 97 ≤ (s[t].toNat : Int)
            · exact .inr ⟨hlt, h97, fun h => hgo ⟨hlt, h97, h⟩⟩
            · exact .inl ⟨hlt, h97⟩
          · exact .inl hlt
        clear hgo
        have hj0 : (0 : Int) ≤ (t : Int) := by omega
        rcases hex with hx | ⟨hx, hy⟩ | ⟨hx, hy, hz⟩
        · have hnx : ¬ (t : Int) < (s.size : Int) := by omega
          go_wp2_with (go_at_call 125; refine (HBt.out _).mono ?_; rintro _ w9 ⟨rfl, hw9⟩; subst w9; clear HBt)
          refine bodyPost_ret (v := .tuple #[.agg #[.string ⟨#[]⟩, .string ⟨#[]⟩], .int .i64 (a : Int), .bool false]) ?_ rfl (pt_no HN.out HB0.out)
          rw [results_cell_tmp2 (p := 4) (u := 5) (v := 6) (ty := 98) rfl]
          have hl := loadP hk0.out
          simp [asAddr, hl]
        · have hj3 : (t : Int) < (s.size : Int) := by omega
          have dy : decide (97 ≤ (s[t].toNat : Int)) = false := by simpa using hy
          clear hy
          go_wp2_with (go_at_call 125; refine (HBt.out _).mono ?_; rintro _ w9 ⟨rfl, hw9⟩; subst w9; clear HBt)
          refine bodyPost_ret (v := .tuple #[.agg #[.string ⟨#[]⟩, .string ⟨#[]⟩], .int .i64 (a : Int), .bool false]) ?_ rfl (pt_no HN.out HB0.out)
          rw [results_cell_tmp2 (p := 4) (u := 5) (v := 6) (ty := 98) rfl]
          have hl := loadP hk0.out
          simp [asAddr, hl]
        · have hj3 : (t : Int) < (s.size : Int) := by omega
          have dy : decide (97 ≤ (s[t].toNat : Int)) = true := by simpa using hy
          have dz : decide ((s[t].toNat : Int) ≤ 122) = false := by simpa using hz
          clear hy hz
          go_wp2_with (go_at_call 125; refine (HBt.out _).mono ?_; rintro _ w9 ⟨rfl, hw9⟩; subst w9; clear HBt)
          refine bodyPost_ret (v := .tuple #[.agg #[.string ⟨#[]⟩, .string ⟨#[]⟩], .int .i64 (a : Int), .bool false]) ?_ rfl (pt_no HN.out HB0.out)
          rw [results_cell_tmp2 (p := 4) (u := 5) (v := 6) (ty := 98) rfl]
          have hl := loadP hk0.out
          simp [asAddr, hl]
  have dB : ((t : Int) == (k : Int)) = false := by simp; omega
  have HP2 := Lib.hid (HP.out.trans (if_neg (fun h => h.elim hA hB)))
  clear HP hA hB
  by_cases hC : s.size ≤ e
  · have HN := Lib.hid (HP2.out.trans (if_neg (by rw [List.getElem?_eq_none (by have := HSZ.out; omega)]; simp)))
    have dC : decide ((s.size : Int) ≤ (e : Int)) = true := by simpa using hC
    clear HP2 HBe2 HSL gv1
    go_enter Tryz.func93, Tryz.ntmps93
    go_wp2_with (go_at_call 125; refine (HBa.out _).mono ?_; rintro _ w9 ⟨rfl, hw9⟩; subst w9; clear HBa)
    go_loopg [8] (s.size + 1) (fun g q wr => ∃ (i : Nat), i + g = s.size + 1 + k ∧ w.alloc (.cells #[.string ⟨#[]⟩, .string ⟨#[]⟩] 98) = wr ∧ q = .int .i64 i ∧ k ≤ i ∧ i ≤ s.size ∧ Hid (endW ltr l i = t))
    case atStart => exact ⟨k, by omega, rfl, rfl, Nat.le_refl _, gk1, HTK⟩
    case round =>
      obtain ⟨i, hkg, hw, rfl, hi5, hi7, HE⟩ := hrel
      subst hw
      by_cases hgo : i < s.size ∧ (97 ≤ (s[i]!.toNat : Int) ∧ (s[i]!.toNat : Int) ≤ 122)
      · obtain ⟨hlt, h97, h122⟩ := hgo
        rw [getElem!_pos s i hlt] at h97 h122
        have hil : i < l.length := by have := HSZ.out; omega
        have e1 := HEL.out i hlt hil
        have hj0 : (0 : Int) ≤ (i : Int) := by omega
        have hj3 : (i : Int) < (s.size : Int) := by omega
        have d1 : decide (97 ≤ (s[i].toNat : Int)) = true := by simpa using h97
        have d2 : decide ((s[i].toNat : Int) ≤ 122) = true := by simpa using h122
        have HE2 := Lib.hid ((endW_go (p := ltr) hil (by rw [e1, ltr_int, d1, d2]; rfl)).symm.trans HE.out)
        clear h97 h122 e1 HE
        go_wp2_with fail
        go_roundg (gk - 1)
        case measure => omega
        case rel => exact ⟨i + 1, by omega, rfl, by go_num, by omega, by omega, HE2⟩
      · have hti : t = i := by
          rw [← HE.out]
          by_cases hlt : i < s.size
          · have hil : i < l.length := by have := HSZ.out; omega
            refine endW_stop hil ?_
            rw [HEL.out i hlt hil, ltr_int]
            by_cases h97 : 97 ≤ (s[i].toNat : Int)
            · have h122 : ¬ (s[i].toNat : Int) ≤ 122 := fun h => hgo ⟨hlt, by rw [getElem!_pos s i hlt]; exact ⟨h97, h⟩⟩
              simp [h122]
            · simp [h97]
          · exact endW_out (by have := HSZ.out; omega)
        subst hti
        clear HE HTK
        have hex : (¬ t < s.size) ∨ (∃ h : t < s.size, ¬ 97 ≤ (s[t].toNat : Int)) ∨ (∃ h : t < s.size, 97 ≤ (s[t].toNat : Int) ∧ ¬ (s[t].toNat : Int) ≤ 122) := by
          by_cases hlt : t < s.size
          · right
            rw [getElem!_pos s t hlt] at hgo
            by_cases h97 : 97 ≤ (s[t].toNat : Int)
            · exact .inr ⟨hlt, h97, fun h => hgo ⟨hlt, h97, h⟩⟩
            · exact .inl ⟨hlt, h97⟩
          · exact .inl hlt
        clear hgo
        have hj0 : (0 : Int) ≤ (t : Int) := by omega
        rcases hex with hx | ⟨hx, hy⟩ | ⟨hx, hy, hz⟩
        · have hnx : ¬ (t : Int) < (s.size : Int) := by omega
          go_wp2_with (go_at_call 125; refine (HBt.out _).mono ?_; rintro _ w9 ⟨rfl, hw9⟩; subst w9; clear HBt)
          refine bodyPost_ret (v := .tuple #[.agg #[.string ⟨#[]⟩, .string ⟨#[]⟩], .int .i64 (a : Int), .bool false]) ?_ rfl (pt_no HN.out HB0.out)
          rw [results_cell_tmp2 (p := 4) (u := 5) (v := 6) (ty := 98) rfl]
          have hl := loadP hk0.out
          simp [asAddr, hl]
        · have hj3 : (t : Int) < (s.size : Int) := by omega
          have dy : decide (97 ≤ (s[t].toNat : Int)) = false := by simpa using hy
          clear hy
          go_wp2_with (go_at_call 125; refine (HBt.out _).mono ?_; rintro _ w9 ⟨rfl, hw9⟩; subst w9; clear HBt)
          refine bodyPost_ret (v := .tuple #[.agg #[.string ⟨#[]⟩, .string ⟨#[]⟩], .int .i64 (a : Int), .bool false]) ?_ rfl (pt_no HN.out HB0.out)
          rw [results_cell_tmp2 (p := 4) (u := 5) (v := 6) (ty := 98) rfl]
          have hl := loadP hk0.out
          simp [asAddr, hl]
        · have hj3 : (t : Int) < (s.size : Int) := by omega
          have dy : decide (97 ≤ (s[t].toNat : Int)) = true := by simpa using hy
          have dz : decide ((s[t].toNat : Int) ≤ 122) = false := by simpa using hz
          clear hy hz
          go_wp2_with (go_at_call 125; refine (HBt.out _).mono ?_; rintro _ w9 ⟨rfl, hw9⟩; subst w9; clear HBt)
          refine bodyPost_ret (v := .tuple #[.agg #[.string ⟨#[]⟩, .string ⟨#[]⟩], .int .i64 (a : Int), .bool false]) ?_ rfl (pt_no HN.out HB0.out)
          rw [results_cell_tmp2 (p := 4) (u := 5) (v := 6) (ty := 98) rfl]
          have hl := loadP hk0.out
          simp [asAddr, hl]
  have dC : decide ((s.size : Int) ≤ (e : Int)) = false := by simp; omega
  have hel : e < s.size := by omega
  have hell : e < l.length := by have := HSZ.out; omega
  have he0 : (0 : Int) ≤ (e : Int) := by omega
  have he3 : (e : Int) < (s.size : Int) := by omega
  have HEe := HEL.out e hel hell
  by_cases hD : ¬ s[e] = 61
  · have HN := Lib.hid (HP2.out.trans (if_neg (by rw [List.getElem?_eq_getElem hell, HEe]; exact fun h => hD (Option.some.inj h))))
    have dD : ((s[e].toNat : Int) != 61) = true := by
      have : ¬ (s[e].toNat : Int) = 61 := fun h => hD (u8_lit.1 h)
      simpa using this
    clear HP2 HBe2 HSL gv1 hD HEe
    go_enter Tryz.func93, Tryz.ntmps93
    go_wp2_with (go_at_call 125; refine (HBa.out _).mono ?_; rintro _ w9 ⟨rfl, hw9⟩; subst w9; clear HBa)
    go_loopg [8] (s.size + 1) (fun g q wr => ∃ (i : Nat), i + g = s.size + 1 + k ∧ w.alloc (.cells #[.string ⟨#[]⟩, .string ⟨#[]⟩] 98) = wr ∧ q = .int .i64 i ∧ k ≤ i ∧ i ≤ s.size ∧ Hid (endW ltr l i = t))
    case atStart => exact ⟨k, by omega, rfl, rfl, Nat.le_refl _, gk1, HTK⟩
    case round =>
      obtain ⟨i, hkg, hw, rfl, hi5, hi7, HE⟩ := hrel
      subst hw
      by_cases hgo : i < s.size ∧ (97 ≤ (s[i]!.toNat : Int) ∧ (s[i]!.toNat : Int) ≤ 122)
      · obtain ⟨hlt, h97, h122⟩ := hgo
        rw [getElem!_pos s i hlt] at h97 h122
        have hil : i < l.length := by have := HSZ.out; omega
        have e1 := HEL.out i hlt hil
        have hj0 : (0 : Int) ≤ (i : Int) := by omega
        have hj3 : (i : Int) < (s.size : Int) := by omega
        have d1 : decide (97 ≤ (s[i].toNat : Int)) = true := by simpa using h97
        have d2 : decide ((s[i].toNat : Int) ≤ 122) = true := by simpa using h122
        have HE2 := Lib.hid ((endW_go (p := ltr) hil (by rw [e1, ltr_int, d1, d2]; rfl)).symm.trans HE.out)
        clear h97 h122 e1 HE
        go_wp2_with fail
        go_roundg (gk - 1)
        case measure => omega
        case rel => exact ⟨i + 1, by omega, rfl, by go_num, by omega, by omega, HE2⟩
      · have hti : t = i := by
          rw [← HE.out]
          by_cases hlt : i < s.size
          · have hil : i < l.length := by have := HSZ.out; omega
            refine endW_stop hil ?_
            rw [HEL.out i hlt hil, ltr_int]
            by_cases h97 : 97 ≤ (s[i].toNat : Int)
            · have h122 : ¬ (s[i].toNat : Int) ≤ 122 := fun h => hgo ⟨hlt, by rw [getElem!_pos s i hlt]; exact ⟨h97, h⟩⟩
              simp [h122]
            · simp [h97]
          · exact endW_out (by have := HSZ.out; omega)
        subst hti
        clear HE HTK
        have hex : (¬ t < s.size) ∨ (∃ h : t < s.size, ¬ 97 ≤ (s[t].toNat : Int)) ∨ (∃ h : t < s.size, 97 ≤ (s[t].toNat : Int) ∧ ¬ (s[t].toNat : Int) ≤ 122) := by
          by_cases hlt : t < s.size
          · right
            rw [getElem!_pos s t hlt] at hgo
            by_cases h97 : 97 ≤ (s[t].toNat : Int)
            · exact .inr ⟨hlt, h97, fun h => hgo ⟨hlt, h97, h⟩⟩
            · exact .inl ⟨hlt, h97⟩
          · exact .inl hlt
        clear hgo
        have hj0 : (0 : Int) ≤ (t : Int) := by omega
        rcases hex with hx | ⟨hx, hy⟩ | ⟨hx, hy, hz⟩
        · exfalso; omega
        · have hj3 : (t : Int) < (s.size : Int) := by omega
          have dy : decide (97 ≤ (s[t].toNat : Int)) = false := by simpa using hy
          clear hy
          go_wp2_with (go_at_call 125; refine (HBt.out _).mono ?_; rintro _ w9 ⟨rfl, hw9⟩; subst w9; clear HBt)
          refine bodyPost_ret (v := .tuple #[.agg #[.string ⟨#[]⟩, .string ⟨#[]⟩], .int .i64 (a : Int), .bool false]) ?_ rfl (pt_no HN.out HB0.out)
          rw [results_cell_tmp2 (p := 4) (u := 5) (v := 6) (ty := 98) rfl]
          have hl := loadP hk0.out
          simp [asAddr, hl]
        · have hj3 : (t : Int) < (s.size : Int) := by omega
          have dy : decide (97 ≤ (s[t].toNat : Int)) = true := by simpa using hy
          have dz : decide ((s[t].toNat : Int) ≤ 122) = false := by simpa using hz
          clear hy hz
          go_wp2_with (go_at_call 125; refine (HBt.out _).mono ?_; rintro _ w9 ⟨rfl, hw9⟩; subst w9; clear HBt)
          refine bodyPost_ret (v := .tuple #[.agg #[.string ⟨#[]⟩, .string ⟨#[]⟩], .int .i64 (a : Int), .bool false]) ?_ rfl (pt_no HN.out HB0.out)
          rw [results_cell_tmp2 (p := 4) (u := 5) (v := 6) (ty := 98) rfl]
          have hl := loadP hk0.out
          simp [asAddr, hl]
  have hD : s[e] = 61 := Classical.not_not.1 hD
  have dD : ((s[e].toNat : Int) != 61) = false := by rw [hD]; decide
  have HP3 := Lib.hid (HP2.out.trans (if_pos (by rw [List.getElem?_eq_getElem hell, HEe, hD])))
  have HBv := Lib.hid (HBe2.out hel)
  have hv1 := gv1 hel
  clear HP2 HBe2 gv1 hD HEe
  by_cases hE : s.size ≤ v
  · have HN := Lib.hid (HP3.out.trans (qvl_out (by have := HSZ.out; omega)))
    have dE : decide ((s.size : Int) ≤ (v : Int)) = true := by simpa using hE
    clear HP3 HSL
    go_enter Tryz.func93, Tryz.ntmps93
    go_wp2_with (go_at_call 125; refine (HBa.out _).mono ?_; rintro _ w9 ⟨rfl, hw9⟩; subst w9; clear HBa)
    go_loopg [8] (s.size + 1) (fun g q wr => ∃ (i : Nat), i + g = s.size + 1 + k ∧ w.alloc (.cells #[.string ⟨#[]⟩, .string ⟨#[]⟩] 98) = wr ∧ q = .int .i64 i ∧ k ≤ i ∧ i ≤ s.size ∧ Hid (endW ltr l i = t))
    case atStart => exact ⟨k, by omega, rfl, rfl, Nat.le_refl _, gk1, HTK⟩
    case round =>
      obtain ⟨i, hkg, hw, rfl, hi5, hi7, HE⟩ := hrel
      subst hw
      by_cases hgo : i < s.size ∧ (97 ≤ (s[i]!.toNat : Int) ∧ (s[i]!.toNat : Int) ≤ 122)
      · obtain ⟨hlt, h97, h122⟩ := hgo
        rw [getElem!_pos s i hlt] at h97 h122
        have hil : i < l.length := by have := HSZ.out; omega
        have e1 := HEL.out i hlt hil
        have hj0 : (0 : Int) ≤ (i : Int) := by omega
        have hj3 : (i : Int) < (s.size : Int) := by omega
        have d1 : decide (97 ≤ (s[i].toNat : Int)) = true := by simpa using h97
        have d2 : decide ((s[i].toNat : Int) ≤ 122) = true := by simpa using h122
        have HE2 := Lib.hid ((endW_go (p := ltr) hil (by rw [e1, ltr_int, d1, d2]; rfl)).symm.trans HE.out)
        clear h97 h122 e1 HE
        go_wp2_with fail
        go_roundg (gk - 1)
        case measure => omega
        case rel => exact ⟨i + 1, by omega, rfl, by go_num, by omega, by omega, HE2⟩
      · have hti : t = i := by
          rw [← HE.out]
          by_cases hlt : i < s.size
          · have hil : i < l.length := by have := HSZ.out; omega
            refine endW_stop hil ?_
            rw [HEL.out i hlt hil, ltr_int]
            by_cases h97 : 97 ≤ (s[i].toNat : Int)
            · have h122 : ¬ (s[i].toNat : Int) ≤ 122 := fun h => hgo ⟨hlt, by rw [getElem!_pos s i hlt]; exact ⟨h97, h⟩⟩
              simp [h122]
            · simp [h97]
          · exact endW_out (by have := HSZ.out; omega)
        subst hti
        clear HE HTK
        have hex : (¬ t < s.size) ∨ (∃ h : t < s.size, ¬ 97 ≤ (s[t].toNat : Int)) ∨ (∃ h : t < s.size, 97 ≤ (s[t].toNat : Int) ∧ ¬ (s[t].toNat : Int) ≤ 122) := by
          by_cases hlt : t < s.size
          · right
            rw [getElem!_pos s t hlt] at hgo
            by_cases h97 : 97 ≤ (s[t].toNat : Int)
            · exact .inr ⟨hlt, h97, fun h => hgo ⟨hlt, h97, h⟩⟩
            · exact .inl ⟨hlt, h97⟩
          · exact .inl hlt
        clear hgo
        have hj0 : (0 : Int) ≤ (t : Int) := by omega
        rcases hex with hx | ⟨hx, hy⟩ | ⟨hx, hy, hz⟩
        · exfalso; omega
        · have hj3 : (t : Int) < (s.size : Int) := by omega
          have dy : decide (97 ≤ (s[t].toNat : Int)) = false := by simpa using hy
          clear hy
          go_wp2_with (first | (go_at_call 125; refine (HBt.out _).mono ?_; rintro _ w9 ⟨rfl, hw9⟩; subst w9; clear HBt) | (go_at_call 125; refine (HBv.out _).mono ?_; rintro _ w9 ⟨rfl, hw9⟩; subst w9; clear HBv))
          refine bodyPost_ret (v := .tuple #[.agg #[.string ⟨#[]⟩, .string ⟨#[]⟩], .int .i64 (a : Int), .bool false]) ?_ rfl (pt_no HN.out HB0.out)
          rw [results_cell_tmp2 (p := 4) (u := 5) (v := 6) (ty := 98) rfl]
          have hl := loadP hk0.out
          simp [asAddr, hl]
        · have hj3 : (t : Int) < (s.size : Int) := by omega
          have dy : decide (97 ≤ (s[t].toNat : Int)) = true := by simpa using hy
          have dz : decide ((s[t].toNat : Int) ≤ 122) = false := by simpa using hz
          clear hy hz
          go_wp2_with (first | (go_at_call 125; refine (HBt.out _).mono ?_; rintro _ w9 ⟨rfl, hw9⟩; subst w9; clear HBt) | (go_at_call 125; refine (HBv.out _).mono ?_; rintro _ w9 ⟨rfl, hw9⟩; subst w9; clear HBv))
          refine bodyPost_ret (v := .tuple #[.agg #[.string ⟨#[]⟩, .string ⟨#[]⟩], .int .i64 (a : Int), .bool false]) ?_ rfl (pt_no HN.out HB0.out)
          rw [results_cell_tmp2 (p := 4) (u := 5) (v := 6) (ty := 98) rfl]
          have hl := loadP hk0.out
          simp [asAddr, hl]
  have dE : decide ((s.size : Int) ≤ (v : Int)) = false := by simp; omega
  have hvl : v < s.size := by omega
  have hvll : v < l.length := by have := HSZ.out; omega
  have hv0 : (0 : Int) ≤ (v : Int) := by omega
  have hv3 : (v : Int) < (s.size : Int) := by omega
  have HEv := HEL.out v hvl hvll
  by_cases hF : ¬ (s[v] = 34 ∨ s[v] = 39)
  · have HN := Lib.hid (HP3.out.trans (qvl_bad hvll (by rw [HEv]; exact fun h => hF (.inl h)) (by rw [HEv]; exact fun h => hF (.inr h))))
    have dF : ((s[v].toNat : Int) != 34) = true := by
      have : ¬ (s[v].toNat : Int) = 34 := fun h => hF (.inl (u8_lit.1 h))
      simpa using this
    have dG : ((s[v].toNat : Int) != 39) = true := by
      have : ¬ (s[v].toNat : Int) = 39 := fun h => hF (.inr (u8_lit.1 h))
      simpa using this
    clear HP3 HSL hF HEv
    go_enter Tryz.func93, Tryz.ntmps93
    go_wp2_with (go_at_call 125; refine (HBa.out _).mono ?_; rintro _ w9 ⟨rfl, hw9⟩; subst w9; clear HBa)
    go_loopg [8] (s.size + 1) (fun g q wr => ∃ (i : Nat), i + g = s.size + 1 + k ∧ w.alloc (.cells #[.string ⟨#[]⟩, .string ⟨#[]⟩] 98) = wr ∧ q = .int .i64 i ∧ k ≤ i ∧ i ≤ s.size ∧ Hid (endW ltr l i = t))
    case atStart => exact ⟨k, by omega, rfl, rfl, Nat.le_refl _, gk1, HTK⟩
    case round =>
      obtain ⟨i, hkg, hw, rfl, hi5, hi7, HE⟩ := hrel
      subst hw
      by_cases hgo : i < s.size ∧ (97 ≤ (s[i]!.toNat : Int) ∧ (s[i]!.toNat : Int) ≤ 122)
      · obtain ⟨hlt, h97, h122⟩ := hgo
        rw [getElem!_pos s i hlt] at h97 h122
        have hil : i < l.length := by have := HSZ.out; omega
        have e1 := HEL.out i hlt hil
        have hj0 : (0 : Int) ≤ (i : Int) := by omega
        have hj3 : (i : Int) < (s.size : Int) := by omega
        have d1 : decide (97 ≤ (s[i].toNat : Int)) = true := by simpa using h97
        have d2 : decide ((s[i].toNat : Int) ≤ 122) = true := by simpa using h122
        have HE2 := Lib.hid ((endW_go (p := ltr) hil (by rw [e1, ltr_int, d1, d2]; rfl)).symm.trans HE.out)
        clear h97 h122 e1 HE
        go_wp2_with fail
        go_roundg (gk - 1)
        case measure => omega
        case rel => exact ⟨i + 1, by omega, rfl, by go_num, by omega, by omega, HE2⟩
      · have hti : t = i := by
          rw [← HE.out]
          by_cases hlt : i < s.size
          · have hil : i < l.length := by have := HSZ.out; omega
            refine endW_stop hil ?_
            rw [HEL.out i hlt hil, ltr_int]
            by_cases h97 : 97 ≤ (s[i].toNat : Int)
            · have h122 : ¬ (s[i].toNat : Int) ≤ 122 := fun h => hgo ⟨hlt, by rw [getElem!_pos s i hlt]; exact ⟨h97, h⟩⟩
              simp [h122]
            · simp [h97]
          · exact endW_out (by have := HSZ.out; omega)
        subst hti
        clear HE HTK
        have hex : (¬ t < s.size) ∨ (∃ h : t < s.size, ¬ 97 ≤ (s[t].toNat : Int)) ∨ (∃ h : t < s.size, 97 ≤ (s[t].toNat : Int) ∧ ¬ (s[t].toNat : Int) ≤ 122) := by
          by_cases hlt : t < s.size
          · right
            rw [getElem!_pos s t hlt] at hgo
            by_cases h97 : 97 ≤ (s[t].toNat : Int)
            · exact .inr ⟨hlt, h97, fun h => hgo ⟨hlt, h97, h⟩⟩
            · exact .inl ⟨hlt, h97⟩
          · exact .inl hlt
        clear hgo
        have hj0 : (0 : Int) ≤ (t : Int) := by omega
        rcases hex with hx | ⟨hx, hy⟩ | ⟨hx, hy, hz⟩
        · exfalso; omega
        · have hj3 : (t : Int) < (s.size : Int) := by omega
          have dy : decide (97 ≤ (s[t].toNat : Int)) = false := by simpa using hy
          clear hy
          go_wp2_with (first | (go_at_call 125; refine (HBt.out _).mono ?_; rintro _ w9 ⟨rfl, hw9⟩; subst w9; clear HBt) | (go_at_call 125; refine (HBv.out _).mono ?_; rintro _ w9 ⟨rfl, hw9⟩; subst w9; clear HBv))
          refine bodyPost_ret (v := .tuple #[.agg #[.string ⟨#[]⟩, .string ⟨#[]⟩], .int .i64 (a : Int), .bool false]) ?_ rfl (pt_no HN.out HB0.out)
          rw [results_cell_tmp2 (p := 4) (u := 5) (v := 6) (ty := 98) rfl]
          have hl := loadP hk0.out
          simp [asAddr, hl]
        · have hj3 : (t : Int) < (s.size : Int) := by omega
          have dy : decide (97 ≤ (s[t].toNat : Int)) = true := by simpa using hy
          have dz : decide ((s[t].toNat : Int) ≤ 122) = false := by simpa using hz
          clear hy hz
          go_wp2_with (first | (go_at_call 125; refine (HBt.out _).mono ?_; rintro _ w9 ⟨rfl, hw9⟩; subst w9; clear HBt) | (go_at_call 125; refine (HBv.out _).mono ?_; rintro _ w9 ⟨rfl, hw9⟩; subst w9; clear HBv))
          refine bodyPost_ret (v := .tuple #[.agg #[.string ⟨#[]⟩, .string ⟨#[]⟩], .int .i64 (a : Int), .bool false]) ?_ rfl (pt_no HN.out HB0.out)
          rw [results_cell_tmp2 (p := 4) (u := 5) (v := 6) (ty := 98) rfl]
          have hl := loadP hk0.out
          simp [asAddr, hl]
  have hF : s[v] = 34 ∨ s[v] = 39 := Classical.not_not.1 hF
  obtain ⟨z, hz⟩ : ∃ z, endW (· != l[v]) l (v + 1) = z := ⟨_, rfl⟩
  have HP4 := Lib.hid (HP3.out.trans (qvl_idx hvll (by rw [HEv]; exact hF) hz))
  have HZ := Lib.hid hz
  have HEvh := Lib.hid HEv
  clear HP3 hz HEv
  have hsn := HSL.out k t gt0 (by have := HSZ.out; omega)
  rcases hF with hF | hF
  · have dF : ((s[v].toNat : Int) != 34) = false := by rw [hF]; decide
    clear hF
    go_enter Tryz.func93, Tryz.ntmps93
    go_wp2_with (go_at_call 125; refine (HBa.out _).mono ?_; rintro _ w9 ⟨rfl, hw9⟩; subst w9; clear HBa)
    go_loopg [8] (s.size + 1) (fun g q wr => ∃ (i : Nat), i + g = s.size + 1 + k ∧ w.alloc (.cells #[.string ⟨#[]⟩, .string ⟨#[]⟩] 98) = wr ∧ q = .int .i64 i ∧ k ≤ i ∧ i ≤ s.size ∧ Hid (endW ltr l i = t))
    case atStart => exact ⟨k, by omega, rfl, rfl, Nat.le_refl _, gk1, HTK⟩
    case round =>
      obtain ⟨i, hkg, hw, rfl, hi5, hi7, HE⟩ := hrel
      subst hw
      by_cases hgo : i < s.size ∧ (97 ≤ (s[i]!.toNat : Int) ∧ (s[i]!.toNat : Int) ≤ 122)
      · obtain ⟨hlt, h97, h122⟩ := hgo
        rw [getElem!_pos s i hlt] at h97 h122
        have hil : i < l.length := by have := HSZ.out; omega
        have e1 := HEL.out i hlt hil
        have hj0 : (0 : Int) ≤ (i : Int) := by omega
        have hj3 : (i : Int) < (s.size : Int) := by omega
        have d1 : decide (97 ≤ (s[i].toNat : Int)) = true := by simpa using h97
        have d2 : decide ((s[i].toNat : Int) ≤ 122) = true := by simpa using h122
        have HE2 := Lib.hid ((endW_go (p := ltr) hil (by rw [e1, ltr_int, d1, d2]; rfl)).symm.trans HE.out)
        clear h97 h122 e1 HE
        go_wp2_with fail
        go_roundg (gk - 1)
        case measure => omega
        case rel => exact ⟨i + 1, by omega, rfl, by go_num, by omega, by omega, HE2⟩
      · have hti : t = i := by
          rw [← HE.out]
          by_cases hlt : i < s.size
          · have hil : i < l.length := by have := HSZ.out; omega
            refine endW_stop hil ?_
            rw [HEL.out i hlt hil, ltr_int]
            by_cases h97 : 97 ≤ (s[i].toNat : Int)
            · have h122 : ¬ (s[i].toNat : Int) ≤ 122 := fun h => hgo ⟨hlt, by rw [getElem!_pos s i hlt]; exact ⟨h97, h⟩⟩
              simp [h122]
            · simp [h97]
          · exact endW_out (by have := HSZ.out; omega)
        subst hti
        clear HE HTK
        have hex : (¬ t < s.size) ∨ (∃ h : t < s.size, ¬ 97 ≤ (s[t].toNat : Int)) ∨ (∃ h : t < s.size, 97 ≤ (s[t].toNat : Int) ∧ ¬ (s[t].toNat : Int) ≤ 122) := by
          by_cases hlt : t < s.size
          · right
            rw [getElem!_pos s t hlt] at hgo
            by_cases h97 : 97 ≤ (s[t].toNat : Int)
            · exact .inr ⟨hlt, h97, fun h => hgo ⟨hlt, h97, h⟩⟩
            · exact .inl ⟨hlt, h97⟩
          · exact .inl hlt
        clear hgo
        have hj0 : (0 : Int) ≤ (t : Int) := by omega
        rcases hex with hx | ⟨hx, hy⟩ | ⟨hx, hy, hz⟩
        · exfalso; omega
        · have hj3 : (t : Int) < (s.size : Int) := by omega
          have dy : decide (97 ≤ (s[t].toNat : Int)) = false := by simpa using hy
          clear hy
          go_wp2_with (first | (go_at_call 125; refine (HBt.out _).mono ?_; rintro _ w9 ⟨rfl, hw9⟩; subst w9; clear HBt) | (go_at_call 125; refine (HBv.out _).mono ?_; rintro _ w9 ⟨rfl, hw9⟩; subst w9; clear HBv))
          go_loopg [11] (s.size + 1) (fun g q wr => ∃ (i : Nat), i + g = s.size + 2 + v ∧ Hid (Below (w.heap.size + 1) (w.alloc (.cells #[.string ⟨#[]⟩, .string ⟨#[]⟩] 98)) wr) ∧ q = .int .i64 i ∧ v + 1 ≤ i ∧ i ≤ s.size ∧ Hid (endW (· != l[v]) l i = z))
          case atStart => exact ⟨v + 1, by omega, Lib.hid (Below.refl _ _), by go_num, Nat.le_refl _, hvl, HZ⟩
          case round =>
            obtain ⟨i, hkg2, HW, rfl, hi8, hi9, HE⟩ := hrel
            have HKr := Lib.hid (hk0.out.below (by simpa using HW.out))
            have HBr := Lib.hid (below_call HB0.out (by simpa using HW.out))
            by_cases hlt : i < s.size
            · have hil : i < l.length := by have := HSZ.out; omega
              have hi0 : (0 : Int) ≤ (i : Int) := by omega
              have hi3 : (i : Int) < (s.size : Int) := by omega
              have e1 := HEL.out i hlt hil
              have e2 := HEvh.out
              by_cases heq : s[i] = s[v]
              · have dq : ((s[i].toNat : Int) == (s[v].toNat : Int)) = true := by rw [heq]; simp
                have hzi : z = i := HE.out.symm.trans (endW_stop hil (by rw [e1, e2, heq]; simp))
                have HN := Lib.hid (HP4.out.trans (if_pos (by rw [hzi]; exact hil)))
                rw [hzi] at HN
                have hsv : ∀ w0 : World, (Instr.slice 9 (.string s) (some (.int .i64 ((v : Int) + 1))) (some (.int .i64 (i : Int))) none).run Tryz.prog w0 = .ok (.string (str ((l.drop (v + 1)).take (i - (v + 1))))) w0 := HSL.out (v + 1) i hi8 (by omega)
                have HLN : Hid ((l.drop (i + 1)).length = l.length - (i + 1)) := Lib.hid (by rw [List.length_drop])
                have HIL := Lib.hid hil
                obtain ⟨nm, hnm⟩ : ∃ nm, (l.drop k).take (t - k) = nm := ⟨_, rfl⟩
                obtain ⟨vv, hvv⟩ : ∃ vv, (l.drop (v + 1)).take (i - (v + 1)) = vv := ⟨_, rfl⟩
                rw [hnm] at HN hsn
                rw [hvv] at HN hsv
                clear hnm hvv heq e1 e2 HE HP4 HSL HZ hzi hil
                go_wp2_with fail
                go_quiet (fail)
                go_wp2_with fail
                have KQ : Hid (Blk (wr.drewN nq).drew w.heap.size #[.string ⟨#[]⟩, .string ⟨#[]⟩] 98) := Lib.hid (HKr.out.below (below_draws (below_draws (Below.refl _ wr) nq) 1))
                have BQ : Hid (Below w.heap.size w (wr.drewN nq).drew) := Lib.hid (below_draws (below_draws HBr.out nq) 1)
                have hkq := HW.out.size
                obtain ⟨wq, hwq⟩ : ∃ wq, wr.drewN nq = wq := ⟨_, rfl⟩
                rw [hwq] at KQ BQ ⊢
                clear hwq hkq
                obtain ⟨q0, q1, q2, q3⟩ := blk2 KQ.out
                have q0' : wq.cell? ⟨w.heap.size, 0, none⟩ = some (.string ⟨#[]⟩) := q0
                have q1' : wq.cell? ⟨w.heap.size, 1, none⟩ = some (.string ⟨#[]⟩) := q1
                have q2' : wq.frozen? ⟨w.heap.size, 0, none⟩ = false := q2
                have q3' : wq.frozen? ⟨w.heap.size, 1, none⟩ = false := q3
                clear c0 c1 f0 f1
                go_region
                all_goals
                  go_wp2_with fail
                  try rw [Exit.noGoto_ret]
                  refine bodyPost_ret (v := .tuple #[.agg #[.string (str nm), .string (str vv)], .int .i64 ((i : Int) + 1), .bool true]) ?_ rfl (pt_yes HN.out (by rw [HLN.out]; have := HIL.out; omega) ((BQ.out.setCell (p := ⟨w.heap.size, 0, none⟩) (Nat.le_refl _) _).setCell (p := ⟨w.heap.size, 1, none⟩) (Nat.le_refl _) _))
                  rw [results_cell_tmp2 (p := 4) (u := 5) (v := 6) (ty := 98) rfl]
                  have hl := loadP (show Blk ((wq.setCell ⟨w.heap.size, 0, none⟩ (.string (str nm))).setCell ⟨w.heap.size, 1, none⟩ (.string (str vv))).drew w.heap.size #[.string (str nm), .string (str vv)] 98 from (KQ.out.set (o := 0) (v := .string (str nm)) rfl).set (o := 1) (v := .string (str vv)) rfl)
                  simp [asAddr, hl]
              · have dq : ((s[i].toNat : Int) == (s[v].toNat : Int)) = false := by
                  have : ¬ (s[i].toNat : Int) = (s[v].toNat : Int) := fun h => heq (u8_lit.1 h)
                  simpa using this
                have HE2 := Lib.hid ((endW_go (p := (· != l[v])) hil (by rw [e1, e2]; simpa using heq)).symm.trans HE.out)
                clear heq e1 e2 HE
                go_wp2_with fail
                go_quiet (fail)
                go_wp2_with fail
                all_goals
                  go_roundg (gk - 1)
                  case measure => omega
                  case rel => exact ⟨i + 1, by omega, Lib.hid (below_draws HW.out _), by go_num, by omega, by omega, HE2⟩
            · have hni : ¬ (i : Int) < (s.size : Int) := by omega
              have hzi : z = i := HE.out.symm.trans (endW_out (by have := HSZ.out; omega))
              have HN := Lib.hid (HP4.out.trans (if_neg (by rw [hzi]; have := HSZ.out; omega)))
              clear HE HP4 HSL HZ hzi
              obtain ⟨c0', c1', f0', f1'⟩ := blk2 HKr.out
              go_wp2_with fail
              refine bodyPost_ret (v := .tuple #[.agg #[.string ⟨#[]⟩, .string ⟨#[]⟩], .int .i64 (a : Int), .bool false]) ?_ rfl (pt_no HN.out ((HBr.out.setCell (p := ⟨w.heap.size, 0, none⟩) (Nat.le_refl _) _).setCell (p := ⟨w.heap.size, 1, none⟩) (Nat.le_refl _) _))
              rw [results_cell_tmp2 (p := 4) (u := 5) (v := 6) (ty := 98) rfl]
              have hl := loadP ((HKr.out.set (o := 0) (v := .string ⟨#[]⟩) rfl).set (o := 1) (v := .string ⟨#[]⟩) rfl)
              simp [asAddr, hl]
        · have hj3 : (t : Int) < (s.size : Int) := by omega
          have dy : decide (97 ≤ (s[t].toNat : Int)) = true := by simpa using hy
          have dz : decide ((s[t].toNat : Int) ≤ 122) = false := by simpa using hz
          clear hy hz
          go_wp2_with (first | (go_at_call 125; refine (HBt.out _).mono ?_; rintro _ w9 ⟨rfl, hw9⟩; subst w9; clear HBt) | (go_at_call 125; refine (HBv.out _).mono ?_; rintro _ w9 ⟨rfl, hw9⟩; subst w9; clear HBv))
          go_loopg [11] (s.size + 1) (fun g q wr => ∃ (i : Nat), i + g = s.size + 2 + v ∧ Hid (Below (w.heap.size + 1) (w.alloc (.cells #[.string ⟨#[]⟩, .string ⟨#[]⟩] 98)) wr) ∧ q = .int .i64 i ∧ v + 1 ≤ i ∧ i ≤ s.size ∧ Hid (endW (· != l[v]) l i = z))
          case atStart => exact ⟨v + 1, by omega, Lib.hid (Below.refl _ _), by go_num, Nat.le_refl _, hvl, HZ⟩
          case round =>
            obtain ⟨i, hkg2, HW, rfl, hi8, hi9, HE⟩ := hrel
            have HKr := Lib.hid (hk0.out.below (by simpa using HW.out))
            have HBr := Lib.hid (below_call HB0.out (by simpa using HW.out))
            by_cases hlt : i < s.size
            · have hil : i < l.length := by have := HSZ.out; omega
              have hi0 : (0 : Int) ≤ (i : Int) := by omega
              have hi3 : (i : Int) < (s.size : Int) := by omega
              have e1 := HEL.out i hlt hil
              have e2 := HEvh.out
              by_cases heq : s[i] = s[v]
              · have dq : ((s[i].toNat : Int) == (s[v].toNat : Int)) = true := by rw [heq]; simp
                have hzi : z = i := HE.out.symm.trans (endW_stop hil (by rw [e1, e2, heq]; simp))
                have HN := Lib.hid (HP4.out.trans (if_pos (by rw [hzi]; exact hil)))
                rw [hzi] at HN
                have hsv : ∀ w0 : World, (Instr.slice 9 (.string s) (some (.int .i64 ((v : Int) + 1))) (some (.int .i64 (i : Int))) none).run Tryz.prog w0 = .ok (.string (str ((l.drop (v + 1)).take (i - (v + 1))))) w0 := HSL.out (v + 1) i hi8 (by omega)
                have HLN : Hid ((l.drop (i + 1)).length = l.length - (i + 1)) := Lib.hid (by rw [List.length_drop])
                have HIL := Lib.hid hil
                obtain ⟨nm, hnm⟩ : ∃ nm, (l.drop k).take (t - k) = nm := ⟨_, rfl⟩
                obtain ⟨vv, hvv⟩ : ∃ vv, (l.drop (v + 1)).take (i - (v + 1)) = vv := ⟨_, rfl⟩
                rw [hnm] at HN hsn
                rw [hvv] at HN hsv
                clear hnm hvv heq e1 e2 HE HP4 HSL HZ hzi hil
                go_wp2_with fail
                go_quiet (fail)
                go_wp2_with fail
                have KQ : Hid (Blk (wr.drewN nq).drew w.heap.size #[.string ⟨#[]⟩, .string ⟨#[]⟩] 98) := Lib.hid (HKr.out.below (below_draws (below_draws (Below.refl _ wr) nq) 1))
                have BQ : Hid (Below w.heap.size w (wr.drewN nq).drew) := Lib.hid (below_draws (below_draws HBr.out nq) 1)
                have hkq := HW.out.size
                obtain ⟨wq, hwq⟩ : ∃ wq, wr.drewN nq = wq := ⟨_, rfl⟩
                rw [hwq] at KQ BQ ⊢
                clear hwq hkq
                obtain ⟨q0, q1, q2, q3⟩ := blk2 KQ.out
                have q0' : wq.cell? ⟨w.heap.size, 0, none⟩ = some (.string ⟨#[]⟩) := q0
                have q1' : wq.cell? ⟨w.heap.size, 1, none⟩ = some (.string ⟨#[]⟩) := q1
                have q2' : wq.frozen? ⟨w.heap.size, 0, none⟩ = false := q2
                have q3' : wq.frozen? ⟨w.heap.size, 1, none⟩ = false := q3
                clear c0 c1 f0 f1
                go_region
                all_goals
                  go_wp2_with fail
                  try rw [Exit.noGoto_ret]
                  refine bodyPost_ret (v := .tuple #[.agg #[.string (str nm), .string (str vv)], .int .i64 ((i : Int) + 1), .bool true]) ?_ rfl (pt_yes HN.out (by rw [HLN.out]; have := HIL.out; omega) ((BQ.out.setCell (p := ⟨w.heap.size, 0, none⟩) (Nat.le_refl _) _).setCell (p := ⟨w.heap.size, 1, none⟩) (Nat.le_refl _) _))
                  rw [results_cell_tmp2 (p := 4) (u := 5) (v := 6) (ty := 98) rfl]
                  have hl := loadP (show Blk ((wq.setCell ⟨w.heap.size, 0, none⟩ (.string (str nm))).setCell ⟨w.heap.size, 1, none⟩ (.string (str vv))).drew w.heap.size #[.string (str nm), .string (str vv)] 98 from (KQ.out.set (o := 0) (v := .string (str nm)) rfl).set (o := 1) (v := .string (str vv)) rfl)
                  simp [asAddr, hl]
              · have dq : ((s[i].toNat : Int) == (s[v].toNat : Int)) = false := by
                  have : ¬ (s[i].toNat : Int) = (s[v].toNat : Int) := fun h => heq (u8_lit.1 h)
                  simpa using this
                have HE2 := Lib.hid ((endW_go (p := (· != l[v])) hil (by rw [e1, e2]; simpa using heq)).symm.trans HE.out)
                clear heq e1 e2 HE
                go_wp2_with fail
                go_quiet (fail)
                go_wp2_with fail
                all_goals
                  go_roundg (gk - 1)
                  case measure => omega
                  case rel => exact ⟨i + 1, by omega, Lib.hid (below_draws HW.out _), by go_num, by omega, by omega, HE2⟩
            · have hni : ¬ (i : Int) < (s.size : Int) := by omega
              have hzi : z = i := HE.out.symm.trans (endW_out (by have := HSZ.out; omega))
              have HN := Lib.hid (HP4.out.trans (if_neg (by rw [hzi]; have := HSZ.out; omega)))
              clear HE HP4 HSL HZ hzi
              obtain ⟨c0', c1', f0', f1'⟩ := blk2 HKr.out
              go_wp2_with fail
              refine bodyPost_ret (v := .tuple #[.agg #[.string ⟨#[]⟩, .string ⟨#[]⟩], .int .i64 (a : Int), .bool false]) ?_ rfl (pt_no HN.out ((HBr.out.setCell (p := ⟨w.heap.size, 0, none⟩) (Nat.le_refl _) _).setCell (p := ⟨w.heap.size, 1, none⟩) (Nat.le_refl _) _))
              rw [results_cell_tmp2 (p := 4) (u := 5) (v := 6) (ty := 98) rfl]
              have hl := loadP ((HKr.out.set (o := 0) (v := .string ⟨#[]⟩) rfl).set (o := 1) (v := .string ⟨#[]⟩) rfl)
              simp [asAddr, hl]
  · have dF : ((s[v].toNat : Int) != 34) = true := by rw [hF]; decide
    have dG : ((s[v].toNat : Int) != 39) = false := by rw [hF]; decide
    clear hF
    go_enter Tryz.func93, Tryz.ntmps93
    go_wp2_with (go_at_call 125; refine (HBa.out _).mono ?_; rintro _ w9 ⟨rfl, hw9⟩; subst w9; clear HBa)
    go_loopg [8] (s.size + 1) (fun g q wr => ∃ (i : Nat), i + g = s.size + 1 + k ∧ w.alloc (.cells #[.string ⟨#[]⟩, .string ⟨#[]⟩] 98) = wr ∧ q = .int .i64 i ∧ k ≤ i ∧ i ≤ s.size ∧ Hid (endW ltr l i = t))
    case atStart => exact ⟨k, by omega, rfl, rfl, Nat.le_refl _, gk1, HTK⟩
    case round =>
      obtain ⟨i, hkg, hw, rfl, hi5, hi7, HE⟩ := hrel
      subst hw
      by_cases hgo : i < s.size ∧ (97 ≤ (s[i]!.toNat : Int) ∧ (s[i]!.toNat : Int) ≤ 122)
      · obtain ⟨hlt, h97, h122⟩ := hgo
        rw [getElem!_pos s i hlt] at h97 h122
        have hil : i < l.length := by have := HSZ.out; omega
        have e1 := HEL.out i hlt hil
        have hj0 : (0 : Int) ≤ (i : Int) := by omega
        have hj3 : (i : Int) < (s.size : Int) := by omega
        have d1 : decide (97 ≤ (s[i].toNat : Int)) = true := by simpa using h97
        have d2 : decide ((s[i].toNat : Int) ≤ 122) = true := by simpa using h122
        have HE2 := Lib.hid ((endW_go (p := ltr) hil (by rw [e1, ltr_int, d1, d2]; rfl)).symm.trans HE.out)
        clear h97 h122 e1 HE
        go_wp2_with fail
        go_roundg (gk - 1)
        case measure => omega
        case rel => exact ⟨i + 1, by omega, rfl, by go_num, by omega, by omega, HE2⟩
      · have hti : t = i := by
          rw [← HE.out]
          by_cases hlt : i < s.size
          · have hil : i < l.length := by have := HSZ.out; omega
            refine endW_stop hil ?_
            rw [HEL.out i hlt hil, ltr_int]
            by_cases h97 : 97 ≤ (s[i].toNat : Int)
            · have h122 : ¬ (s[i].toNat : Int) ≤ 122 := fun h => hgo ⟨hlt, by rw [getElem!_pos s i hlt]; exact ⟨h97, h⟩⟩
              simp [h122]
            · simp [h97]
          · exact endW_out (by have := HSZ.out; omega)
        subst hti
        clear HE HTK
        have hex : (¬ t < s.size) ∨ (∃ h : t < s.size, ¬ 97 ≤ (s[t].toNat : Int)) ∨ (∃ h : t < s.size, 97 ≤ (s[t].toNat : Int) ∧ ¬ (s[t].toNat : Int) ≤ 122) := by
          by_cases hlt : t < s.size
          · right
            rw [getElem!_pos s t hlt] at hgo
            by_cases h97 : 97 ≤ (s[t].toNat : Int)
            · exact .inr ⟨hlt, h97, fun h => hgo ⟨hlt, h97, h⟩⟩
            · exact .inl ⟨hlt, h97⟩
          · exact .inl hlt
        clear hgo
        have hj0 : (0 : Int) ≤ (t : Int) := by omega
        rcases hex with hx | ⟨hx, hy⟩ | ⟨hx, hy, hz⟩
        · exfalso; omega
        · have hj3 : (t : Int) < (s.size : Int) := by omega
          have dy : decide (97 ≤ (s[t].toNat : Int)) = false := by simpa using hy
          clear hy
          go_wp2_with (first | (go_at_call 125; refine (HBt.out _).mono ?_; rintro _ w9 ⟨rfl, hw9⟩; subst w9; clear HBt) | (go_at_call 125; refine (HBv.out _).mono ?_; rintro _ w9 ⟨rfl, hw9⟩; subst w9; clear HBv))
          go_loopg [11] (s.size + 1) (fun g q wr => ∃ (i : Nat), i + g = s.size + 2 + v ∧ Hid (Below (w.heap.size + 1) (w.alloc (.cells #[.string ⟨#[]⟩, .string ⟨#[]⟩] 98)) wr) ∧ q = .int .i64 i ∧ v + 1 ≤ i ∧ i ≤ s.size ∧ Hid (endW (· != l[v]) l i = z))
          case atStart => exact ⟨v + 1, by omega, Lib.hid (Below.refl _ _), by go_num, Nat.le_refl _, hvl, HZ⟩
          case round =>
            obtain ⟨i, hkg2, HW, rfl, hi8, hi9, HE⟩ := hrel
            have HKr := Lib.hid (hk0.out.below (by simpa using HW.out))
            have HBr := Lib.hid (below_call HB0.out (by simpa using HW.out))
            by_cases hlt : i < s.size
            · have hil : i < l.length := by have := HSZ.out; omega
              have hi0 : (0 : Int) ≤ (i : Int) := by omega
              have hi3 : (i : Int) < (s.size : Int) := by omega
              have e1 := HEL.out i hlt hil
              have e2 := HEvh.out
              by_cases heq : s[i] = s[v]
              · have dq : ((s[i].toNat : Int) == (s[v].toNat : Int)) = true := by rw [heq]; simp
                have hzi : z = i := HE.out.symm.trans (endW_stop hil (by rw [e1, e2, heq]; simp))
                have HN := Lib.hid (HP4.out.trans (if_pos (by rw [hzi]; exact hil)))
                rw [hzi] at HN
                have hsv : ∀ w0 : World, (Instr.slice 9 (.string s) (some (.int .i64 ((v : Int) + 1))) (some (.int .i64 (i : Int))) none).run Tryz.prog w0 = .ok (.string (str ((l.drop (v + 1)).take (i - (v + 1))))) w0 := HSL.out (v + 1) i hi8 (by omega)
                have HLN : Hid ((l.drop (i + 1)).length = l.length - (i + 1)) := Lib.hid (by rw [List.length_drop])
                have HIL := Lib.hid hil
                obtain ⟨nm, hnm⟩ : ∃ nm, (l.drop k).take (t - k) = nm := ⟨_, rfl⟩
                obtain ⟨vv, hvv⟩ : ∃ vv, (l.drop (v + 1)).take (i - (v + 1)) = vv := ⟨_, rfl⟩
                rw [hnm] at HN hsn
                rw [hvv] at HN hsv
                clear hnm hvv heq e1 e2 HE HP4 HSL HZ hzi hil
                go_wp2_with fail
                go_quiet (fail)
                go_wp2_with fail
                have KQ : Hid (Blk (wr.drewN nq).drew w.heap.size #[.string ⟨#[]⟩, .string ⟨#[]⟩] 98) := Lib.hid (HKr.out.below (below_draws (below_draws (Below.refl _ wr) nq) 1))
                have BQ : Hid (Below w.heap.size w (wr.drewN nq).drew) := Lib.hid (below_draws (below_draws HBr.out nq) 1)
                have hkq := HW.out.size
                obtain ⟨wq, hwq⟩ : ∃ wq, wr.drewN nq = wq := ⟨_, rfl⟩
                rw [hwq] at KQ BQ ⊢
                clear hwq hkq
                obtain ⟨q0, q1, q2, q3⟩ := blk2 KQ.out
                have q0' : wq.cell? ⟨w.heap.size, 0, none⟩ = some (.string ⟨#[]⟩) := q0
                have q1' : wq.cell? ⟨w.heap.size, 1, none⟩ = some (.string ⟨#[]⟩) := q1
                have q2' : wq.frozen? ⟨w.heap.size, 0, none⟩ = false := q2
                have q3' : wq.frozen? ⟨w.heap.size, 1, none⟩ = false := q3
                clear c0 c1 f0 f1
                go_region
                all_goals
                  go_wp2_with fail
                  try rw [Exit.noGoto_ret]
                  refine bodyPost_ret (v := .tuple #[.agg #[.string (str nm), .string (str vv)], .int .i64 ((i : Int) + 1), .bool true]) ?_ rfl (pt_yes HN.out (by rw [HLN.out]; have := HIL.out; omega) ((BQ.out.setCell (p := ⟨w.heap.size, 0, none⟩) (Nat.le_refl _) _).setCell (p := ⟨w.heap.size, 1, none⟩) (Nat.le_refl _) _))
                  rw [results_cell_tmp2 (p := 4) (u := 5) (v := 6) (ty := 98) rfl]
                  have hl := loadP (show Blk ((wq.setCell ⟨w.heap.size, 0, none⟩ (.string (str nm))).setCell ⟨w.heap.size, 1, none⟩ (.string (str vv))).drew w.heap.size #[.string (str nm), .string (str vv)] 98 from (KQ.out.set (o := 0) (v := .string (str nm)) rfl).set (o := 1) (v := .string (str vv)) rfl)
                  simp [asAddr, hl]
              · have dq : ((s[i].toNat : Int) == (s[v].toNat : Int)) = false := by
                  have : ¬ (s[i].toNat : Int) = (s[v].toNat : Int) := fun h => heq (u8_lit.1 h)
                  simpa using this
                have HE2 := Lib.hid ((endW_go (p := (· != l[v])) hil (by rw [e1, e2]; simpa using heq)).symm.trans HE.out)
                clear heq e1 e2 HE
                go_wp2_with fail
                go_quiet (fail)
                go_wp2_with fail
                all_goals
                  go_roundg (gk - 1)
                  case measure => omega
                  case rel => exact ⟨i + 1, by omega, Lib.hid (below_draws HW.out _), by go_num, by omega, by omega, HE2⟩
            · have hni : ¬ (i : Int) < (s.size : Int) := by omega
              have hzi : z = i := HE.out.symm.trans (endW_out (by have := HSZ.out; omega))
              have HN := Lib.hid (HP4.out.trans (if_neg (by rw [hzi]; have := HSZ.out; omega)))
              clear HE HP4 HSL HZ hzi
              obtain ⟨c0', c1', f0', f1'⟩ := blk2 HKr.out
              go_wp2_with fail
              refine bodyPost_ret (v := .tuple #[.agg #[.string ⟨#[]⟩, .string ⟨#[]⟩], .int .i64 (a : Int), .bool false]) ?_ rfl (pt_no HN.out ((HBr.out.setCell (p := ⟨w.heap.size, 0, none⟩) (Nat.le_refl _) _).setCell (p := ⟨w.heap.size, 1, none⟩) (Nat.le_refl _) _))
              rw [results_cell_tmp2 (p := 4) (u := 5) (v := 6) (ty := 98) rfl]
              have hl := loadP ((HKr.out.set (o := 0) (v := .string ⟨#[]⟩) rfl).set (o := 1) (v := .string ⟨#[]⟩) rfl)
              simp [asAddr, hl]
        · have hj3 : (t : Int) < (s.size : Int) := by omega
          have dy : decide (97 ≤ (s[t].toNat : Int)) = true := by simpa using hy
          have dz : decide ((s[t].toNat : Int) ≤ 122) = false := by simpa using hz
          clear hy hz
          go_wp2_with (first | (go_at_call 125; refine (HBt.out _).mono ?_; rintro _ w9 ⟨rfl, hw9⟩; subst w9; clear HBt) | (go_at_call 125; refine (HBv.out _).mono ?_; rintro _ w9 ⟨rfl, hw9⟩; subst w9; clear HBv))
          go_loopg [11] (s.size + 1) (fun g q wr => ∃ (i : Nat), i + g = s.size + 2 + v ∧ Hid (Below (w.heap.size + 1) (w.alloc (.cells #[.string ⟨#[]⟩, .string ⟨#[]⟩] 98)) wr) ∧ q = .int .i64 i ∧ v + 1 ≤ i ∧ i ≤ s.size ∧ Hid (endW (· != l[v]) l i = z))
          case atStart => exact ⟨v + 1, by omega, Lib.hid (Below.refl _ _), by go_num, Nat.le_refl _, hvl, HZ⟩
          case round =>
            obtain ⟨i, hkg2, HW, rfl, hi8, hi9, HE⟩ := hrel
            have HKr := Lib.hid (hk0.out.below (by simpa using HW.out))
            have HBr := Lib.hid (below_call HB0.out (by simpa using HW.out))
            by_cases hlt : i < s.size
            · have hil : i < l.length := by have := HSZ.out; omega
              have hi0 : (0 : Int) ≤ (i : Int) := by omega
              have hi3 : (i : Int) < (s.size : Int) := by omega
              have e1 := HEL.out i hlt hil
              have e2 := HEvh.out
              by_cases heq : s[i] = s[v]
              · have dq : ((s[i].toNat : Int) == (s[v].toNat : Int)) = true := by rw [heq]; simp
                have hzi : z = i := HE.out.symm.trans (endW_stop hil (by rw [e1, e2, heq]; simp))
                have HN := Lib.hid (HP4.out.trans (if_pos (by rw [hzi]; exact hil)))
                rw [hzi] at HN
                have hsv : ∀ w0 : World, (Instr.slice 9 (.string s) (some (.int .i64 ((v : Int) + 1))) (some (.int .i64 (i : Int))) none).run Tryz.prog w0 = .ok (.string (str ((l.drop (v + 1)).take (i - (v + 1))))) w0 := HSL.out (v + 1) i hi8 (by omega)
                have HLN : Hid ((l.drop (i + 1)).length = l.length - (i + 1)) := Lib.hid (by rw [List.length_drop])
                have HIL := Lib.hid hil
                obtain ⟨nm, hnm⟩ : ∃ nm, (l.drop k).take (t - k) = nm := ⟨_, rfl⟩
                obtain ⟨vv, hvv⟩ : ∃ vv, (l.drop (v + 1)).take (i - (v + 1)) = vv := ⟨_, rfl⟩
                rw [hnm] at HN hsn
                rw [hvv] at HN hsv
                clear hnm hvv heq e1 e2 HE HP4 HSL HZ hzi hil
                go_wp2_with fail
                go_quiet (fail)
                go_wp2_with fail
                have KQ : Hid (Blk (wr.drewN nq).drew w.heap.size #[.string ⟨#[]⟩, .string ⟨#[]⟩] 98) := Lib.hid (HKr.out.below (below_draws (below_draws (Below.refl _ wr) nq) 1))
                have BQ : Hid (Below w.heap.size w (wr.drewN nq).drew) := Lib.hid (below_draws (below_draws HBr.out nq) 1)
                have hkq := HW.out.size
                obtain ⟨wq, hwq⟩ : ∃ wq, wr.drewN nq = wq := ⟨_, rfl⟩
                rw [hwq] at KQ BQ ⊢
                clear hwq hkq
                obtain ⟨q0, q1, q2, q3⟩ := blk2 KQ.out
                have q0' : wq.cell? ⟨w.heap.size, 0, none⟩ = some (.string ⟨#[]⟩) := q0
                have q1' : wq.cell? ⟨w.heap.size, 1, none⟩ = some (.string ⟨#[]⟩) := q1
                have q2' : wq.frozen? ⟨w.heap.size, 0, none⟩ = false := q2
                have q3' : wq.frozen? ⟨w.heap.size, 1, none⟩ = false := q3
                clear c0 c1 f0 f1
                go_region
                all_goals
                  go_wp2_with fail
                  try rw [Exit.noGoto_ret]
                  refine bodyPost_ret (v := .tuple #[.agg #[.string (str nm), .string (str vv)], .int .i64 ((i : Int) + 1), .bool true]) ?_ rfl (pt_yes HN.out (by rw [HLN.out]; have := HIL.out; omega) ((BQ.out.setCell (p := ⟨w.heap.size, 0, none⟩) (Nat.le_refl _) _).setCell (p := ⟨w.heap.size, 1, none⟩) (Nat.le_refl _) _))
                  rw [results_cell_tmp2 (p := 4) (u := 5) (v := 6) (ty := 98) rfl]
                  have hl := loadP (show Blk ((wq.setCell ⟨w.heap.size, 0, none⟩ (.string (str nm))).setCell ⟨w.heap.size, 1, none⟩ (.string (str vv))).drew w.heap.size #[.string (str nm), .string (str vv)] 98 from (KQ.out.set (o := 0) (v := .string (str nm)) rfl).set (o := 1) (v := .string (str vv)) rfl)
                  simp [asAddr, hl]
              · have dq : ((s[i].toNat : Int) == (s[v].toNat : Int)) = false := by
                  have : ¬ (s[i].toNat : Int) = (s[v].toNat : Int) := fun h => heq (u8_lit.1 h)
                  simpa using this
                have HE2 := Lib.hid ((endW_go (p := (· != l[v])) hil (by rw [e1, e2]; simpa using heq)).symm.trans HE.out)
                clear heq e1 e2 HE
                go_wp2_with fail
                go_quiet (fail)
                go_wp2_with fail
                all_goals
                  go_roundg (gk - 1)
                  case measure => omega
                  case rel => exact ⟨i + 1, by omega, Lib.hid (below_draws HW.out _), by go_num, by omega, by omega, HE2⟩
            · have hni : ¬ (i : Int) < (s.size : Int) := by omega
              have hzi : z = i := HE.out.symm.trans (endW_out (by have := HSZ.out; omega))
              have HN := Lib.hid (HP4.out.trans (if_neg (by rw [hzi]; have := HSZ.out; omega)))
              clear HE HP4 HSL HZ hzi
              obtain ⟨c0', c1', f0', f1'⟩ := blk2 HKr.out
              go_wp2_with fail
              refine bodyPost_ret (v := .tuple #[.agg #[.string ⟨#[]⟩, .string ⟨#[]⟩], .int .i64 (a : Int), .bool false]) ?_ rfl (pt_no HN.out ((HBr.out.setCell (p := ⟨w.heap.size, 0, none⟩) (Nat.le_refl _) _).setCell (p := ⟨w.heap.size, 1, none⟩) (Nat.le_refl _) _))
              rw [results_cell_tmp2 (p := 4) (u := 5) (v := 6) (ty := 98) rfl]
              have hl := loadP ((HKr.out.set (o := 0) (v := .string ⟨#[]⟩) rfl).set (o := 1) (v := .string ⟨#[]⟩) rfl)
              simp [asAddr, hl]
end Go.Proofs.YtppabkllconkjaaGreatDoor.Dec
