/- Joined: SN. -/
import Derived.BigQuiet
import Derived.Deep.AppendLies
import Derived.Deep.DeepCutAuto
import Derived.Deep.LoopGhost
import Derived.Deep.OwnRows
import Derived.Deep.QuietTactic
import Derived.Deep.RegionHeld3
import Derived.Deep.WholeRow
import Derived.Laws.AppendOwn
import Derived.Laws.BytesArg
import Derived.Laws.DeepStrings4
import Derived.Laws.IdiomStrings
import Derived.Lib.AppendStr
import Derived.Lib.Hide
import Derived.LoopN
import Derived.Maps.AppendAt
import Derived.Maps.Own
import Derived.Maps.OwnSet
import Derived.OpenShut
import Derived.Outline
import Derived.ProofKit
import Derived.StillTailTactics
import Derived.Test.YtppabkllconkjaaGreatDoorRows
import Derived.WalkKit
import Derived.WalkMore
import Derived.Test.YtppabkllconkjaaGreatDoorK01
import Derived.Test.YtppabkllconkjaaGreatDoorK03
import Derived.Test.YtppabkllconkjaaGreatDoorK04
import Derived.Test.YtppabkllconkjaaGreatDoorK05
/- The contracts of bytesOf, Decode and Encode. -/
namespace Go.Proofs.YtppabkllconkjaaGreatDoor.U
open Go.RowKit Go.Maps
set_option linter.unusedVariables false
set_option linter.unusedSimpArgs false
set_option maxRecDepth 100000
/-- The bytes by their scalars, the first k of them told. -/
def cod (g : Nat → Int) : Nat → DataW Unit
  | 0 => .map []
  | k + 1 => (cod g k).put (.int .i64 (g k)) (.lit (.int .u8 (k : Int)))
theorem cod_is (g : Nat → Int) : ∀ k, IsMap (cod g k)
  | 0 => isMap_empty
  | k + 1 => by
    obtain ⟨es, h⟩ := cod_is g k
    unfold cod
    rw [h]
    exact ⟨_, rfl⟩
theorem cod_look {g : Nat → Int} (hinj : ∀ a b, a < 256 → b < 256 → g a = g b → a = b) (r : Int) : ∀ k, k ≤ 256 →
    Maps.has (cod g k) (.int .i64 r) = (look g k r).isSome ∧ (cod g k).atKey (.int .i64 r) (.lit (.int .u8 0)) = .lit (.int .u8 (((look g k r).getD 0 : Nat) : Int))
  | 0, _ => ⟨rfl, rfl⟩
  | k + 1, hk => by
    obtain ⟨h1, h2⟩ := cod_look hinj r k (by omega)
    by_cases e : g k = r
    · have hn : look g k r = none := look_none.2 fun b hb hbr => by
        have := hinj b k (by omega) (by omega) (hbr.trans e.symm)
        omega
      have hs : look g (k + 1) r = some k := by rw [look_succ, hn]; simp [e]
      rw [hs]
      unfold cod
      rw [e]
      exact ⟨has_put_same (cod_is g k) (by trivial) _, atKey_put_same (cod_is g k) (by trivial) _ _⟩
    · have hs : look g (k + 1) r = look g k r := by
        rw [look_succ]
        cases look g k r <;> simp [e]
      have hne : (Lit.int .i64 r) ≠ (Lit.int .i64 (g k)) := by
        intro h
        injection h with _ h
        exact e h.symm
      rw [hs]
      unfold cod
      exact ⟨(has_put_other hne _).trans h1, (atKey_put_other hne _ _).trans h2⟩
theorem lawI64 : Keyed Tryz.prog 3 := int_keyed (q := .i64) Tryz.underlying3
theorem zeroU8 (w : World) : (zeroValue 5).run Tryz.prog w = .ok (.int .u8 0) w := by kernel_rfl
theorem make_coded (w : World) : (Instr.makeMap 158 (some (.int .i64 256))).run Tryz.prog w = .ok (.map (some w.heap.size)) (w.alloc (.map #[] 0)) := by kernel_rfl
theorem map_below {H : Type} {P : Program} {k : TypeId} {R : Value → Option (DataW H × List MemPlace)} {w w' : World} {b n : Nat} {D : DataW H} (h : w.ownsMap P k R b n D) (hb : Below w.heap.size w w') : w'.ownsMap P k R b n D := by
  have hlt := h.lt
  obtain ⟨es, clock, h0, F, hs, hD⟩ := h
  exact ⟨es, clock, (hb.block b hlt).trans h0, F, hs, hD⟩
theorem row_grown {w w' : World} {b n g : Nat} {t : TypeId} {f : Nat → Value} (h : w.rowIs b t n f) (hg : w.grownBy w' (some g)) (hne : b ≠ g) : w'.rowIs b t n f := h.of_block (hg.block _ h.lt (by simpa using hne))
def CodS (g : Nat → Int) (w : World) (e : Ending) (w' : World) : Prop := ∃ G, e = .returned (.map (some G)) ∧ w'.ownsMap Tryz.prog 3 (plainElem Tryz.prog 5) G 256 (cod g 256) ∧ w.heap.size ≤ G ∧ Below w.heap.size w w'
set_option maxRecDepth 100000 in
theorem bytesOf_BLK (rv : Value) (g : Nat → Int) (hf : Tl 163 rv g) (hbd : ∀ b, b < 256 → 0 ≤ g b ∧ g b < 55296) (w : World) : Calls Tryz.prog 134 #[.func (.func 163) #[rv] #[]] w fun e w' => CodS g w e w' := by
  have HT := Lib.hid fun w => table_BLK rv g hf w
  have HBD := Lib.hid hbd
  clear hf hbd
  have hmm := make_coded
  have HM0 : Hid ((w.alloc (.map #[] 0)).ownsMap Tryz.prog 3 (plainElem Tryz.prog 5) w.heap.size 0 (cod g 0)) := Lib.hid (World.ownsMap_made w Tryz.prog 3 _)
  have HB0 : Hid (Below w.heap.size w (w.alloc (.map #[] 0))) := Lib.hid ((Below.refl _ _).alloc (Nat.le_refl _) _)
  go_enter Tryz.func134, Tryz.ntmps134
  go_wp2_with (go_at_call 165; refine (HT.out _).mono ?_; rintro e w1 ⟨B, rfl, hr, hB, hb1⟩; have HB1 := Lib.hid hb1; have HR := Lib.hid hr; have HGB : Hid (B ≠ w.heap.size) := Lib.hid (by simp at hB; omega); clear hb1 hr hB)
  clear hmm
  go_loopg [10] 257 (fun gh q wr => ∃ (k : Nat), k + gh = 257 ∧ q = .int .i64 k ∧ k ≤ 256 ∧ Hid (wr.rowIs B 3 256 (tabF g 256)) ∧ Hid (wr.ownsMap Tryz.prog 3 (plainElem Tryz.prog 5) w.heap.size k (cod g k)) ∧ Hid (Below w.heap.size w wr))
  case atStart => exact ⟨0, by omega, rfl, by omega, HR, Lib.hid (map_below HM0.out HB1.out), Lib.hid (below_call HB0.out HB1.out)⟩
  case round =>
    obtain ⟨k, hkg, rfl, hk7, HR, HM, HB⟩ := hrel
    by_cases hk : k < 256
    · have hw8 : IntKind.u8.wrap (k : Int) = k := by rw [IntKind.wrap_u8]; omega
      have hc := HR.out.cell hk
      rw [tabF_in hk] at hc
      have hbk := HBD.out k hk
      obtain ⟨c, hcc⟩ : ∃ c, g k = c := ⟨_, rfl⟩
      have HX : Hid (cod g (k + 1) = (cod g k).put (.int .i64 c) (.lit (.int .u8 (k : Int)))) := Lib.hid (by rw [← hcc]; rfl)
      rw [hcc] at hc hbk
      clear hcc
      go_wp2_with (refine wpList_mapUpdate_own _ rfl _ _ _ 158 rfl 3 5 lawI64 Tryz.underlying158 _ w.heap.size k _ rfl HM.out (by unfold maxLen; omega) _ _ (.int .i64 c) rfl rfl (keyOf_int_mk Tryz.underlying3 (WalkArith.wf_i64 (by omega))) _ [] (plainElem_int Tryz.underlying5 (WalkArith.wf_u8 (by omega))) ?_; intro w2 hown2 hgrow2)
      have HM2 : Hid (w2.ownsMap Tryz.prog 3 (plainElem Tryz.prog 5) w.heap.size (k + 1) (cod g (k + 1))) := Lib.hid (by rw [HX.out]; exact hown2)
      have HR2 := Lib.hid (row_grown HR.out hgrow2 HGB.out)
      have HB2 : Hid (Below w.heap.size w w2) := Lib.hid (HB.out.grown hgrow2 HB.out.size (fun j ej => by cases ej; exact Nat.le_refl _))
      clear hown2 hgrow2
      go_roundg (gk - 1)
      case measure => omega
      case rel => exact ⟨k + 1, by omega, by go_num, by omega, HR2, HM2, HB2⟩
    · have hk' : k = 256 := by omega
      subst hk'
      go_wp2_with fail
      go_ret
      exact ⟨_, rfl, HM.out, Nat.le_refl _, HB.out⟩
set_option maxRecDepth 100000 in
theorem bytesOf_RUNS (rv : Value) (g : Nat → Int) (hf : Tl 164 rv g) (hbd : ∀ b, b < 256 → 0 ≤ g b ∧ g b < 55296) (w : World) : Calls Tryz.prog 134 #[.func (.func 164) #[rv] #[]] w fun e w' => CodS g w e w' := by
  have HT := Lib.hid fun w => table_RUNS rv g hf w
  have HBD := Lib.hid hbd
  clear hf hbd
  have hmm := make_coded
  have HM0 : Hid ((w.alloc (.map #[] 0)).ownsMap Tryz.prog 3 (plainElem Tryz.prog 5) w.heap.size 0 (cod g 0)) := Lib.hid (World.ownsMap_made w Tryz.prog 3 _)
  have HB0 : Hid (Below w.heap.size w (w.alloc (.map #[] 0))) := Lib.hid ((Below.refl _ _).alloc (Nat.le_refl _) _)
  go_enter Tryz.func134, Tryz.ntmps134
  go_wp2_with (go_at_call 165; refine (HT.out _).mono ?_; rintro e w1 ⟨B, rfl, hr, hB, hb1⟩; have HB1 := Lib.hid hb1; have HR := Lib.hid hr; have HGB : Hid (B ≠ w.heap.size) := Lib.hid (by simp at hB; omega); clear hb1 hr hB)
  clear hmm
  go_loopg [10] 257 (fun gh q wr => ∃ (k : Nat), k + gh = 257 ∧ q = .int .i64 k ∧ k ≤ 256 ∧ Hid (wr.rowIs B 3 256 (tabF g 256)) ∧ Hid (wr.ownsMap Tryz.prog 3 (plainElem Tryz.prog 5) w.heap.size k (cod g k)) ∧ Hid (Below w.heap.size w wr))
  case atStart => exact ⟨0, by omega, rfl, by omega, HR, Lib.hid (map_below HM0.out HB1.out), Lib.hid (below_call HB0.out HB1.out)⟩
  case round =>
    obtain ⟨k, hkg, rfl, hk7, HR, HM, HB⟩ := hrel
    by_cases hk : k < 256
    · have hw8 : IntKind.u8.wrap (k : Int) = k := by rw [IntKind.wrap_u8]; omega
      have hc := HR.out.cell hk
      rw [tabF_in hk] at hc
      have hbk := HBD.out k hk
      obtain ⟨c, hcc⟩ : ∃ c, g k = c := ⟨_, rfl⟩
      have HX : Hid (cod g (k + 1) = (cod g k).put (.int .i64 c) (.lit (.int .u8 (k : Int)))) := Lib.hid (by rw [← hcc]; rfl)
      rw [hcc] at hc hbk
      clear hcc
      go_wp2_with (refine wpList_mapUpdate_own _ rfl _ _ _ 158 rfl 3 5 lawI64 Tryz.underlying158 _ w.heap.size k _ rfl HM.out (by unfold maxLen; omega) _ _ (.int .i64 c) rfl rfl (keyOf_int_mk Tryz.underlying3 (WalkArith.wf_i64 (by omega))) _ [] (plainElem_int Tryz.underlying5 (WalkArith.wf_u8 (by omega))) ?_; intro w2 hown2 hgrow2)
      have HM2 : Hid (w2.ownsMap Tryz.prog 3 (plainElem Tryz.prog 5) w.heap.size (k + 1) (cod g (k + 1))) := Lib.hid (by rw [HX.out]; exact hown2)
      have HR2 := Lib.hid (row_grown HR.out hgrow2 HGB.out)
      have HB2 : Hid (Below w.heap.size w w2) := Lib.hid (HB.out.grown hgrow2 HB.out.size (fun j ej => by cases ej; exact Nat.le_refl _))
      clear hown2 hgrow2
      go_roundg (gk - 1)
      case measure => omega
      case rel => exact ⟨k + 1, by omega, by go_num, by omega, HR2, HM2, HB2⟩
    · have hk' : k = 256 := by omega
      subst hk'
      go_wp2_with fail
      go_ret
      exact ⟨_, rfl, HM.out, Nat.le_refl _, HB.out⟩
end Go.Proofs.YtppabkllconkjaaGreatDoor.U
