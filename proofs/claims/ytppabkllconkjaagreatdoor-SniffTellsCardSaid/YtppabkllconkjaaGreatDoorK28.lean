/- Joined: ND. -/
import Derived.BigQuiet
import Derived.Deep.AppendLies
import Derived.Deep.DeepCutAuto
import Derived.Deep.LoopGhost
import Derived.Deep.OwnRows
import Derived.Deep.QuietTactic
import Derived.Deep.RegionHeld3
import Derived.Deep.RegionLaw
import Derived.Deep.WholeRow
import Derived.Laws.AppendOwn
import Derived.Laws.BitsLemmas
import Derived.Laws.BytesArg
import Derived.Laws.DeepStrings4
import Derived.Laws.Externs
import Derived.Laws.IdiomStrings
import Derived.Laws.ResultCell
import Derived.Laws.Rows
import Derived.Laws.StructEq
import Derived.Laws.Tables
import Derived.Lib.AppendStr
import Derived.Lib.Bytealg
import Derived.Lib.Hide
import Derived.LoopIn
import Derived.LoopN
import Derived.LoopNIn
import Derived.Maps.AppendAt
import Derived.Maps.Own
import Derived.Maps.OwnSet
import Derived.OpenShut
import Derived.Outline
import Derived.OwnWalk
import Derived.OwnWalkIn
import Derived.ProofKit
import Derived.RangeFuncBound
import Derived.RangeFuncBox
import Derived.RangeFuncCalls
import Derived.RangeFuncLeaves
import Derived.RangeFuncNested
import Derived.RangeFuncWrites
import Derived.Shelf.Abstract
import Derived.Shelf.LaysM
import Derived.Shelf.RegionOpen
import Derived.Shelf.Small.Wraps
import Derived.Shelf.Strings.Cut
import Derived.Shelf.Strings.Shaped
import Derived.Shelf.Strings.SlTrimAscii
import Derived.StillTailTactics
import Derived.TacticsInMore
import Derived.Test.YtppabkllconkjaaGreatDoorProg
import Derived.Test.YtppabkllconkjaaGreatDoorRows
import Derived.WalkKit
import Derived.WalkMore
import Derived.Test.YtppabkllconkjaaGreatDoorK01
import Derived.Test.YtppabkllconkjaaGreatDoorK03
import Derived.Test.YtppabkllconkjaaGreatDoorK05
import Derived.Test.YtppabkllconkjaaGreatDoorK07
import Derived.Test.YtppabkllconkjaaGreatDoorK09
import Derived.Test.YtppabkllconkjaaGreatDoorK10
import Derived.Test.YtppabkllconkjaaGreatDoorK11
import Derived.Test.YtppabkllconkjaaGreatDoorK12
import Derived.Test.YtppabkllconkjaaGreatDoorK13
import Derived.Test.YtppabkllconkjaaGreatDoorK14
import Derived.Test.YtppabkllconkjaaGreatDoorK15
import Derived.Test.YtppabkllconkjaaGreatDoorK16
import Derived.Test.YtppabkllconkjaaGreatDoorK18
import Derived.Test.YtppabkllconkjaaGreatDoorK20
import Derived.Test.YtppabkllconkjaaGreatDoorK22
import Derived.Test.YtppabkllconkjaaGreatDoorK23
import Derived.Test.YtppabkllconkjaaGreatDoorK25
import Derived.Test.YtppabkllconkjaaGreatDoorK27
/- The contract of the document's own Encoding of layer 8. -/
namespace Go.Proofs.YtppabkllconkjaaGreatDoor.Snf
open Go.RowKit
set_option linter.unusedVariables false
set_option linter.unusedSimpArgs false
set_option maxRecDepth 100000
set_option maxRecDepth 100000
open Lab (str str_size str_list str_eta str_inj u8v info5 info_parts)
set_option maxHeartbeats 16000000 in
theorem rencoding_any (kind body : List UInt8) (w : World) (hG : G8 w) (hk : kind.length ≤ 5000) (hb : body.length ≤ 10000) : Calls Tryz.prog 9 #[.string (str kind), .string (str body)] w fun e w' => EnR kind body w e w' := by
  obtain ⟨i0, hi, hz0, hz1, hz2⟩ := info_parts infoR
  have hb6 : body.length ≤ maxLen := by unfold maxLen; omega
  have htot := Med.medOf_tot kind
  have HX : Hid (∀ w', G8 w' → Calls Tryz.prog 14 #[.string (str kind)] w' fun e w'' => e = .returned (.bool (xmlK kind)) ∧ Below w'.heap.size w' w'') := Lib.hid fun w' g => rxml_any kind w' (by omega)
  have HM : Hid (∀ w', G8 w' → Calls Tryz.prog 24 #[.string (str body)] w' fun e w'' => e = .returned (Dec.markV (Dec.mrk body)) ∧ Below w'.heap.size w' w'') := Lib.hid fun w' g => (Dec.mark_any body w' hb6).mono fun e w'' h => ⟨h.1, by rw [h.2]; exact Below.refl _ _⟩
  have HP : Hid (∀ w', G8 w' → Calls Tryz.prog 25 #[.string (str kind)] w' fun e w'' => Med.ParseU (Med.parse kind) w' e w'') := Lib.hid fun w' g => (Med.rparse_any kind w' (by omega)).mono fun e w'' h => h.un
  unfold Med.ParseU at HP
  unfold EnR
  obtain ⟨m, hm⟩ : ∃ m, Med.medOf (Med.parse kind) = m := ⟨_, rfl⟩
  have htm : m.1.length ≤ 100000 ∧ m.2.length ≤ maxLen ∧ Med.tot m ≤ 5000 := by
    have h1 : (Med.parse kind).getD ([], []) = m := hm
    rw [h1] at htot
    have h2 := htot.1
    unfold Med.tot at h2 ⊢
    unfold maxLen; omega
  have HC : Hid (∀ u w', Med.Prs w' u m.2 → Calls Tryz.prog 26 #[.agg #[.string (str m.1), u]] w' fun e w'' => e = .returned (.tuple #[.string (str (chK kind).1), .bool (chK kind).2]) ∧ Below w'.heap.size w' w'') := Lib.hid fun u w' h => by
    have := Med.rcharset_any m u w' h htm.2.1
    unfold Med.ChE at this
    have e : chK kind = Med.chs m.2 := by unfold chK; rw [hm]
    rwa [← e] at this
  rw [hm] at HP
  have hcx : (chK kind).1.length ≤ 100000 := by
    have e : chK kind = Med.chs m.2 := by unfold chK; rw [hm]
    rw [e]
    have := chs_len m.2
    have h3 := htm.2.2
    unfold Med.tot at h3
    omega
  have HO1 : Hid (∀ w', G8 w' → Calls Tryz.prog 27 #[.string (str (chK kind).1)] w' fun e w'' => e = .returned (.tuple #[.int .i8 (Lab.ofL (chK kind).1).1, .bool (Lab.ofL (chK kind).1).2]) ∧ Below w'.heap.size w' w'') := Lib.hid fun w' g => by
    have := Lab.rof_any (str (chK kind).1) w' (by rw [str_size]; omega)
    unfold Lab.OfS at this
    rwa [str_list] at this
  have HS : Hid (∀ w', G8 w' → Calls Tryz.prog 28 #[.string (str body)] w' fun e w'' => e = .returned (Dec.shapeV (Dec.shp body)) ∧ Below w'.heap.size w' w'') := Lib.hid fun w' g => (Dec.shape_any body w' hb6).mono fun e w'' h => ⟨h.1, by rw [h.2]; exact Below.refl _ _⟩
  have HN : Hid (∀ w', G8 w' → Calls Tryz.prog 29 #[.string (str body)] w' fun e w'' => e = .returned (Dec.scanV (Dec.scn body)) ∧ Below w'.heap.size w' w'') := Lib.hid fun w' g => Dec.rscan_any body w' hb6
  have HO2 : Hid (∀ x, Dec.scn body = some x → ∀ w', G8 w' → Calls Tryz.prog 27 #[.string (str x)] w' fun e w'' => e = .returned (.tuple #[.int .i8 (Lab.ofL x).1, .bool (Lab.ofL x).2]) ∧ Below w'.heap.size w' w'') := Lib.hid fun x hx w' g => by
    have hl := scn_le hx
    have := Lab.rof_any (str x) w' (by rw [str_size]; omega)
    unfold Lab.OfS at this
    rwa [str_list] at this
  have HGN : Hid (∀ w', Below w.heap.size w w' → G8 w') := Lib.hid fun w' h => hG.next h
  have HEF : Hid (encF kind body = match Dec.mrk body with
    | some m => ((m.1 : Int), (m.2 : Int), rs0 kind)
    | none => if (chK kind).2 = true then (if (Lab.ofL (chK kind).1).2 = true then ((Lab.ofL (chK kind).1).1, 0, rs0 kind) else encB body (rs0 kind ++ [(1, 0)])) else encB body (rs0 kind)) := Lib.hid rfl
  have HEB : Hid (∀ l, encB body l = match Dec.shp body with
    | some e => ((e : Int), 0, l)
    | none => match Dec.scn body with
      | none => (0, 0, l)
      | some x => if (Lab.ofL x).2 = true ∧ (Lab.ofL x).1 ≠ 1 ∧ (Lab.ofL x).1 ≠ 2 then ((Lab.ofL x).1, 0, l) else (0, 0, l ++ [(1, 0)])) := Lib.hid fun l => rfl
  obtain ⟨R, hR⟩ : ∃ R, encF kind body = R := ⟨_, rfl⟩
  rw [hR] at HEF ⊢
  have hx0 : rs0 kind = if xmlK kind then [] else [(0, 0)] := rfl
  obtain ⟨A0, hA0⟩ : ∃ A, rs0 kind = A := ⟨_, rfl⟩
  rw [hA0] at HEF hx0
  obtain ⟨bx, hbx⟩ : ∃ bx, xmlK kind = bx := ⟨_, rfl⟩
  rw [hbx] at HX hx0
  obtain ⟨c, t, hc⟩ : ∃ c t, chK kind = (c, t) := ⟨_, _, rfl⟩
  rw [hc] at HC HO1 HEF
  dsimp only at HC HO1 HEF
  obtain ⟨o, ok, ho⟩ : ∃ o ok, Lab.ofL c = (o, ok) := ⟨_, _, rfl⟩
  rw [ho] at HO1 HEF
  dsimp only at HO1 HEF
  obtain ⟨T, hT⟩ : ∃ T, str m.1 = T := ⟨_, rfl⟩
  rw [hT] at HP HC
  obtain ⟨NN, hNN⟩ : ∃ N, m.2.length = N := ⟨_, rfl⟩
  rw [hNN] at HP
  obtain ⟨EE, hEE⟩ : ∃ E, Med.errOf (Med.parse kind) = E := ⟨_, rfl⟩
  rw [hEE] at HP
  obtain ⟨C, hC⟩ : ∃ C, str c = C := ⟨_, rfl⟩
  rw [hC] at HC HO1
  obtain ⟨S1, hS1⟩ : ∃ S, str kind = S := ⟨_, rfl⟩
  obtain ⟨S2, hS2⟩ : ∃ S, str body = S := ⟨_, rfl⟩
  rw [hS1] at HX HP ⊢
  rw [hS2] at HM HS HN ⊢
  clear hS1 hS2 hC hEE hNN hT ho hc hbx hA0 hR hcx htm hm htot hb6 hk hb hG
  cases bx with
  | true =>
    replace hx0 : A0 = [] := hx0
    subst hx0
    cases hm : Dec.mrk body with
    | some mm =>
      rw [hm] at HM HEF
      have HR : Hid (R = ((mm.1 : Int), (mm.2 : Int), [])) := Lib.hid HEF.out
      obtain ⟨m1, m2⟩ := mm
      replace HM : Hid (∀ w', G8 w' → Calls Tryz.prog 24 #[.string S2] w' fun e w'' => e = .returned (.tuple #[.int .i8 (m1 : Int), .int .i64 (m2 : Int), .bool true]) ∧ Below w'.heap.size w' w'') := HM
      clear hm HEF HEB HO1 HO2 HC HP HS HN
      go_enter Tryz.func9, Tryz.ntmps9
      go_wp2_with (first
        | (go_at_call 14; refine (HX.out _ (HGN.out _ (Below.refl _ w))).mono ?_; rintro _ w1 ⟨rfl, hb1⟩; have BC1 := Lib.hid (below_call (Below.refl _ w) hb1); have OC1 := Lib.hid (Dec.own_below (m := 0) (World.ownsRow_nil w w.heap.size 40 2) hb1); clear hb1; clear HX)
        | (go_at_call 24; refine (HM.out _ (HGN.out _ (BC1.out))).mono ?_; rintro _ w2 ⟨rfl, hb2⟩; have BC2 := Lib.hid (below_call (BC1.out) hb2); have OC2 := Lib.hid (Dec.own_below (m := 0) (OC1.out) hb2); clear hb2; clear HM))
      go_ret3
      exact en_ret HR.out (OC2.out) (BC2.out)
    | none =>
      rw [hm] at HM HEF
      replace HM : Hid (∀ w', G8 w' → Calls Tryz.prog 24 #[.string S2] w' fun e w'' => e = .returned (.tuple #[.int .i8 0, .int .i64 0, .bool false]) ∧ Below w'.heap.size w' w'') := HM
      clear hm
      cases t with
      | false =>
        clear HO1
        have HEC : Hid (R = encB body []) := Lib.hid HEF.out
        rw [HEB.out] at HEC
        clear HEF HEB
        cases hsh : Dec.shp body with
        | some ee =>
          rw [hsh] at HS HEC
          have HR : Hid (R = ((ee : Int), 0, [])) := Lib.hid HEC.out
          replace HS : Hid (∀ w', G8 w' → Calls Tryz.prog 28 #[.string S2] w' fun e w'' => e = .returned (.tuple #[.int .i8 (ee : Int), .bool true]) ∧ Below w'.heap.size w' w'') := HS
          clear hsh HEC HO2 HN
          go_enter Tryz.func9, Tryz.ntmps9
          go_wp2_with (first
            | (go_at_call 14; refine (HX.out _ (HGN.out _ (Below.refl _ w))).mono ?_; rintro _ w1 ⟨rfl, hb1⟩; have BC1 := Lib.hid (below_call (Below.refl _ w) hb1); have OC1 := Lib.hid (Dec.own_below (m := 0) (World.ownsRow_nil w w.heap.size 40 2) hb1); clear hb1; clear HX)
            | (go_at_call 24; refine (HM.out _ (HGN.out _ (BC1.out))).mono ?_; rintro _ w2 ⟨rfl, hb2⟩; have BC2 := Lib.hid (below_call (BC1.out) hb2); have OC2 := Lib.hid (Dec.own_below (m := 0) (OC1.out) hb2); clear hb2; clear HM)
            | (go_at_call 25; refine (HP.out _ (HGN.out _ (BC2.out))).mono ?_; rintro _ w3 ⟨p3, cap3, rfl, hp3, hb3⟩; have BC3 := Lib.hid (below_call (BC2.out) hb3); have OC3 := Lib.hid (Dec.own_below (m := 0) (OC2.out) hb3); clear hb3; clear HP)
            | (go_at_call 26; refine (HC.out _ _ (prs_alloc hp3 _)).mono ?_; rintro _ w4 ⟨rfl, hb4⟩; have BC4 := Lib.hid (below_call ((BC3.out).alloc (BC3.out).size _) hb4); have OC4 := Lib.hid (Dec.own_below (m := 0) (World.ownsRow.alloc (OC3.out) _) hb4); clear hb4; clear HC)
            | (go_at_call 28; refine (HS.out _ (HGN.out _ (BC4.out))).mono ?_; rintro _ w6 ⟨rfl, hb6⟩; have BC6 := Lib.hid (below_call (BC4.out) hb6); have OC6 := Lib.hid (Dec.own_below (m := 0) (OC4.out) hb6); clear hb6; clear HS))
          go_ret3
          exact en_ret HR.out (OC6.out) (BC6.out)
        | none =>
          rw [hsh] at HS HEC
          replace HS : Hid (∀ w', G8 w' → Calls Tryz.prog 28 #[.string S2] w' fun e w'' => e = .returned (.tuple #[.int .i8 0, .bool false]) ∧ Below w'.heap.size w' w'') := HS
          clear hsh
          cases hsc : Dec.scn body with
          | none =>
            rw [hsc] at HN HEC
            have HR : Hid (R = (0, 0, [])) := Lib.hid HEC.out
            replace HN : Hid (∀ w', G8 w' → Calls Tryz.prog 29 #[.string S2] w' fun e w'' => e = .returned (.tuple #[.string ⟨#[]⟩, .bool false]) ∧ Below w'.heap.size w' w'') := HN
            clear hsc HEC HO2
            go_enter Tryz.func9, Tryz.ntmps9
            go_wp2_with (first
              | (go_at_call 14; refine (HX.out _ (HGN.out _ (Below.refl _ w))).mono ?_; rintro _ w1 ⟨rfl, hb1⟩; have BC1 := Lib.hid (below_call (Below.refl _ w) hb1); have OC1 := Lib.hid (Dec.own_below (m := 0) (World.ownsRow_nil w w.heap.size 40 2) hb1); clear hb1; clear HX)
              | (go_at_call 24; refine (HM.out _ (HGN.out _ (BC1.out))).mono ?_; rintro _ w2 ⟨rfl, hb2⟩; have BC2 := Lib.hid (below_call (BC1.out) hb2); have OC2 := Lib.hid (Dec.own_below (m := 0) (OC1.out) hb2); clear hb2; clear HM)
              | (go_at_call 25; refine (HP.out _ (HGN.out _ (BC2.out))).mono ?_; rintro _ w3 ⟨p3, cap3, rfl, hp3, hb3⟩; have BC3 := Lib.hid (below_call (BC2.out) hb3); have OC3 := Lib.hid (Dec.own_below (m := 0) (OC2.out) hb3); clear hb3; clear HP)
              | (go_at_call 26; refine (HC.out _ _ (prs_alloc hp3 _)).mono ?_; rintro _ w4 ⟨rfl, hb4⟩; have BC4 := Lib.hid (below_call ((BC3.out).alloc (BC3.out).size _) hb4); have OC4 := Lib.hid (Dec.own_below (m := 0) (World.ownsRow.alloc (OC3.out) _) hb4); clear hb4; clear HC)
              | (go_at_call 28; refine (HS.out _ (HGN.out _ (BC4.out))).mono ?_; rintro _ w6 ⟨rfl, hb6⟩; have BC6 := Lib.hid (below_call (BC4.out) hb6); have OC6 := Lib.hid (Dec.own_below (m := 0) (OC4.out) hb6); clear hb6; clear HS)
              | (go_at_call 29; refine (HN.out _ (HGN.out _ (BC6.out))).mono ?_; rintro _ w7 ⟨rfl, hb7⟩; have BC7 := Lib.hid (below_call (BC6.out) hb7); have OC7 := Lib.hid (Dec.own_below (m := 0) (OC6.out) hb7); clear hb7; clear HN))
            go_ret3
            exact en_ret HR.out (OC7.out) (BC7.out)
          | some y =>
            replace HO2 := Lib.hid (HO2.out y hsc)
            rw [hsc] at HN HEC
            replace HN : Hid (∀ w', G8 w' → Calls Tryz.prog 29 #[.string S2] w' fun e w'' => e = .returned (.tuple #[.string (str y), .bool true]) ∧ Below w'.heap.size w' w'') := HN
            obtain ⟨o2, ok2, ho2⟩ : ∃ o ok, Lab.ofL y = (o, ok) := ⟨_, _, rfl⟩
            replace HEC : Hid (R = if (Lab.ofL y).2 = true ∧ (Lab.ofL y).1 ≠ 1 ∧ (Lab.ofL y).1 ≠ 2 then ((Lab.ofL y).1, 0, []) else (0, 0, [] ++ [(1, 0)])) := HEC
            rw [ho2] at HO2 HEC
            dsimp only at HO2 HEC
            obtain ⟨Y, hY⟩ : ∃ Y, str y = Y := ⟨_, rfl⟩
            rw [hY] at HN HO2
            clear hY ho2 hsc
            cases ok2 with
            | false =>
              have HR : Hid (R = (0, 0, [(1, 0)])) := Lib.hid (by rw [HEC.out]; rfl)
              clear HEC
              go_enter Tryz.func9, Tryz.ntmps9
              go_wp2_with (first
                | (go_at_call 14; refine (HX.out _ (HGN.out _ (Below.refl _ w))).mono ?_; rintro _ w1 ⟨rfl, hb1⟩; have BC1 := Lib.hid (below_call (Below.refl _ w) hb1); have OC1 := Lib.hid (Dec.own_below (m := 0) (World.ownsRow_nil w w.heap.size 40 2) hb1); clear hb1; clear HX)
                | (go_at_call 24; refine (HM.out _ (HGN.out _ (BC1.out))).mono ?_; rintro _ w2 ⟨rfl, hb2⟩; have BC2 := Lib.hid (below_call (BC1.out) hb2); have OC2 := Lib.hid (Dec.own_below (m := 0) (OC1.out) hb2); clear hb2; clear HM)
                | (go_at_call 25; refine (HP.out _ (HGN.out _ (BC2.out))).mono ?_; rintro _ w3 ⟨p3, cap3, rfl, hp3, hb3⟩; have BC3 := Lib.hid (below_call (BC2.out) hb3); have OC3 := Lib.hid (Dec.own_below (m := 0) (OC2.out) hb3); clear hb3; clear HP)
                | (go_at_call 26; refine (HC.out _ _ (prs_alloc hp3 _)).mono ?_; rintro _ w4 ⟨rfl, hb4⟩; have BC4 := Lib.hid (below_call ((BC3.out).alloc (BC3.out).size _) hb4); have OC4 := Lib.hid (Dec.own_below (m := 0) (World.ownsRow.alloc (OC3.out) _) hb4); clear hb4; clear HC)
                | (go_at_call 28; refine (HS.out _ (HGN.out _ (BC4.out))).mono ?_; rintro _ w6 ⟨rfl, hb6⟩; have BC6 := Lib.hid (below_call (BC4.out) hb6); have OC6 := Lib.hid (Dec.own_below (m := 0) (OC4.out) hb6); clear hb6; clear HS)
                | (go_at_call 29; refine (HN.out _ (HGN.out _ (BC6.out))).mono ?_; rintro _ w7 ⟨rfl, hb7⟩; have BC7 := Lib.hid (below_call (BC6.out) hb7); have OC7 := Lib.hid (Dec.own_below (m := 0) (OC6.out) hb7); clear hb7; clear HN)
                | (go_at_call 27; refine (HO2.out _ (HGN.out _ (BC7.out))).mono ?_; rintro _ w8 ⟨rfl, hb8⟩; have BC8 := Lib.hid (below_call (BC7.out) hb8); have OC8 := Lib.hid (Dec.own_below (m := 0) (OC7.out) hb8); clear hb8; clear HO2)
                | (at_builtin; refine wpList_append_lies _ rfl _ _ _ rfl w.heap.size 40 i0 _ 2 16 Tryz.underlying24 hi hz0 hz1 hz2 rfl (by omega) _ 0 (cellsR []) rfl (World.ownsRow.alloc (OC8.out) _) ⟨w8.heap.size, 0, none⟩ 1 1 [.int .i8 1, .int .i64 0] rfl rfl (by have := World.news_of_block (t := 40) (fr := (0, 0)) (heap_alloc_new w8 (.cells #[.int .i8 1, .int .i64 0] 40)); simpa using this) (by simp [Value.oneCell']) (by omega) (by unfold maxLen; omega) (by omega) (by have := (BC8.out).size; simp; omega) (w8.heap.size + 1) (by simp) ?_; intro g3 cap3 wa3 hown3 hgrow3 hat3 hlt3; have OA3 := Lib.hid hown3; have BA3 := Lib.hid ((BC8.out).trans (appR (BC8.out).size (OC8.out) hgrow3)); clear hown3 hgrow3 hat3 hlt3))
              go_ret3
              exact en_ret HR.out (OA3.out) (BA3.out)
            | true =>
              by_cases e1 : o2 = 1
              · have d1 : (o2 != 1) = false := by rw [e1]; rfl
                have HR : Hid (R = (0, 0, [(1, 0)])) := Lib.hid (by rw [HEC.out, if_neg (fun h => h.2.1 e1)]; rfl)
                clear HEC e1
                go_enter Tryz.func9, Tryz.ntmps9
                go_wp2_with (first
                  | (go_at_call 14; refine (HX.out _ (HGN.out _ (Below.refl _ w))).mono ?_; rintro _ w1 ⟨rfl, hb1⟩; have BC1 := Lib.hid (below_call (Below.refl _ w) hb1); have OC1 := Lib.hid (Dec.own_below (m := 0) (World.ownsRow_nil w w.heap.size 40 2) hb1); clear hb1; clear HX)
                  | (go_at_call 24; refine (HM.out _ (HGN.out _ (BC1.out))).mono ?_; rintro _ w2 ⟨rfl, hb2⟩; have BC2 := Lib.hid (below_call (BC1.out) hb2); have OC2 := Lib.hid (Dec.own_below (m := 0) (OC1.out) hb2); clear hb2; clear HM)
                  | (go_at_call 25; refine (HP.out _ (HGN.out _ (BC2.out))).mono ?_; rintro _ w3 ⟨p3, cap3, rfl, hp3, hb3⟩; have BC3 := Lib.hid (below_call (BC2.out) hb3); have OC3 := Lib.hid (Dec.own_below (m := 0) (OC2.out) hb3); clear hb3; clear HP)
                  | (go_at_call 26; refine (HC.out _ _ (prs_alloc hp3 _)).mono ?_; rintro _ w4 ⟨rfl, hb4⟩; have BC4 := Lib.hid (below_call ((BC3.out).alloc (BC3.out).size _) hb4); have OC4 := Lib.hid (Dec.own_below (m := 0) (World.ownsRow.alloc (OC3.out) _) hb4); clear hb4; clear HC)
                  | (go_at_call 28; refine (HS.out _ (HGN.out _ (BC4.out))).mono ?_; rintro _ w6 ⟨rfl, hb6⟩; have BC6 := Lib.hid (below_call (BC4.out) hb6); have OC6 := Lib.hid (Dec.own_below (m := 0) (OC4.out) hb6); clear hb6; clear HS)
                  | (go_at_call 29; refine (HN.out _ (HGN.out _ (BC6.out))).mono ?_; rintro _ w7 ⟨rfl, hb7⟩; have BC7 := Lib.hid (below_call (BC6.out) hb7); have OC7 := Lib.hid (Dec.own_below (m := 0) (OC6.out) hb7); clear hb7; clear HN)
                  | (go_at_call 27; refine (HO2.out _ (HGN.out _ (BC7.out))).mono ?_; rintro _ w8 ⟨rfl, hb8⟩; have BC8 := Lib.hid (below_call (BC7.out) hb8); have OC8 := Lib.hid (Dec.own_below (m := 0) (OC7.out) hb8); clear hb8; clear HO2)
                  | (at_builtin; refine wpList_append_lies _ rfl _ _ _ rfl w.heap.size 40 i0 _ 2 16 Tryz.underlying24 hi hz0 hz1 hz2 rfl (by omega) _ 0 (cellsR []) rfl (World.ownsRow.alloc (OC8.out) _) ⟨w8.heap.size, 0, none⟩ 1 1 [.int .i8 1, .int .i64 0] rfl rfl (by have := World.news_of_block (t := 40) (fr := (0, 0)) (heap_alloc_new w8 (.cells #[.int .i8 1, .int .i64 0] 40)); simpa using this) (by simp [Value.oneCell']) (by omega) (by unfold maxLen; omega) (by omega) (by have := (BC8.out).size; simp; omega) (w8.heap.size + 1) (by simp) ?_; intro g3 cap3 wa3 hown3 hgrow3 hat3 hlt3; have OA3 := Lib.hid hown3; have BA3 := Lib.hid ((BC8.out).trans (appR (BC8.out).size (OC8.out) hgrow3)); clear hown3 hgrow3 hat3 hlt3))
                go_ret3
                exact en_ret HR.out (OA3.out) (BA3.out)
              have d1 : (o2 != 1) = true := by simpa using e1
              by_cases e2 : o2 = 2
              · have d2 : (o2 != 2) = false := by rw [e2]; rfl
                have HR : Hid (R = (0, 0, [(1, 0)])) := Lib.hid (by rw [HEC.out, if_neg (fun h => h.2.2 e2)]; rfl)
                clear HEC e1 e2
                go_enter Tryz.func9, Tryz.ntmps9
                go_wp2_with (first
                  | (go_at_call 14; refine (HX.out _ (HGN.out _ (Below.refl _ w))).mono ?_; rintro _ w1 ⟨rfl, hb1⟩; have BC1 := Lib.hid (below_call (Below.refl _ w) hb1); have OC1 := Lib.hid (Dec.own_below (m := 0) (World.ownsRow_nil w w.heap.size 40 2) hb1); clear hb1; clear HX)
                  | (go_at_call 24; refine (HM.out _ (HGN.out _ (BC1.out))).mono ?_; rintro _ w2 ⟨rfl, hb2⟩; have BC2 := Lib.hid (below_call (BC1.out) hb2); have OC2 := Lib.hid (Dec.own_below (m := 0) (OC1.out) hb2); clear hb2; clear HM)
                  | (go_at_call 25; refine (HP.out _ (HGN.out _ (BC2.out))).mono ?_; rintro _ w3 ⟨p3, cap3, rfl, hp3, hb3⟩; have BC3 := Lib.hid (below_call (BC2.out) hb3); have OC3 := Lib.hid (Dec.own_below (m := 0) (OC2.out) hb3); clear hb3; clear HP)
                  | (go_at_call 26; refine (HC.out _ _ (prs_alloc hp3 _)).mono ?_; rintro _ w4 ⟨rfl, hb4⟩; have BC4 := Lib.hid (below_call ((BC3.out).alloc (BC3.out).size _) hb4); have OC4 := Lib.hid (Dec.own_below (m := 0) (World.ownsRow.alloc (OC3.out) _) hb4); clear hb4; clear HC)
                  | (go_at_call 28; refine (HS.out _ (HGN.out _ (BC4.out))).mono ?_; rintro _ w6 ⟨rfl, hb6⟩; have BC6 := Lib.hid (below_call (BC4.out) hb6); have OC6 := Lib.hid (Dec.own_below (m := 0) (OC4.out) hb6); clear hb6; clear HS)
                  | (go_at_call 29; refine (HN.out _ (HGN.out _ (BC6.out))).mono ?_; rintro _ w7 ⟨rfl, hb7⟩; have BC7 := Lib.hid (below_call (BC6.out) hb7); have OC7 := Lib.hid (Dec.own_below (m := 0) (OC6.out) hb7); clear hb7; clear HN)
                  | (go_at_call 27; refine (HO2.out _ (HGN.out _ (BC7.out))).mono ?_; rintro _ w8 ⟨rfl, hb8⟩; have BC8 := Lib.hid (below_call (BC7.out) hb8); have OC8 := Lib.hid (Dec.own_below (m := 0) (OC7.out) hb8); clear hb8; clear HO2)
                  | (at_builtin; refine wpList_append_lies _ rfl _ _ _ rfl w.heap.size 40 i0 _ 2 16 Tryz.underlying24 hi hz0 hz1 hz2 rfl (by omega) _ 0 (cellsR []) rfl (World.ownsRow.alloc (OC8.out) _) ⟨w8.heap.size, 0, none⟩ 1 1 [.int .i8 1, .int .i64 0] rfl rfl (by have := World.news_of_block (t := 40) (fr := (0, 0)) (heap_alloc_new w8 (.cells #[.int .i8 1, .int .i64 0] 40)); simpa using this) (by simp [Value.oneCell']) (by omega) (by unfold maxLen; omega) (by omega) (by have := (BC8.out).size; simp; omega) (w8.heap.size + 1) (by simp) ?_; intro g3 cap3 wa3 hown3 hgrow3 hat3 hlt3; have OA3 := Lib.hid hown3; have BA3 := Lib.hid ((BC8.out).trans (appR (BC8.out).size (OC8.out) hgrow3)); clear hown3 hgrow3 hat3 hlt3))
                go_ret3
                exact en_ret HR.out (OA3.out) (BA3.out)
              have d2 : (o2 != 2) = true := by simpa using e2
              have HR : Hid (R = (o2, 0, [])) := Lib.hid (by rw [HEC.out, if_pos ⟨rfl, e1, e2⟩])
              clear HEC e1 e2
              go_enter Tryz.func9, Tryz.ntmps9
              go_wp2_with (first
                | (go_at_call 14; refine (HX.out _ (HGN.out _ (Below.refl _ w))).mono ?_; rintro _ w1 ⟨rfl, hb1⟩; have BC1 := Lib.hid (below_call (Below.refl _ w) hb1); have OC1 := Lib.hid (Dec.own_below (m := 0) (World.ownsRow_nil w w.heap.size 40 2) hb1); clear hb1; clear HX)
                | (go_at_call 24; refine (HM.out _ (HGN.out _ (BC1.out))).mono ?_; rintro _ w2 ⟨rfl, hb2⟩; have BC2 := Lib.hid (below_call (BC1.out) hb2); have OC2 := Lib.hid (Dec.own_below (m := 0) (OC1.out) hb2); clear hb2; clear HM)
                | (go_at_call 25; refine (HP.out _ (HGN.out _ (BC2.out))).mono ?_; rintro _ w3 ⟨p3, cap3, rfl, hp3, hb3⟩; have BC3 := Lib.hid (below_call (BC2.out) hb3); have OC3 := Lib.hid (Dec.own_below (m := 0) (OC2.out) hb3); clear hb3; clear HP)
                | (go_at_call 26; refine (HC.out _ _ (prs_alloc hp3 _)).mono ?_; rintro _ w4 ⟨rfl, hb4⟩; have BC4 := Lib.hid (below_call ((BC3.out).alloc (BC3.out).size _) hb4); have OC4 := Lib.hid (Dec.own_below (m := 0) (World.ownsRow.alloc (OC3.out) _) hb4); clear hb4; clear HC)
                | (go_at_call 28; refine (HS.out _ (HGN.out _ (BC4.out))).mono ?_; rintro _ w6 ⟨rfl, hb6⟩; have BC6 := Lib.hid (below_call (BC4.out) hb6); have OC6 := Lib.hid (Dec.own_below (m := 0) (OC4.out) hb6); clear hb6; clear HS)
                | (go_at_call 29; refine (HN.out _ (HGN.out _ (BC6.out))).mono ?_; rintro _ w7 ⟨rfl, hb7⟩; have BC7 := Lib.hid (below_call (BC6.out) hb7); have OC7 := Lib.hid (Dec.own_below (m := 0) (OC6.out) hb7); clear hb7; clear HN)
                | (go_at_call 27; refine (HO2.out _ (HGN.out _ (BC7.out))).mono ?_; rintro _ w8 ⟨rfl, hb8⟩; have BC8 := Lib.hid (below_call (BC7.out) hb8); have OC8 := Lib.hid (Dec.own_below (m := 0) (OC7.out) hb8); clear hb8; clear HO2))
              go_ret3
              exact en_ret HR.out (OC8.out) (BC8.out)
      | true =>
        cases ok with
        | true =>
          have HR : Hid (R = (o, 0, [])) := Lib.hid HEF.out
          clear HEF HEB HO2 HS HN
          go_enter Tryz.func9, Tryz.ntmps9
          go_wp2_with (first
            | (go_at_call 14; refine (HX.out _ (HGN.out _ (Below.refl _ w))).mono ?_; rintro _ w1 ⟨rfl, hb1⟩; have BC1 := Lib.hid (below_call (Below.refl _ w) hb1); have OC1 := Lib.hid (Dec.own_below (m := 0) (World.ownsRow_nil w w.heap.size 40 2) hb1); clear hb1; clear HX)
            | (go_at_call 24; refine (HM.out _ (HGN.out _ (BC1.out))).mono ?_; rintro _ w2 ⟨rfl, hb2⟩; have BC2 := Lib.hid (below_call (BC1.out) hb2); have OC2 := Lib.hid (Dec.own_below (m := 0) (OC1.out) hb2); clear hb2; clear HM)
            | (go_at_call 25; refine (HP.out _ (HGN.out _ (BC2.out))).mono ?_; rintro _ w3 ⟨p3, cap3, rfl, hp3, hb3⟩; have BC3 := Lib.hid (below_call (BC2.out) hb3); have OC3 := Lib.hid (Dec.own_below (m := 0) (OC2.out) hb3); clear hb3; clear HP)
            | (go_at_call 26; refine (HC.out _ _ (prs_alloc hp3 _)).mono ?_; rintro _ w4 ⟨rfl, hb4⟩; have BC4 := Lib.hid (below_call ((BC3.out).alloc (BC3.out).size _) hb4); have OC4 := Lib.hid (Dec.own_below (m := 0) (World.ownsRow.alloc (OC3.out) _) hb4); clear hb4; clear HC)
            | (go_at_call 27; refine (HO1.out _ (HGN.out _ (BC4.out))).mono ?_; rintro _ w5 ⟨rfl, hb5⟩; have BC5 := Lib.hid (below_call (BC4.out) hb5); have OC5 := Lib.hid (Dec.own_below (m := 0) (OC4.out) hb5); clear hb5; clear HO1))
          go_ret3
          exact en_ret HR.out (OC5.out) (BC5.out)
        | false =>
          have HEC : Hid (R = encB body [(1, 0)]) := Lib.hid HEF.out
          rw [HEB.out] at HEC
          clear HEF HEB
          cases hsh : Dec.shp body with
          | some ee =>
            rw [hsh] at HS HEC
            have HR : Hid (R = ((ee : Int), 0, [(1, 0)])) := Lib.hid HEC.out
            replace HS : Hid (∀ w', G8 w' → Calls Tryz.prog 28 #[.string S2] w' fun e w'' => e = .returned (.tuple #[.int .i8 (ee : Int), .bool true]) ∧ Below w'.heap.size w' w'') := HS
            clear hsh HEC HO2 HN
            go_enter Tryz.func9, Tryz.ntmps9
            go_wp2_with (first
              | (go_at_call 14; refine (HX.out _ (HGN.out _ (Below.refl _ w))).mono ?_; rintro _ w1 ⟨rfl, hb1⟩; have BC1 := Lib.hid (below_call (Below.refl _ w) hb1); have OC1 := Lib.hid (Dec.own_below (m := 0) (World.ownsRow_nil w w.heap.size 40 2) hb1); clear hb1; clear HX)
              | (go_at_call 24; refine (HM.out _ (HGN.out _ (BC1.out))).mono ?_; rintro _ w2 ⟨rfl, hb2⟩; have BC2 := Lib.hid (below_call (BC1.out) hb2); have OC2 := Lib.hid (Dec.own_below (m := 0) (OC1.out) hb2); clear hb2; clear HM)
              | (go_at_call 25; refine (HP.out _ (HGN.out _ (BC2.out))).mono ?_; rintro _ w3 ⟨p3, cap3, rfl, hp3, hb3⟩; have BC3 := Lib.hid (below_call (BC2.out) hb3); have OC3 := Lib.hid (Dec.own_below (m := 0) (OC2.out) hb3); clear hb3; clear HP)
              | (go_at_call 26; refine (HC.out _ _ (prs_alloc hp3 _)).mono ?_; rintro _ w4 ⟨rfl, hb4⟩; have BC4 := Lib.hid (below_call ((BC3.out).alloc (BC3.out).size _) hb4); have OC4 := Lib.hid (Dec.own_below (m := 0) (World.ownsRow.alloc (OC3.out) _) hb4); clear hb4; clear HC)
              | (go_at_call 27; refine (HO1.out _ (HGN.out _ (BC4.out))).mono ?_; rintro _ w5 ⟨rfl, hb5⟩; have BC5 := Lib.hid (below_call (BC4.out) hb5); have OC5 := Lib.hid (Dec.own_below (m := 0) (OC4.out) hb5); clear hb5; clear HO1)
              | (at_builtin; refine wpList_append_lies _ rfl _ _ _ rfl w.heap.size 40 i0 _ 2 16 Tryz.underlying24 hi hz0 hz1 hz2 rfl (by omega) _ 0 (cellsR []) rfl (World.ownsRow.alloc (OC5.out) _) ⟨w5.heap.size, 0, none⟩ 1 1 [.int .i8 1, .int .i64 0] rfl rfl (by have := World.news_of_block (t := 40) (fr := (0, 0)) (heap_alloc_new w5 (.cells #[.int .i8 1, .int .i64 0] 40)); simpa using this) (by simp [Value.oneCell']) (by omega) (by unfold maxLen; omega) (by omega) (by have := (BC5.out).size; simp; omega) (w5.heap.size + 1) (by simp) ?_; intro g2 cap2 wa2 hown2 hgrow2 hat2 hlt2; have OA2 := Lib.hid hown2; have BA2 := Lib.hid ((BC5.out).trans (appR (BC5.out).size (OC5.out) hgrow2)); clear hown2 hgrow2 hat2 hlt2)
              | (go_at_call 28; refine (HS.out _ (HGN.out _ (BA2.out))).mono ?_; rintro _ w6 ⟨rfl, hb6⟩; have BC6 := Lib.hid (below_call (BA2.out) hb6); have OC6 := Lib.hid (Dec.own_below (m := 0) (OA2.out) hb6); clear hb6; clear HS))
            go_ret3
            exact en_ret HR.out (OC6.out) (BC6.out)
          | none =>
            rw [hsh] at HS HEC
            replace HS : Hid (∀ w', G8 w' → Calls Tryz.prog 28 #[.string S2] w' fun e w'' => e = .returned (.tuple #[.int .i8 0, .bool false]) ∧ Below w'.heap.size w' w'') := HS
            clear hsh
            cases hsc : Dec.scn body with
            | none =>
              rw [hsc] at HN HEC
              have HR : Hid (R = (0, 0, [(1, 0)])) := Lib.hid HEC.out
              replace HN : Hid (∀ w', G8 w' → Calls Tryz.prog 29 #[.string S2] w' fun e w'' => e = .returned (.tuple #[.string ⟨#[]⟩, .bool false]) ∧ Below w'.heap.size w' w'') := HN
              clear hsc HEC HO2
              go_enter Tryz.func9, Tryz.ntmps9
              go_wp2_with (first
                | (go_at_call 14; refine (HX.out _ (HGN.out _ (Below.refl _ w))).mono ?_; rintro _ w1 ⟨rfl, hb1⟩; have BC1 := Lib.hid (below_call (Below.refl _ w) hb1); have OC1 := Lib.hid (Dec.own_below (m := 0) (World.ownsRow_nil w w.heap.size 40 2) hb1); clear hb1; clear HX)
                | (go_at_call 24; refine (HM.out _ (HGN.out _ (BC1.out))).mono ?_; rintro _ w2 ⟨rfl, hb2⟩; have BC2 := Lib.hid (below_call (BC1.out) hb2); have OC2 := Lib.hid (Dec.own_below (m := 0) (OC1.out) hb2); clear hb2; clear HM)
                | (go_at_call 25; refine (HP.out _ (HGN.out _ (BC2.out))).mono ?_; rintro _ w3 ⟨p3, cap3, rfl, hp3, hb3⟩; have BC3 := Lib.hid (below_call (BC2.out) hb3); have OC3 := Lib.hid (Dec.own_below (m := 0) (OC2.out) hb3); clear hb3; clear HP)
                | (go_at_call 26; refine (HC.out _ _ (prs_alloc hp3 _)).mono ?_; rintro _ w4 ⟨rfl, hb4⟩; have BC4 := Lib.hid (below_call ((BC3.out).alloc (BC3.out).size _) hb4); have OC4 := Lib.hid (Dec.own_below (m := 0) (World.ownsRow.alloc (OC3.out) _) hb4); clear hb4; clear HC)
                | (go_at_call 27; refine (HO1.out _ (HGN.out _ (BC4.out))).mono ?_; rintro _ w5 ⟨rfl, hb5⟩; have BC5 := Lib.hid (below_call (BC4.out) hb5); have OC5 := Lib.hid (Dec.own_below (m := 0) (OC4.out) hb5); clear hb5; clear HO1)
                | (at_builtin; refine wpList_append_lies _ rfl _ _ _ rfl w.heap.size 40 i0 _ 2 16 Tryz.underlying24 hi hz0 hz1 hz2 rfl (by omega) _ 0 (cellsR []) rfl (World.ownsRow.alloc (OC5.out) _) ⟨w5.heap.size, 0, none⟩ 1 1 [.int .i8 1, .int .i64 0] rfl rfl (by have := World.news_of_block (t := 40) (fr := (0, 0)) (heap_alloc_new w5 (.cells #[.int .i8 1, .int .i64 0] 40)); simpa using this) (by simp [Value.oneCell']) (by omega) (by unfold maxLen; omega) (by omega) (by have := (BC5.out).size; simp; omega) (w5.heap.size + 1) (by simp) ?_; intro g2 cap2 wa2 hown2 hgrow2 hat2 hlt2; have OA2 := Lib.hid hown2; have BA2 := Lib.hid ((BC5.out).trans (appR (BC5.out).size (OC5.out) hgrow2)); clear hown2 hgrow2 hat2 hlt2)
                | (go_at_call 28; refine (HS.out _ (HGN.out _ (BA2.out))).mono ?_; rintro _ w6 ⟨rfl, hb6⟩; have BC6 := Lib.hid (below_call (BA2.out) hb6); have OC6 := Lib.hid (Dec.own_below (m := 0) (OA2.out) hb6); clear hb6; clear HS)
                | (go_at_call 29; refine (HN.out _ (HGN.out _ (BC6.out))).mono ?_; rintro _ w7 ⟨rfl, hb7⟩; have BC7 := Lib.hid (below_call (BC6.out) hb7); have OC7 := Lib.hid (Dec.own_below (m := 0) (OC6.out) hb7); clear hb7; clear HN))
              go_ret3
              exact en_ret HR.out (OC7.out) (BC7.out)
            | some y =>
              replace HO2 := Lib.hid (HO2.out y hsc)
              rw [hsc] at HN HEC
              replace HN : Hid (∀ w', G8 w' → Calls Tryz.prog 29 #[.string S2] w' fun e w'' => e = .returned (.tuple #[.string (str y), .bool true]) ∧ Below w'.heap.size w' w'') := HN
              obtain ⟨o2, ok2, ho2⟩ : ∃ o ok, Lab.ofL y = (o, ok) := ⟨_, _, rfl⟩
              replace HEC : Hid (R = if (Lab.ofL y).2 = true ∧ (Lab.ofL y).1 ≠ 1 ∧ (Lab.ofL y).1 ≠ 2 then ((Lab.ofL y).1, 0, [(1, 0)]) else (0, 0, [(1, 0)] ++ [(1, 0)])) := HEC
              rw [ho2] at HO2 HEC
              dsimp only at HO2 HEC
              obtain ⟨Y, hY⟩ : ∃ Y, str y = Y := ⟨_, rfl⟩
              rw [hY] at HN HO2
              clear hY ho2 hsc
              cases ok2 with
              | false =>
                have HR : Hid (R = (0, 0, [(1, 0), (1, 0)])) := Lib.hid (by rw [HEC.out]; rfl)
                clear HEC
                go_enter Tryz.func9, Tryz.ntmps9
                go_wp2_with (first
                  | (go_at_call 14; refine (HX.out _ (HGN.out _ (Below.refl _ w))).mono ?_; rintro _ w1 ⟨rfl, hb1⟩; have BC1 := Lib.hid (below_call (Below.refl _ w) hb1); have OC1 := Lib.hid (Dec.own_below (m := 0) (World.ownsRow_nil w w.heap.size 40 2) hb1); clear hb1; clear HX)
                  | (go_at_call 24; refine (HM.out _ (HGN.out _ (BC1.out))).mono ?_; rintro _ w2 ⟨rfl, hb2⟩; have BC2 := Lib.hid (below_call (BC1.out) hb2); have OC2 := Lib.hid (Dec.own_below (m := 0) (OC1.out) hb2); clear hb2; clear HM)
                  | (go_at_call 25; refine (HP.out _ (HGN.out _ (BC2.out))).mono ?_; rintro _ w3 ⟨p3, cap3, rfl, hp3, hb3⟩; have BC3 := Lib.hid (below_call (BC2.out) hb3); have OC3 := Lib.hid (Dec.own_below (m := 0) (OC2.out) hb3); clear hb3; clear HP)
                  | (go_at_call 26; refine (HC.out _ _ (prs_alloc hp3 _)).mono ?_; rintro _ w4 ⟨rfl, hb4⟩; have BC4 := Lib.hid (below_call ((BC3.out).alloc (BC3.out).size _) hb4); have OC4 := Lib.hid (Dec.own_below (m := 0) (World.ownsRow.alloc (OC3.out) _) hb4); clear hb4; clear HC)
                  | (go_at_call 27; refine (HO1.out _ (HGN.out _ (BC4.out))).mono ?_; rintro _ w5 ⟨rfl, hb5⟩; have BC5 := Lib.hid (below_call (BC4.out) hb5); have OC5 := Lib.hid (Dec.own_below (m := 0) (OC4.out) hb5); clear hb5; clear HO1)
                  | (at_builtin; refine wpList_append_lies _ rfl _ _ _ rfl w.heap.size 40 i0 _ 2 16 Tryz.underlying24 hi hz0 hz1 hz2 rfl (by omega) _ 0 (cellsR []) rfl (World.ownsRow.alloc (OC5.out) _) ⟨w5.heap.size, 0, none⟩ 1 1 [.int .i8 1, .int .i64 0] rfl rfl (by have := World.news_of_block (t := 40) (fr := (0, 0)) (heap_alloc_new w5 (.cells #[.int .i8 1, .int .i64 0] 40)); simpa using this) (by simp [Value.oneCell']) (by omega) (by unfold maxLen; omega) (by omega) (by have := (BC5.out).size; simp; omega) (w5.heap.size + 1) (by simp) ?_; intro g2 cap2 wa2 hown2 hgrow2 hat2 hlt2; have OA2 := Lib.hid hown2; have BA2 := Lib.hid ((BC5.out).trans (appR (BC5.out).size (OC5.out) hgrow2)); clear hown2 hgrow2 hat2 hlt2)
                  | (go_at_call 28; refine (HS.out _ (HGN.out _ (BA2.out))).mono ?_; rintro _ w6 ⟨rfl, hb6⟩; have BC6 := Lib.hid (below_call (BA2.out) hb6); have OC6 := Lib.hid (Dec.own_below (m := 0) (OA2.out) hb6); clear hb6; clear HS)
                  | (go_at_call 29; refine (HN.out _ (HGN.out _ (BC6.out))).mono ?_; rintro _ w7 ⟨rfl, hb7⟩; have BC7 := Lib.hid (below_call (BC6.out) hb7); have OC7 := Lib.hid (Dec.own_below (m := 0) (OC6.out) hb7); clear hb7; clear HN)
                  | (go_at_call 27; refine (HO2.out _ (HGN.out _ (BC7.out))).mono ?_; rintro _ w8 ⟨rfl, hb8⟩; have BC8 := Lib.hid (below_call (BC7.out) hb8); have OC8 := Lib.hid (Dec.own_below (m := 0) (OC7.out) hb8); clear hb8; clear HO2)
                  | (at_builtin; refine wpList_append_lies _ rfl _ _ _ rfl w.heap.size 40 i0 _ 2 16 Tryz.underlying24 hi hz0 hz1 hz2 rfl (by omega) _ 1 (cellsR [(1, 0)]) rfl (World.ownsRow.alloc (OC8.out) _) ⟨w8.heap.size, 0, none⟩ 1 1 [.int .i8 1, .int .i64 0] rfl rfl (by have := World.news_of_block (t := 40) (fr := (0, 0)) (heap_alloc_new w8 (.cells #[.int .i8 1, .int .i64 0] 40)); simpa using this) (by simp [Value.oneCell']) (by omega) (by unfold maxLen; omega) (by omega) (by have := (BC8.out).size; simp; omega) (w8.heap.size + 1) (by simp) ?_; intro g3 cap3 wa3 hown3 hgrow3 hat3 hlt3; have OA3 := Lib.hid hown3; have BA3 := Lib.hid ((BC8.out).trans (appR (BC8.out).size (OC8.out) hgrow3)); clear hown3 hgrow3 hat3 hlt3))
                go_ret3
                exact en_ret HR.out (OA3.out) (BA3.out)
              | true =>
                by_cases e1 : o2 = 1
                · have d1 : (o2 != 1) = false := by rw [e1]; rfl
                  have HR : Hid (R = (0, 0, [(1, 0), (1, 0)])) := Lib.hid (by rw [HEC.out, if_neg (fun h => h.2.1 e1)]; rfl)
                  clear HEC e1
                  go_enter Tryz.func9, Tryz.ntmps9
                  go_wp2_with (first
                    | (go_at_call 14; refine (HX.out _ (HGN.out _ (Below.refl _ w))).mono ?_; rintro _ w1 ⟨rfl, hb1⟩; have BC1 := Lib.hid (below_call (Below.refl _ w) hb1); have OC1 := Lib.hid (Dec.own_below (m := 0) (World.ownsRow_nil w w.heap.size 40 2) hb1); clear hb1; clear HX)
                    | (go_at_call 24; refine (HM.out _ (HGN.out _ (BC1.out))).mono ?_; rintro _ w2 ⟨rfl, hb2⟩; have BC2 := Lib.hid (below_call (BC1.out) hb2); have OC2 := Lib.hid (Dec.own_below (m := 0) (OC1.out) hb2); clear hb2; clear HM)
                    | (go_at_call 25; refine (HP.out _ (HGN.out _ (BC2.out))).mono ?_; rintro _ w3 ⟨p3, cap3, rfl, hp3, hb3⟩; have BC3 := Lib.hid (below_call (BC2.out) hb3); have OC3 := Lib.hid (Dec.own_below (m := 0) (OC2.out) hb3); clear hb3; clear HP)
                    | (go_at_call 26; refine (HC.out _ _ (prs_alloc hp3 _)).mono ?_; rintro _ w4 ⟨rfl, hb4⟩; have BC4 := Lib.hid (below_call ((BC3.out).alloc (BC3.out).size _) hb4); have OC4 := Lib.hid (Dec.own_below (m := 0) (World.ownsRow.alloc (OC3.out) _) hb4); clear hb4; clear HC)
                    | (go_at_call 27; refine (HO1.out _ (HGN.out _ (BC4.out))).mono ?_; rintro _ w5 ⟨rfl, hb5⟩; have BC5 := Lib.hid (below_call (BC4.out) hb5); have OC5 := Lib.hid (Dec.own_below (m := 0) (OC4.out) hb5); clear hb5; clear HO1)
                    | (at_builtin; refine wpList_append_lies _ rfl _ _ _ rfl w.heap.size 40 i0 _ 2 16 Tryz.underlying24 hi hz0 hz1 hz2 rfl (by omega) _ 0 (cellsR []) rfl (World.ownsRow.alloc (OC5.out) _) ⟨w5.heap.size, 0, none⟩ 1 1 [.int .i8 1, .int .i64 0] rfl rfl (by have := World.news_of_block (t := 40) (fr := (0, 0)) (heap_alloc_new w5 (.cells #[.int .i8 1, .int .i64 0] 40)); simpa using this) (by simp [Value.oneCell']) (by omega) (by unfold maxLen; omega) (by omega) (by have := (BC5.out).size; simp; omega) (w5.heap.size + 1) (by simp) ?_; intro g2 cap2 wa2 hown2 hgrow2 hat2 hlt2; have OA2 := Lib.hid hown2; have BA2 := Lib.hid ((BC5.out).trans (appR (BC5.out).size (OC5.out) hgrow2)); clear hown2 hgrow2 hat2 hlt2)
                    | (go_at_call 28; refine (HS.out _ (HGN.out _ (BA2.out))).mono ?_; rintro _ w6 ⟨rfl, hb6⟩; have BC6 := Lib.hid (below_call (BA2.out) hb6); have OC6 := Lib.hid (Dec.own_below (m := 0) (OA2.out) hb6); clear hb6; clear HS)
                    | (go_at_call 29; refine (HN.out _ (HGN.out _ (BC6.out))).mono ?_; rintro _ w7 ⟨rfl, hb7⟩; have BC7 := Lib.hid (below_call (BC6.out) hb7); have OC7 := Lib.hid (Dec.own_below (m := 0) (OC6.out) hb7); clear hb7; clear HN)
                    | (go_at_call 27; refine (HO2.out _ (HGN.out _ (BC7.out))).mono ?_; rintro _ w8 ⟨rfl, hb8⟩; have BC8 := Lib.hid (below_call (BC7.out) hb8); have OC8 := Lib.hid (Dec.own_below (m := 0) (OC7.out) hb8); clear hb8; clear HO2)
                    | (at_builtin; refine wpList_append_lies _ rfl _ _ _ rfl w.heap.size 40 i0 _ 2 16 Tryz.underlying24 hi hz0 hz1 hz2 rfl (by omega) _ 1 (cellsR [(1, 0)]) rfl (World.ownsRow.alloc (OC8.out) _) ⟨w8.heap.size, 0, none⟩ 1 1 [.int .i8 1, .int .i64 0] rfl rfl (by have := World.news_of_block (t := 40) (fr := (0, 0)) (heap_alloc_new w8 (.cells #[.int .i8 1, .int .i64 0] 40)); simpa using this) (by simp [Value.oneCell']) (by omega) (by unfold maxLen; omega) (by omega) (by have := (BC8.out).size; simp; omega) (w8.heap.size + 1) (by simp) ?_; intro g3 cap3 wa3 hown3 hgrow3 hat3 hlt3; have OA3 := Lib.hid hown3; have BA3 := Lib.hid ((BC8.out).trans (appR (BC8.out).size (OC8.out) hgrow3)); clear hown3 hgrow3 hat3 hlt3))
                  go_ret3
                  exact en_ret HR.out (OA3.out) (BA3.out)
                have d1 : (o2 != 1) = true := by simpa using e1
                by_cases e2 : o2 = 2
                · have d2 : (o2 != 2) = false := by rw [e2]; rfl
                  have HR : Hid (R = (0, 0, [(1, 0), (1, 0)])) := Lib.hid (by rw [HEC.out, if_neg (fun h => h.2.2 e2)]; rfl)
                  clear HEC e1 e2
                  go_enter Tryz.func9, Tryz.ntmps9
                  go_wp2_with (first
                    | (go_at_call 14; refine (HX.out _ (HGN.out _ (Below.refl _ w))).mono ?_; rintro _ w1 ⟨rfl, hb1⟩; have BC1 := Lib.hid (below_call (Below.refl _ w) hb1); have OC1 := Lib.hid (Dec.own_below (m := 0) (World.ownsRow_nil w w.heap.size 40 2) hb1); clear hb1; clear HX)
                    | (go_at_call 24; refine (HM.out _ (HGN.out _ (BC1.out))).mono ?_; rintro _ w2 ⟨rfl, hb2⟩; have BC2 := Lib.hid (below_call (BC1.out) hb2); have OC2 := Lib.hid (Dec.own_below (m := 0) (OC1.out) hb2); clear hb2; clear HM)
                    | (go_at_call 25; refine (HP.out _ (HGN.out _ (BC2.out))).mono ?_; rintro _ w3 ⟨p3, cap3, rfl, hp3, hb3⟩; have BC3 := Lib.hid (below_call (BC2.out) hb3); have OC3 := Lib.hid (Dec.own_below (m := 0) (OC2.out) hb3); clear hb3; clear HP)
                    | (go_at_call 26; refine (HC.out _ _ (prs_alloc hp3 _)).mono ?_; rintro _ w4 ⟨rfl, hb4⟩; have BC4 := Lib.hid (below_call ((BC3.out).alloc (BC3.out).size _) hb4); have OC4 := Lib.hid (Dec.own_below (m := 0) (World.ownsRow.alloc (OC3.out) _) hb4); clear hb4; clear HC)
                    | (go_at_call 27; refine (HO1.out _ (HGN.out _ (BC4.out))).mono ?_; rintro _ w5 ⟨rfl, hb5⟩; have BC5 := Lib.hid (below_call (BC4.out) hb5); have OC5 := Lib.hid (Dec.own_below (m := 0) (OC4.out) hb5); clear hb5; clear HO1)
                    | (at_builtin; refine wpList_append_lies _ rfl _ _ _ rfl w.heap.size 40 i0 _ 2 16 Tryz.underlying24 hi hz0 hz1 hz2 rfl (by omega) _ 0 (cellsR []) rfl (World.ownsRow.alloc (OC5.out) _) ⟨w5.heap.size, 0, none⟩ 1 1 [.int .i8 1, .int .i64 0] rfl rfl (by have := World.news_of_block (t := 40) (fr := (0, 0)) (heap_alloc_new w5 (.cells #[.int .i8 1, .int .i64 0] 40)); simpa using this) (by simp [Value.oneCell']) (by omega) (by unfold maxLen; omega) (by omega) (by have := (BC5.out).size; simp; omega) (w5.heap.size + 1) (by simp) ?_; intro g2 cap2 wa2 hown2 hgrow2 hat2 hlt2; have OA2 := Lib.hid hown2; have BA2 := Lib.hid ((BC5.out).trans (appR (BC5.out).size (OC5.out) hgrow2)); clear hown2 hgrow2 hat2 hlt2)
                    | (go_at_call 28; refine (HS.out _ (HGN.out _ (BA2.out))).mono ?_; rintro _ w6 ⟨rfl, hb6⟩; have BC6 := Lib.hid (below_call (BA2.out) hb6); have OC6 := Lib.hid (Dec.own_below (m := 0) (OA2.out) hb6); clear hb6; clear HS)
                    | (go_at_call 29; refine (HN.out _ (HGN.out _ (BC6.out))).mono ?_; rintro _ w7 ⟨rfl, hb7⟩; have BC7 := Lib.hid (below_call (BC6.out) hb7); have OC7 := Lib.hid (Dec.own_below (m := 0) (OC6.out) hb7); clear hb7; clear HN)
                    | (go_at_call 27; refine (HO2.out _ (HGN.out _ (BC7.out))).mono ?_; rintro _ w8 ⟨rfl, hb8⟩; have BC8 := Lib.hid (below_call (BC7.out) hb8); have OC8 := Lib.hid (Dec.own_below (m := 0) (OC7.out) hb8); clear hb8; clear HO2)
                    | (at_builtin; refine wpList_append_lies _ rfl _ _ _ rfl w.heap.size 40 i0 _ 2 16 Tryz.underlying24 hi hz0 hz1 hz2 rfl (by omega) _ 1 (cellsR [(1, 0)]) rfl (World.ownsRow.alloc (OC8.out) _) ⟨w8.heap.size, 0, none⟩ 1 1 [.int .i8 1, .int .i64 0] rfl rfl (by have := World.news_of_block (t := 40) (fr := (0, 0)) (heap_alloc_new w8 (.cells #[.int .i8 1, .int .i64 0] 40)); simpa using this) (by simp [Value.oneCell']) (by omega) (by unfold maxLen; omega) (by omega) (by have := (BC8.out).size; simp; omega) (w8.heap.size + 1) (by simp) ?_; intro g3 cap3 wa3 hown3 hgrow3 hat3 hlt3; have OA3 := Lib.hid hown3; have BA3 := Lib.hid ((BC8.out).trans (appR (BC8.out).size (OC8.out) hgrow3)); clear hown3 hgrow3 hat3 hlt3))
                  go_ret3
                  exact en_ret HR.out (OA3.out) (BA3.out)
                have d2 : (o2 != 2) = true := by simpa using e2
                have HR : Hid (R = (o2, 0, [(1, 0)])) := Lib.hid (by rw [HEC.out, if_pos ⟨rfl, e1, e2⟩])
                clear HEC e1 e2
                go_enter Tryz.func9, Tryz.ntmps9
                go_wp2_with (first
                  | (go_at_call 14; refine (HX.out _ (HGN.out _ (Below.refl _ w))).mono ?_; rintro _ w1 ⟨rfl, hb1⟩; have BC1 := Lib.hid (below_call (Below.refl _ w) hb1); have OC1 := Lib.hid (Dec.own_below (m := 0) (World.ownsRow_nil w w.heap.size 40 2) hb1); clear hb1; clear HX)
                  | (go_at_call 24; refine (HM.out _ (HGN.out _ (BC1.out))).mono ?_; rintro _ w2 ⟨rfl, hb2⟩; have BC2 := Lib.hid (below_call (BC1.out) hb2); have OC2 := Lib.hid (Dec.own_below (m := 0) (OC1.out) hb2); clear hb2; clear HM)
                  | (go_at_call 25; refine (HP.out _ (HGN.out _ (BC2.out))).mono ?_; rintro _ w3 ⟨p3, cap3, rfl, hp3, hb3⟩; have BC3 := Lib.hid (below_call (BC2.out) hb3); have OC3 := Lib.hid (Dec.own_below (m := 0) (OC2.out) hb3); clear hb3; clear HP)
                  | (go_at_call 26; refine (HC.out _ _ (prs_alloc hp3 _)).mono ?_; rintro _ w4 ⟨rfl, hb4⟩; have BC4 := Lib.hid (below_call ((BC3.out).alloc (BC3.out).size _) hb4); have OC4 := Lib.hid (Dec.own_below (m := 0) (World.ownsRow.alloc (OC3.out) _) hb4); clear hb4; clear HC)
                  | (go_at_call 27; refine (HO1.out _ (HGN.out _ (BC4.out))).mono ?_; rintro _ w5 ⟨rfl, hb5⟩; have BC5 := Lib.hid (below_call (BC4.out) hb5); have OC5 := Lib.hid (Dec.own_below (m := 0) (OC4.out) hb5); clear hb5; clear HO1)
                  | (at_builtin; refine wpList_append_lies _ rfl _ _ _ rfl w.heap.size 40 i0 _ 2 16 Tryz.underlying24 hi hz0 hz1 hz2 rfl (by omega) _ 0 (cellsR []) rfl (World.ownsRow.alloc (OC5.out) _) ⟨w5.heap.size, 0, none⟩ 1 1 [.int .i8 1, .int .i64 0] rfl rfl (by have := World.news_of_block (t := 40) (fr := (0, 0)) (heap_alloc_new w5 (.cells #[.int .i8 1, .int .i64 0] 40)); simpa using this) (by simp [Value.oneCell']) (by omega) (by unfold maxLen; omega) (by omega) (by have := (BC5.out).size; simp; omega) (w5.heap.size + 1) (by simp) ?_; intro g2 cap2 wa2 hown2 hgrow2 hat2 hlt2; have OA2 := Lib.hid hown2; have BA2 := Lib.hid ((BC5.out).trans (appR (BC5.out).size (OC5.out) hgrow2)); clear hown2 hgrow2 hat2 hlt2)
                  | (go_at_call 28; refine (HS.out _ (HGN.out _ (BA2.out))).mono ?_; rintro _ w6 ⟨rfl, hb6⟩; have BC6 := Lib.hid (below_call (BA2.out) hb6); have OC6 := Lib.hid (Dec.own_below (m := 0) (OA2.out) hb6); clear hb6; clear HS)
                  | (go_at_call 29; refine (HN.out _ (HGN.out _ (BC6.out))).mono ?_; rintro _ w7 ⟨rfl, hb7⟩; have BC7 := Lib.hid (below_call (BC6.out) hb7); have OC7 := Lib.hid (Dec.own_below (m := 0) (OC6.out) hb7); clear hb7; clear HN)
                  | (go_at_call 27; refine (HO2.out _ (HGN.out _ (BC7.out))).mono ?_; rintro _ w8 ⟨rfl, hb8⟩; have BC8 := Lib.hid (below_call (BC7.out) hb8); have OC8 := Lib.hid (Dec.own_below (m := 0) (OC7.out) hb8); clear hb8; clear HO2))
                go_ret3
                exact en_ret HR.out (OC8.out) (BC8.out)
  | false =>
    replace hx0 : A0 = [(0, 0)] := hx0
    subst hx0
    cases hm : Dec.mrk body with
    | some mm =>
      rw [hm] at HM HEF
      have HR : Hid (R = ((mm.1 : Int), (mm.2 : Int), [(0, 0)])) := Lib.hid HEF.out
      obtain ⟨m1, m2⟩ := mm
      replace HM : Hid (∀ w', G8 w' → Calls Tryz.prog 24 #[.string S2] w' fun e w'' => e = .returned (.tuple #[.int .i8 (m1 : Int), .int .i64 (m2 : Int), .bool true]) ∧ Below w'.heap.size w' w'') := HM
      clear hm HEF HEB HO1 HO2 HC HP HS HN
      go_enter Tryz.func9, Tryz.ntmps9
      go_wp2_with (first
        | (go_at_call 14; refine (HX.out _ (HGN.out _ (Below.refl _ w))).mono ?_; rintro _ w1 ⟨rfl, hb1⟩; have BC1 := Lib.hid (below_call (Below.refl _ w) hb1); have OC1 := Lib.hid (Dec.own_below (m := 0) (World.ownsRow_nil w w.heap.size 40 2) hb1); clear hb1; clear HX)
        | (at_builtin; refine wpList_append_lies _ rfl _ _ _ rfl w.heap.size 40 i0 _ 2 16 Tryz.underlying24 hi hz0 hz1 hz2 rfl (by omega) _ 0 (cellsR []) rfl (World.ownsRow.alloc (OC1.out) _) ⟨w1.heap.size, 0, none⟩ 1 1 [.int .i8 0, .int .i64 0] rfl rfl (by have := World.news_of_block (t := 40) (fr := (0, 0)) (heap_alloc_new w1 (.cells #[.int .i8 0, .int .i64 0] 40)); simpa using this) (by simp [Value.oneCell']) (by omega) (by unfold maxLen; omega) (by omega) (by have := (BC1.out).size; simp; omega) (w1.heap.size + 1) (by simp) ?_; intro g1 cap1 wa1 hown1 hgrow1 hat1 hlt1; have OA1 := Lib.hid hown1; have BA1 := Lib.hid ((BC1.out).trans (appR (BC1.out).size (OC1.out) hgrow1)); clear hown1 hgrow1 hat1 hlt1)
        | (go_at_call 24; refine (HM.out _ (HGN.out _ (BA1.out))).mono ?_; rintro _ w2 ⟨rfl, hb2⟩; have BC2 := Lib.hid (below_call (BA1.out) hb2); have OC2 := Lib.hid (Dec.own_below (m := 0) (OA1.out) hb2); clear hb2; clear HM))
      go_ret3
      exact en_ret HR.out (OC2.out) (BC2.out)
    | none =>
      rw [hm] at HM HEF
      replace HM : Hid (∀ w', G8 w' → Calls Tryz.prog 24 #[.string S2] w' fun e w'' => e = .returned (.tuple #[.int .i8 0, .int .i64 0, .bool false]) ∧ Below w'.heap.size w' w'') := HM
      clear hm
      cases t with
      | false =>
        clear HO1
        have HEC : Hid (R = encB body [(0, 0)]) := Lib.hid HEF.out
        rw [HEB.out] at HEC
        clear HEF HEB
        cases hsh : Dec.shp body with
        | some ee =>
          rw [hsh] at HS HEC
          have HR : Hid (R = ((ee : Int), 0, [(0, 0)])) := Lib.hid HEC.out
          replace HS : Hid (∀ w', G8 w' → Calls Tryz.prog 28 #[.string S2] w' fun e w'' => e = .returned (.tuple #[.int .i8 (ee : Int), .bool true]) ∧ Below w'.heap.size w' w'') := HS
          clear hsh HEC HO2 HN
          go_enter Tryz.func9, Tryz.ntmps9
          go_wp2_with (first
            | (go_at_call 14; refine (HX.out _ (HGN.out _ (Below.refl _ w))).mono ?_; rintro _ w1 ⟨rfl, hb1⟩; have BC1 := Lib.hid (below_call (Below.refl _ w) hb1); have OC1 := Lib.hid (Dec.own_below (m := 0) (World.ownsRow_nil w w.heap.size 40 2) hb1); clear hb1; clear HX)
            | (at_builtin; refine wpList_append_lies _ rfl _ _ _ rfl w.heap.size 40 i0 _ 2 16 Tryz.underlying24 hi hz0 hz1 hz2 rfl (by omega) _ 0 (cellsR []) rfl (World.ownsRow.alloc (OC1.out) _) ⟨w1.heap.size, 0, none⟩ 1 1 [.int .i8 0, .int .i64 0] rfl rfl (by have := World.news_of_block (t := 40) (fr := (0, 0)) (heap_alloc_new w1 (.cells #[.int .i8 0, .int .i64 0] 40)); simpa using this) (by simp [Value.oneCell']) (by omega) (by unfold maxLen; omega) (by omega) (by have := (BC1.out).size; simp; omega) (w1.heap.size + 1) (by simp) ?_; intro g1 cap1 wa1 hown1 hgrow1 hat1 hlt1; have OA1 := Lib.hid hown1; have BA1 := Lib.hid ((BC1.out).trans (appR (BC1.out).size (OC1.out) hgrow1)); clear hown1 hgrow1 hat1 hlt1)
            | (go_at_call 24; refine (HM.out _ (HGN.out _ (BA1.out))).mono ?_; rintro _ w2 ⟨rfl, hb2⟩; have BC2 := Lib.hid (below_call (BA1.out) hb2); have OC2 := Lib.hid (Dec.own_below (m := 0) (OA1.out) hb2); clear hb2; clear HM)
            | (go_at_call 25; refine (HP.out _ (HGN.out _ (BC2.out))).mono ?_; rintro _ w3 ⟨p3, cap3, rfl, hp3, hb3⟩; have BC3 := Lib.hid (below_call (BC2.out) hb3); have OC3 := Lib.hid (Dec.own_below (m := 0) (OC2.out) hb3); clear hb3; clear HP)
            | (go_at_call 26; refine (HC.out _ _ (prs_alloc hp3 _)).mono ?_; rintro _ w4 ⟨rfl, hb4⟩; have BC4 := Lib.hid (below_call ((BC3.out).alloc (BC3.out).size _) hb4); have OC4 := Lib.hid (Dec.own_below (m := 0) (World.ownsRow.alloc (OC3.out) _) hb4); clear hb4; clear HC)
            | (go_at_call 28; refine (HS.out _ (HGN.out _ (BC4.out))).mono ?_; rintro _ w6 ⟨rfl, hb6⟩; have BC6 := Lib.hid (below_call (BC4.out) hb6); have OC6 := Lib.hid (Dec.own_below (m := 0) (OC4.out) hb6); clear hb6; clear HS))
          go_ret3
          exact en_ret HR.out (OC6.out) (BC6.out)
        | none =>
          rw [hsh] at HS HEC
          replace HS : Hid (∀ w', G8 w' → Calls Tryz.prog 28 #[.string S2] w' fun e w'' => e = .returned (.tuple #[.int .i8 0, .bool false]) ∧ Below w'.heap.size w' w'') := HS
          clear hsh
          cases hsc : Dec.scn body with
          | none =>
            rw [hsc] at HN HEC
            have HR : Hid (R = (0, 0, [(0, 0)])) := Lib.hid HEC.out
            replace HN : Hid (∀ w', G8 w' → Calls Tryz.prog 29 #[.string S2] w' fun e w'' => e = .returned (.tuple #[.string ⟨#[]⟩, .bool false]) ∧ Below w'.heap.size w' w'') := HN
            clear hsc HEC HO2
            go_enter Tryz.func9, Tryz.ntmps9
            go_wp2_with (first
              | (go_at_call 14; refine (HX.out _ (HGN.out _ (Below.refl _ w))).mono ?_; rintro _ w1 ⟨rfl, hb1⟩; have BC1 := Lib.hid (below_call (Below.refl _ w) hb1); have OC1 := Lib.hid (Dec.own_below (m := 0) (World.ownsRow_nil w w.heap.size 40 2) hb1); clear hb1; clear HX)
              | (at_builtin; refine wpList_append_lies _ rfl _ _ _ rfl w.heap.size 40 i0 _ 2 16 Tryz.underlying24 hi hz0 hz1 hz2 rfl (by omega) _ 0 (cellsR []) rfl (World.ownsRow.alloc (OC1.out) _) ⟨w1.heap.size, 0, none⟩ 1 1 [.int .i8 0, .int .i64 0] rfl rfl (by have := World.news_of_block (t := 40) (fr := (0, 0)) (heap_alloc_new w1 (.cells #[.int .i8 0, .int .i64 0] 40)); simpa using this) (by simp [Value.oneCell']) (by omega) (by unfold maxLen; omega) (by omega) (by have := (BC1.out).size; simp; omega) (w1.heap.size + 1) (by simp) ?_; intro g1 cap1 wa1 hown1 hgrow1 hat1 hlt1; have OA1 := Lib.hid hown1; have BA1 := Lib.hid ((BC1.out).trans (appR (BC1.out).size (OC1.out) hgrow1)); clear hown1 hgrow1 hat1 hlt1)
              | (go_at_call 24; refine (HM.out _ (HGN.out _ (BA1.out))).mono ?_; rintro _ w2 ⟨rfl, hb2⟩; have BC2 := Lib.hid (below_call (BA1.out) hb2); have OC2 := Lib.hid (Dec.own_below (m := 0) (OA1.out) hb2); clear hb2; clear HM)
              | (go_at_call 25; refine (HP.out _ (HGN.out _ (BC2.out))).mono ?_; rintro _ w3 ⟨p3, cap3, rfl, hp3, hb3⟩; have BC3 := Lib.hid (below_call (BC2.out) hb3); have OC3 := Lib.hid (Dec.own_below (m := 0) (OC2.out) hb3); clear hb3; clear HP)
              | (go_at_call 26; refine (HC.out _ _ (prs_alloc hp3 _)).mono ?_; rintro _ w4 ⟨rfl, hb4⟩; have BC4 := Lib.hid (below_call ((BC3.out).alloc (BC3.out).size _) hb4); have OC4 := Lib.hid (Dec.own_below (m := 0) (World.ownsRow.alloc (OC3.out) _) hb4); clear hb4; clear HC)
              | (go_at_call 28; refine (HS.out _ (HGN.out _ (BC4.out))).mono ?_; rintro _ w6 ⟨rfl, hb6⟩; have BC6 := Lib.hid (below_call (BC4.out) hb6); have OC6 := Lib.hid (Dec.own_below (m := 0) (OC4.out) hb6); clear hb6; clear HS)
              | (go_at_call 29; refine (HN.out _ (HGN.out _ (BC6.out))).mono ?_; rintro _ w7 ⟨rfl, hb7⟩; have BC7 := Lib.hid (below_call (BC6.out) hb7); have OC7 := Lib.hid (Dec.own_below (m := 0) (OC6.out) hb7); clear hb7; clear HN))
            go_ret3
            exact en_ret HR.out (OC7.out) (BC7.out)
          | some y =>
            replace HO2 := Lib.hid (HO2.out y hsc)
            rw [hsc] at HN HEC
            replace HN : Hid (∀ w', G8 w' → Calls Tryz.prog 29 #[.string S2] w' fun e w'' => e = .returned (.tuple #[.string (str y), .bool true]) ∧ Below w'.heap.size w' w'') := HN
            obtain ⟨o2, ok2, ho2⟩ : ∃ o ok, Lab.ofL y = (o, ok) := ⟨_, _, rfl⟩
            replace HEC : Hid (R = if (Lab.ofL y).2 = true ∧ (Lab.ofL y).1 ≠ 1 ∧ (Lab.ofL y).1 ≠ 2 then ((Lab.ofL y).1, 0, [(0, 0)]) else (0, 0, [(0, 0)] ++ [(1, 0)])) := HEC
            rw [ho2] at HO2 HEC
            dsimp only at HO2 HEC
            obtain ⟨Y, hY⟩ : ∃ Y, str y = Y := ⟨_, rfl⟩
            rw [hY] at HN HO2
            clear hY ho2 hsc
            cases ok2 with
            | false =>
              have HR : Hid (R = (0, 0, [(0, 0), (1, 0)])) := Lib.hid (by rw [HEC.out]; rfl)
              clear HEC
              go_enter Tryz.func9, Tryz.ntmps9
              go_wp2_with (first
                | (go_at_call 14; refine (HX.out _ (HGN.out _ (Below.refl _ w))).mono ?_; rintro _ w1 ⟨rfl, hb1⟩; have BC1 := Lib.hid (below_call (Below.refl _ w) hb1); have OC1 := Lib.hid (Dec.own_below (m := 0) (World.ownsRow_nil w w.heap.size 40 2) hb1); clear hb1; clear HX)
                | (at_builtin; refine wpList_append_lies _ rfl _ _ _ rfl w.heap.size 40 i0 _ 2 16 Tryz.underlying24 hi hz0 hz1 hz2 rfl (by omega) _ 0 (cellsR []) rfl (World.ownsRow.alloc (OC1.out) _) ⟨w1.heap.size, 0, none⟩ 1 1 [.int .i8 0, .int .i64 0] rfl rfl (by have := World.news_of_block (t := 40) (fr := (0, 0)) (heap_alloc_new w1 (.cells #[.int .i8 0, .int .i64 0] 40)); simpa using this) (by simp [Value.oneCell']) (by omega) (by unfold maxLen; omega) (by omega) (by have := (BC1.out).size; simp; omega) (w1.heap.size + 1) (by simp) ?_; intro g1 cap1 wa1 hown1 hgrow1 hat1 hlt1; have OA1 := Lib.hid hown1; have BA1 := Lib.hid ((BC1.out).trans (appR (BC1.out).size (OC1.out) hgrow1)); clear hown1 hgrow1 hat1 hlt1)
                | (go_at_call 24; refine (HM.out _ (HGN.out _ (BA1.out))).mono ?_; rintro _ w2 ⟨rfl, hb2⟩; have BC2 := Lib.hid (below_call (BA1.out) hb2); have OC2 := Lib.hid (Dec.own_below (m := 0) (OA1.out) hb2); clear hb2; clear HM)
                | (go_at_call 25; refine (HP.out _ (HGN.out _ (BC2.out))).mono ?_; rintro _ w3 ⟨p3, cap3, rfl, hp3, hb3⟩; have BC3 := Lib.hid (below_call (BC2.out) hb3); have OC3 := Lib.hid (Dec.own_below (m := 0) (OC2.out) hb3); clear hb3; clear HP)
                | (go_at_call 26; refine (HC.out _ _ (prs_alloc hp3 _)).mono ?_; rintro _ w4 ⟨rfl, hb4⟩; have BC4 := Lib.hid (below_call ((BC3.out).alloc (BC3.out).size _) hb4); have OC4 := Lib.hid (Dec.own_below (m := 0) (World.ownsRow.alloc (OC3.out) _) hb4); clear hb4; clear HC)
                | (go_at_call 28; refine (HS.out _ (HGN.out _ (BC4.out))).mono ?_; rintro _ w6 ⟨rfl, hb6⟩; have BC6 := Lib.hid (below_call (BC4.out) hb6); have OC6 := Lib.hid (Dec.own_below (m := 0) (OC4.out) hb6); clear hb6; clear HS)
                | (go_at_call 29; refine (HN.out _ (HGN.out _ (BC6.out))).mono ?_; rintro _ w7 ⟨rfl, hb7⟩; have BC7 := Lib.hid (below_call (BC6.out) hb7); have OC7 := Lib.hid (Dec.own_below (m := 0) (OC6.out) hb7); clear hb7; clear HN)
                | (go_at_call 27; refine (HO2.out _ (HGN.out _ (BC7.out))).mono ?_; rintro _ w8 ⟨rfl, hb8⟩; have BC8 := Lib.hid (below_call (BC7.out) hb8); have OC8 := Lib.hid (Dec.own_below (m := 0) (OC7.out) hb8); clear hb8; clear HO2)
                | (at_builtin; refine wpList_append_lies _ rfl _ _ _ rfl w.heap.size 40 i0 _ 2 16 Tryz.underlying24 hi hz0 hz1 hz2 rfl (by omega) _ 1 (cellsR [(0, 0)]) rfl (World.ownsRow.alloc (OC8.out) _) ⟨w8.heap.size, 0, none⟩ 1 1 [.int .i8 1, .int .i64 0] rfl rfl (by have := World.news_of_block (t := 40) (fr := (0, 0)) (heap_alloc_new w8 (.cells #[.int .i8 1, .int .i64 0] 40)); simpa using this) (by simp [Value.oneCell']) (by omega) (by unfold maxLen; omega) (by omega) (by have := (BC8.out).size; simp; omega) (w8.heap.size + 1) (by simp) ?_; intro g3 cap3 wa3 hown3 hgrow3 hat3 hlt3; have OA3 := Lib.hid hown3; have BA3 := Lib.hid ((BC8.out).trans (appR (BC8.out).size (OC8.out) hgrow3)); clear hown3 hgrow3 hat3 hlt3))
              go_ret3
              exact en_ret HR.out (OA3.out) (BA3.out)
            | true =>
              by_cases e1 : o2 = 1
              · have d1 : (o2 != 1) = false := by rw [e1]; rfl
                have HR : Hid (R = (0, 0, [(0, 0), (1, 0)])) := Lib.hid (by rw [HEC.out, if_neg (fun h => h.2.1 e1)]; rfl)
                clear HEC e1
                go_enter Tryz.func9, Tryz.ntmps9
                go_wp2_with (first
                  | (go_at_call 14; refine (HX.out _ (HGN.out _ (Below.refl _ w))).mono ?_; rintro _ w1 ⟨rfl, hb1⟩; have BC1 := Lib.hid (below_call (Below.refl _ w) hb1); have OC1 := Lib.hid (Dec.own_below (m := 0) (World.ownsRow_nil w w.heap.size 40 2) hb1); clear hb1; clear HX)
                  | (at_builtin; refine wpList_append_lies _ rfl _ _ _ rfl w.heap.size 40 i0 _ 2 16 Tryz.underlying24 hi hz0 hz1 hz2 rfl (by omega) _ 0 (cellsR []) rfl (World.ownsRow.alloc (OC1.out) _) ⟨w1.heap.size, 0, none⟩ 1 1 [.int .i8 0, .int .i64 0] rfl rfl (by have := World.news_of_block (t := 40) (fr := (0, 0)) (heap_alloc_new w1 (.cells #[.int .i8 0, .int .i64 0] 40)); simpa using this) (by simp [Value.oneCell']) (by omega) (by unfold maxLen; omega) (by omega) (by have := (BC1.out).size; simp; omega) (w1.heap.size + 1) (by simp) ?_; intro g1 cap1 wa1 hown1 hgrow1 hat1 hlt1; have OA1 := Lib.hid hown1; have BA1 := Lib.hid ((BC1.out).trans (appR (BC1.out).size (OC1.out) hgrow1)); clear hown1 hgrow1 hat1 hlt1)
                  | (go_at_call 24; refine (HM.out _ (HGN.out _ (BA1.out))).mono ?_; rintro _ w2 ⟨rfl, hb2⟩; have BC2 := Lib.hid (below_call (BA1.out) hb2); have OC2 := Lib.hid (Dec.own_below (m := 0) (OA1.out) hb2); clear hb2; clear HM)
                  | (go_at_call 25; refine (HP.out _ (HGN.out _ (BC2.out))).mono ?_; rintro _ w3 ⟨p3, cap3, rfl, hp3, hb3⟩; have BC3 := Lib.hid (below_call (BC2.out) hb3); have OC3 := Lib.hid (Dec.own_below (m := 0) (OC2.out) hb3); clear hb3; clear HP)
                  | (go_at_call 26; refine (HC.out _ _ (prs_alloc hp3 _)).mono ?_; rintro _ w4 ⟨rfl, hb4⟩; have BC4 := Lib.hid (below_call ((BC3.out).alloc (BC3.out).size _) hb4); have OC4 := Lib.hid (Dec.own_below (m := 0) (World.ownsRow.alloc (OC3.out) _) hb4); clear hb4; clear HC)
                  | (go_at_call 28; refine (HS.out _ (HGN.out _ (BC4.out))).mono ?_; rintro _ w6 ⟨rfl, hb6⟩; have BC6 := Lib.hid (below_call (BC4.out) hb6); have OC6 := Lib.hid (Dec.own_below (m := 0) (OC4.out) hb6); clear hb6; clear HS)
                  | (go_at_call 29; refine (HN.out _ (HGN.out _ (BC6.out))).mono ?_; rintro _ w7 ⟨rfl, hb7⟩; have BC7 := Lib.hid (below_call (BC6.out) hb7); have OC7 := Lib.hid (Dec.own_below (m := 0) (OC6.out) hb7); clear hb7; clear HN)
                  | (go_at_call 27; refine (HO2.out _ (HGN.out _ (BC7.out))).mono ?_; rintro _ w8 ⟨rfl, hb8⟩; have BC8 := Lib.hid (below_call (BC7.out) hb8); have OC8 := Lib.hid (Dec.own_below (m := 0) (OC7.out) hb8); clear hb8; clear HO2)
                  | (at_builtin; refine wpList_append_lies _ rfl _ _ _ rfl w.heap.size 40 i0 _ 2 16 Tryz.underlying24 hi hz0 hz1 hz2 rfl (by omega) _ 1 (cellsR [(0, 0)]) rfl (World.ownsRow.alloc (OC8.out) _) ⟨w8.heap.size, 0, none⟩ 1 1 [.int .i8 1, .int .i64 0] rfl rfl (by have := World.news_of_block (t := 40) (fr := (0, 0)) (heap_alloc_new w8 (.cells #[.int .i8 1, .int .i64 0] 40)); simpa using this) (by simp [Value.oneCell']) (by omega) (by unfold maxLen; omega) (by omega) (by have := (BC8.out).size; simp; omega) (w8.heap.size + 1) (by simp) ?_; intro g3 cap3 wa3 hown3 hgrow3 hat3 hlt3; have OA3 := Lib.hid hown3; have BA3 := Lib.hid ((BC8.out).trans (appR (BC8.out).size (OC8.out) hgrow3)); clear hown3 hgrow3 hat3 hlt3))
                go_ret3
                exact en_ret HR.out (OA3.out) (BA3.out)
              have d1 : (o2 != 1) = true := by simpa using e1
              by_cases e2 : o2 = 2
              · have d2 : (o2 != 2) = false := by rw [e2]; rfl
                have HR : Hid (R = (0, 0, [(0, 0), (1, 0)])) := Lib.hid (by rw [HEC.out, if_neg (fun h => h.2.2 e2)]; rfl)
                clear HEC e1 e2
                go_enter Tryz.func9, Tryz.ntmps9
                go_wp2_with (first
                  | (go_at_call 14; refine (HX.out _ (HGN.out _ (Below.refl _ w))).mono ?_; rintro _ w1 ⟨rfl, hb1⟩; have BC1 := Lib.hid (below_call (Below.refl _ w) hb1); have OC1 := Lib.hid (Dec.own_below (m := 0) (World.ownsRow_nil w w.heap.size 40 2) hb1); clear hb1; clear HX)
                  | (at_builtin; refine wpList_append_lies _ rfl _ _ _ rfl w.heap.size 40 i0 _ 2 16 Tryz.underlying24 hi hz0 hz1 hz2 rfl (by omega) _ 0 (cellsR []) rfl (World.ownsRow.alloc (OC1.out) _) ⟨w1.heap.size, 0, none⟩ 1 1 [.int .i8 0, .int .i64 0] rfl rfl (by have := World.news_of_block (t := 40) (fr := (0, 0)) (heap_alloc_new w1 (.cells #[.int .i8 0, .int .i64 0] 40)); simpa using this) (by simp [Value.oneCell']) (by omega) (by unfold maxLen; omega) (by omega) (by have := (BC1.out).size; simp; omega) (w1.heap.size + 1) (by simp) ?_; intro g1 cap1 wa1 hown1 hgrow1 hat1 hlt1; have OA1 := Lib.hid hown1; have BA1 := Lib.hid ((BC1.out).trans (appR (BC1.out).size (OC1.out) hgrow1)); clear hown1 hgrow1 hat1 hlt1)
                  | (go_at_call 24; refine (HM.out _ (HGN.out _ (BA1.out))).mono ?_; rintro _ w2 ⟨rfl, hb2⟩; have BC2 := Lib.hid (below_call (BA1.out) hb2); have OC2 := Lib.hid (Dec.own_below (m := 0) (OA1.out) hb2); clear hb2; clear HM)
                  | (go_at_call 25; refine (HP.out _ (HGN.out _ (BC2.out))).mono ?_; rintro _ w3 ⟨p3, cap3, rfl, hp3, hb3⟩; have BC3 := Lib.hid (below_call (BC2.out) hb3); have OC3 := Lib.hid (Dec.own_below (m := 0) (OC2.out) hb3); clear hb3; clear HP)
                  | (go_at_call 26; refine (HC.out _ _ (prs_alloc hp3 _)).mono ?_; rintro _ w4 ⟨rfl, hb4⟩; have BC4 := Lib.hid (below_call ((BC3.out).alloc (BC3.out).size _) hb4); have OC4 := Lib.hid (Dec.own_below (m := 0) (World.ownsRow.alloc (OC3.out) _) hb4); clear hb4; clear HC)
                  | (go_at_call 28; refine (HS.out _ (HGN.out _ (BC4.out))).mono ?_; rintro _ w6 ⟨rfl, hb6⟩; have BC6 := Lib.hid (below_call (BC4.out) hb6); have OC6 := Lib.hid (Dec.own_below (m := 0) (OC4.out) hb6); clear hb6; clear HS)
                  | (go_at_call 29; refine (HN.out _ (HGN.out _ (BC6.out))).mono ?_; rintro _ w7 ⟨rfl, hb7⟩; have BC7 := Lib.hid (below_call (BC6.out) hb7); have OC7 := Lib.hid (Dec.own_below (m := 0) (OC6.out) hb7); clear hb7; clear HN)
                  | (go_at_call 27; refine (HO2.out _ (HGN.out _ (BC7.out))).mono ?_; rintro _ w8 ⟨rfl, hb8⟩; have BC8 := Lib.hid (below_call (BC7.out) hb8); have OC8 := Lib.hid (Dec.own_below (m := 0) (OC7.out) hb8); clear hb8; clear HO2)
                  | (at_builtin; refine wpList_append_lies _ rfl _ _ _ rfl w.heap.size 40 i0 _ 2 16 Tryz.underlying24 hi hz0 hz1 hz2 rfl (by omega) _ 1 (cellsR [(0, 0)]) rfl (World.ownsRow.alloc (OC8.out) _) ⟨w8.heap.size, 0, none⟩ 1 1 [.int .i8 1, .int .i64 0] rfl rfl (by have := World.news_of_block (t := 40) (fr := (0, 0)) (heap_alloc_new w8 (.cells #[.int .i8 1, .int .i64 0] 40)); simpa using this) (by simp [Value.oneCell']) (by omega) (by unfold maxLen; omega) (by omega) (by have := (BC8.out).size; simp; omega) (w8.heap.size + 1) (by simp) ?_; intro g3 cap3 wa3 hown3 hgrow3 hat3 hlt3; have OA3 := Lib.hid hown3; have BA3 := Lib.hid ((BC8.out).trans (appR (BC8.out).size (OC8.out) hgrow3)); clear hown3 hgrow3 hat3 hlt3))
                go_ret3
                exact en_ret HR.out (OA3.out) (BA3.out)
              have d2 : (o2 != 2) = true := by simpa using e2
              have HR : Hid (R = (o2, 0, [(0, 0)])) := Lib.hid (by rw [HEC.out, if_pos ⟨rfl, e1, e2⟩])
              clear HEC e1 e2
              go_enter Tryz.func9, Tryz.ntmps9
              go_wp2_with (first
                | (go_at_call 14; refine (HX.out _ (HGN.out _ (Below.refl _ w))).mono ?_; rintro _ w1 ⟨rfl, hb1⟩; have BC1 := Lib.hid (below_call (Below.refl _ w) hb1); have OC1 := Lib.hid (Dec.own_below (m := 0) (World.ownsRow_nil w w.heap.size 40 2) hb1); clear hb1; clear HX)
                | (at_builtin; refine wpList_append_lies _ rfl _ _ _ rfl w.heap.size 40 i0 _ 2 16 Tryz.underlying24 hi hz0 hz1 hz2 rfl (by omega) _ 0 (cellsR []) rfl (World.ownsRow.alloc (OC1.out) _) ⟨w1.heap.size, 0, none⟩ 1 1 [.int .i8 0, .int .i64 0] rfl rfl (by have := World.news_of_block (t := 40) (fr := (0, 0)) (heap_alloc_new w1 (.cells #[.int .i8 0, .int .i64 0] 40)); simpa using this) (by simp [Value.oneCell']) (by omega) (by unfold maxLen; omega) (by omega) (by have := (BC1.out).size; simp; omega) (w1.heap.size + 1) (by simp) ?_; intro g1 cap1 wa1 hown1 hgrow1 hat1 hlt1; have OA1 := Lib.hid hown1; have BA1 := Lib.hid ((BC1.out).trans (appR (BC1.out).size (OC1.out) hgrow1)); clear hown1 hgrow1 hat1 hlt1)
                | (go_at_call 24; refine (HM.out _ (HGN.out _ (BA1.out))).mono ?_; rintro _ w2 ⟨rfl, hb2⟩; have BC2 := Lib.hid (below_call (BA1.out) hb2); have OC2 := Lib.hid (Dec.own_below (m := 0) (OA1.out) hb2); clear hb2; clear HM)
                | (go_at_call 25; refine (HP.out _ (HGN.out _ (BC2.out))).mono ?_; rintro _ w3 ⟨p3, cap3, rfl, hp3, hb3⟩; have BC3 := Lib.hid (below_call (BC2.out) hb3); have OC3 := Lib.hid (Dec.own_below (m := 0) (OC2.out) hb3); clear hb3; clear HP)
                | (go_at_call 26; refine (HC.out _ _ (prs_alloc hp3 _)).mono ?_; rintro _ w4 ⟨rfl, hb4⟩; have BC4 := Lib.hid (below_call ((BC3.out).alloc (BC3.out).size _) hb4); have OC4 := Lib.hid (Dec.own_below (m := 0) (World.ownsRow.alloc (OC3.out) _) hb4); clear hb4; clear HC)
                | (go_at_call 28; refine (HS.out _ (HGN.out _ (BC4.out))).mono ?_; rintro _ w6 ⟨rfl, hb6⟩; have BC6 := Lib.hid (below_call (BC4.out) hb6); have OC6 := Lib.hid (Dec.own_below (m := 0) (OC4.out) hb6); clear hb6; clear HS)
                | (go_at_call 29; refine (HN.out _ (HGN.out _ (BC6.out))).mono ?_; rintro _ w7 ⟨rfl, hb7⟩; have BC7 := Lib.hid (below_call (BC6.out) hb7); have OC7 := Lib.hid (Dec.own_below (m := 0) (OC6.out) hb7); clear hb7; clear HN)
                | (go_at_call 27; refine (HO2.out _ (HGN.out _ (BC7.out))).mono ?_; rintro _ w8 ⟨rfl, hb8⟩; have BC8 := Lib.hid (below_call (BC7.out) hb8); have OC8 := Lib.hid (Dec.own_below (m := 0) (OC7.out) hb8); clear hb8; clear HO2))
              go_ret3
              exact en_ret HR.out (OC8.out) (BC8.out)
      | true =>
        cases ok with
        | true =>
          have HR : Hid (R = (o, 0, [(0, 0)])) := Lib.hid HEF.out
          clear HEF HEB HO2 HS HN
          go_enter Tryz.func9, Tryz.ntmps9
          go_wp2_with (first
            | (go_at_call 14; refine (HX.out _ (HGN.out _ (Below.refl _ w))).mono ?_; rintro _ w1 ⟨rfl, hb1⟩; have BC1 := Lib.hid (below_call (Below.refl _ w) hb1); have OC1 := Lib.hid (Dec.own_below (m := 0) (World.ownsRow_nil w w.heap.size 40 2) hb1); clear hb1; clear HX)
            | (at_builtin; refine wpList_append_lies _ rfl _ _ _ rfl w.heap.size 40 i0 _ 2 16 Tryz.underlying24 hi hz0 hz1 hz2 rfl (by omega) _ 0 (cellsR []) rfl (World.ownsRow.alloc (OC1.out) _) ⟨w1.heap.size, 0, none⟩ 1 1 [.int .i8 0, .int .i64 0] rfl rfl (by have := World.news_of_block (t := 40) (fr := (0, 0)) (heap_alloc_new w1 (.cells #[.int .i8 0, .int .i64 0] 40)); simpa using this) (by simp [Value.oneCell']) (by omega) (by unfold maxLen; omega) (by omega) (by have := (BC1.out).size; simp; omega) (w1.heap.size + 1) (by simp) ?_; intro g1 cap1 wa1 hown1 hgrow1 hat1 hlt1; have OA1 := Lib.hid hown1; have BA1 := Lib.hid ((BC1.out).trans (appR (BC1.out).size (OC1.out) hgrow1)); clear hown1 hgrow1 hat1 hlt1)
            | (go_at_call 24; refine (HM.out _ (HGN.out _ (BA1.out))).mono ?_; rintro _ w2 ⟨rfl, hb2⟩; have BC2 := Lib.hid (below_call (BA1.out) hb2); have OC2 := Lib.hid (Dec.own_below (m := 0) (OA1.out) hb2); clear hb2; clear HM)
            | (go_at_call 25; refine (HP.out _ (HGN.out _ (BC2.out))).mono ?_; rintro _ w3 ⟨p3, cap3, rfl, hp3, hb3⟩; have BC3 := Lib.hid (below_call (BC2.out) hb3); have OC3 := Lib.hid (Dec.own_below (m := 0) (OC2.out) hb3); clear hb3; clear HP)
            | (go_at_call 26; refine (HC.out _ _ (prs_alloc hp3 _)).mono ?_; rintro _ w4 ⟨rfl, hb4⟩; have BC4 := Lib.hid (below_call ((BC3.out).alloc (BC3.out).size _) hb4); have OC4 := Lib.hid (Dec.own_below (m := 0) (World.ownsRow.alloc (OC3.out) _) hb4); clear hb4; clear HC)
            | (go_at_call 27; refine (HO1.out _ (HGN.out _ (BC4.out))).mono ?_; rintro _ w5 ⟨rfl, hb5⟩; have BC5 := Lib.hid (below_call (BC4.out) hb5); have OC5 := Lib.hid (Dec.own_below (m := 0) (OC4.out) hb5); clear hb5; clear HO1))
          go_ret3
          exact en_ret HR.out (OC5.out) (BC5.out)
        | false =>
          have HEC : Hid (R = encB body [(0, 0), (1, 0)]) := Lib.hid HEF.out
          rw [HEB.out] at HEC
          clear HEF HEB
          cases hsh : Dec.shp body with
          | some ee =>
            rw [hsh] at HS HEC
            have HR : Hid (R = ((ee : Int), 0, [(0, 0), (1, 0)])) := Lib.hid HEC.out
            replace HS : Hid (∀ w', G8 w' → Calls Tryz.prog 28 #[.string S2] w' fun e w'' => e = .returned (.tuple #[.int .i8 (ee : Int), .bool true]) ∧ Below w'.heap.size w' w'') := HS
            clear hsh HEC HO2 HN
            go_enter Tryz.func9, Tryz.ntmps9
            go_wp2_with (first
              | (go_at_call 14; refine (HX.out _ (HGN.out _ (Below.refl _ w))).mono ?_; rintro _ w1 ⟨rfl, hb1⟩; have BC1 := Lib.hid (below_call (Below.refl _ w) hb1); have OC1 := Lib.hid (Dec.own_below (m := 0) (World.ownsRow_nil w w.heap.size 40 2) hb1); clear hb1; clear HX)
              | (at_builtin; refine wpList_append_lies _ rfl _ _ _ rfl w.heap.size 40 i0 _ 2 16 Tryz.underlying24 hi hz0 hz1 hz2 rfl (by omega) _ 0 (cellsR []) rfl (World.ownsRow.alloc (OC1.out) _) ⟨w1.heap.size, 0, none⟩ 1 1 [.int .i8 0, .int .i64 0] rfl rfl (by have := World.news_of_block (t := 40) (fr := (0, 0)) (heap_alloc_new w1 (.cells #[.int .i8 0, .int .i64 0] 40)); simpa using this) (by simp [Value.oneCell']) (by omega) (by unfold maxLen; omega) (by omega) (by have := (BC1.out).size; simp; omega) (w1.heap.size + 1) (by simp) ?_; intro g1 cap1 wa1 hown1 hgrow1 hat1 hlt1; have OA1 := Lib.hid hown1; have BA1 := Lib.hid ((BC1.out).trans (appR (BC1.out).size (OC1.out) hgrow1)); clear hown1 hgrow1 hat1 hlt1)
              | (go_at_call 24; refine (HM.out _ (HGN.out _ (BA1.out))).mono ?_; rintro _ w2 ⟨rfl, hb2⟩; have BC2 := Lib.hid (below_call (BA1.out) hb2); have OC2 := Lib.hid (Dec.own_below (m := 0) (OA1.out) hb2); clear hb2; clear HM)
              | (go_at_call 25; refine (HP.out _ (HGN.out _ (BC2.out))).mono ?_; rintro _ w3 ⟨p3, cap3, rfl, hp3, hb3⟩; have BC3 := Lib.hid (below_call (BC2.out) hb3); have OC3 := Lib.hid (Dec.own_below (m := 0) (OC2.out) hb3); clear hb3; clear HP)
              | (go_at_call 26; refine (HC.out _ _ (prs_alloc hp3 _)).mono ?_; rintro _ w4 ⟨rfl, hb4⟩; have BC4 := Lib.hid (below_call ((BC3.out).alloc (BC3.out).size _) hb4); have OC4 := Lib.hid (Dec.own_below (m := 0) (World.ownsRow.alloc (OC3.out) _) hb4); clear hb4; clear HC)
              | (go_at_call 27; refine (HO1.out _ (HGN.out _ (BC4.out))).mono ?_; rintro _ w5 ⟨rfl, hb5⟩; have BC5 := Lib.hid (below_call (BC4.out) hb5); have OC5 := Lib.hid (Dec.own_below (m := 0) (OC4.out) hb5); clear hb5; clear HO1)
              | (at_builtin; refine wpList_append_lies _ rfl _ _ _ rfl w.heap.size 40 i0 _ 2 16 Tryz.underlying24 hi hz0 hz1 hz2 rfl (by omega) _ 1 (cellsR [(0, 0)]) rfl (World.ownsRow.alloc (OC5.out) _) ⟨w5.heap.size, 0, none⟩ 1 1 [.int .i8 1, .int .i64 0] rfl rfl (by have := World.news_of_block (t := 40) (fr := (0, 0)) (heap_alloc_new w5 (.cells #[.int .i8 1, .int .i64 0] 40)); simpa using this) (by simp [Value.oneCell']) (by omega) (by unfold maxLen; omega) (by omega) (by have := (BC5.out).size; simp; omega) (w5.heap.size + 1) (by simp) ?_; intro g2 cap2 wa2 hown2 hgrow2 hat2 hlt2; have OA2 := Lib.hid hown2; have BA2 := Lib.hid ((BC5.out).trans (appR (BC5.out).size (OC5.out) hgrow2)); clear hown2 hgrow2 hat2 hlt2)
              | (go_at_call 28; refine (HS.out _ (HGN.out _ (BA2.out))).mono ?_; rintro _ w6 ⟨rfl, hb6⟩; have BC6 := Lib.hid (below_call (BA2.out) hb6); have OC6 := Lib.hid (Dec.own_below (m := 0) (OA2.out) hb6); clear hb6; clear HS))
            go_ret3
            exact en_ret HR.out (OC6.out) (BC6.out)
          | none =>
            rw [hsh] at HS HEC
            replace HS : Hid (∀ w', G8 w' → Calls Tryz.prog 28 #[.string S2] w' fun e w'' => e = .returned (.tuple #[.int .i8 0, .bool false]) ∧ Below w'.heap.size w' w'') := HS
            clear hsh
            cases hsc : Dec.scn body with
            | none =>
              rw [hsc] at HN HEC
              have HR : Hid (R = (0, 0, [(0, 0), (1, 0)])) := Lib.hid HEC.out
              replace HN : Hid (∀ w', G8 w' → Calls Tryz.prog 29 #[.string S2] w' fun e w'' => e = .returned (.tuple #[.string ⟨#[]⟩, .bool false]) ∧ Below w'.heap.size w' w'') := HN
              clear hsc HEC HO2
              go_enter Tryz.func9, Tryz.ntmps9
              go_wp2_with (first
                | (go_at_call 14; refine (HX.out _ (HGN.out _ (Below.refl _ w))).mono ?_; rintro _ w1 ⟨rfl, hb1⟩; have BC1 := Lib.hid (below_call (Below.refl _ w) hb1); have OC1 := Lib.hid (Dec.own_below (m := 0) (World.ownsRow_nil w w.heap.size 40 2) hb1); clear hb1; clear HX)
                | (at_builtin; refine wpList_append_lies _ rfl _ _ _ rfl w.heap.size 40 i0 _ 2 16 Tryz.underlying24 hi hz0 hz1 hz2 rfl (by omega) _ 0 (cellsR []) rfl (World.ownsRow.alloc (OC1.out) _) ⟨w1.heap.size, 0, none⟩ 1 1 [.int .i8 0, .int .i64 0] rfl rfl (by have := World.news_of_block (t := 40) (fr := (0, 0)) (heap_alloc_new w1 (.cells #[.int .i8 0, .int .i64 0] 40)); simpa using this) (by simp [Value.oneCell']) (by omega) (by unfold maxLen; omega) (by omega) (by have := (BC1.out).size; simp; omega) (w1.heap.size + 1) (by simp) ?_; intro g1 cap1 wa1 hown1 hgrow1 hat1 hlt1; have OA1 := Lib.hid hown1; have BA1 := Lib.hid ((BC1.out).trans (appR (BC1.out).size (OC1.out) hgrow1)); clear hown1 hgrow1 hat1 hlt1)
                | (go_at_call 24; refine (HM.out _ (HGN.out _ (BA1.out))).mono ?_; rintro _ w2 ⟨rfl, hb2⟩; have BC2 := Lib.hid (below_call (BA1.out) hb2); have OC2 := Lib.hid (Dec.own_below (m := 0) (OA1.out) hb2); clear hb2; clear HM)
                | (go_at_call 25; refine (HP.out _ (HGN.out _ (BC2.out))).mono ?_; rintro _ w3 ⟨p3, cap3, rfl, hp3, hb3⟩; have BC3 := Lib.hid (below_call (BC2.out) hb3); have OC3 := Lib.hid (Dec.own_below (m := 0) (OC2.out) hb3); clear hb3; clear HP)
                | (go_at_call 26; refine (HC.out _ _ (prs_alloc hp3 _)).mono ?_; rintro _ w4 ⟨rfl, hb4⟩; have BC4 := Lib.hid (below_call ((BC3.out).alloc (BC3.out).size _) hb4); have OC4 := Lib.hid (Dec.own_below (m := 0) (World.ownsRow.alloc (OC3.out) _) hb4); clear hb4; clear HC)
                | (go_at_call 27; refine (HO1.out _ (HGN.out _ (BC4.out))).mono ?_; rintro _ w5 ⟨rfl, hb5⟩; have BC5 := Lib.hid (below_call (BC4.out) hb5); have OC5 := Lib.hid (Dec.own_below (m := 0) (OC4.out) hb5); clear hb5; clear HO1)
                | (at_builtin; refine wpList_append_lies _ rfl _ _ _ rfl w.heap.size 40 i0 _ 2 16 Tryz.underlying24 hi hz0 hz1 hz2 rfl (by omega) _ 1 (cellsR [(0, 0)]) rfl (World.ownsRow.alloc (OC5.out) _) ⟨w5.heap.size, 0, none⟩ 1 1 [.int .i8 1, .int .i64 0] rfl rfl (by have := World.news_of_block (t := 40) (fr := (0, 0)) (heap_alloc_new w5 (.cells #[.int .i8 1, .int .i64 0] 40)); simpa using this) (by simp [Value.oneCell']) (by omega) (by unfold maxLen; omega) (by omega) (by have := (BC5.out).size; simp; omega) (w5.heap.size + 1) (by simp) ?_; intro g2 cap2 wa2 hown2 hgrow2 hat2 hlt2; have OA2 := Lib.hid hown2; have BA2 := Lib.hid ((BC5.out).trans (appR (BC5.out).size (OC5.out) hgrow2)); clear hown2 hgrow2 hat2 hlt2)
                | (go_at_call 28; refine (HS.out _ (HGN.out _ (BA2.out))).mono ?_; rintro _ w6 ⟨rfl, hb6⟩; have BC6 := Lib.hid (below_call (BA2.out) hb6); have OC6 := Lib.hid (Dec.own_below (m := 0) (OA2.out) hb6); clear hb6; clear HS)
                | (go_at_call 29; refine (HN.out _ (HGN.out _ (BC6.out))).mono ?_; rintro _ w7 ⟨rfl, hb7⟩; have BC7 := Lib.hid (below_call (BC6.out) hb7); have OC7 := Lib.hid (Dec.own_below (m := 0) (OC6.out) hb7); clear hb7; clear HN))
              go_ret3
              exact en_ret HR.out (OC7.out) (BC7.out)
            | some y =>
              replace HO2 := Lib.hid (HO2.out y hsc)
              rw [hsc] at HN HEC
              replace HN : Hid (∀ w', G8 w' → Calls Tryz.prog 29 #[.string S2] w' fun e w'' => e = .returned (.tuple #[.string (str y), .bool true]) ∧ Below w'.heap.size w' w'') := HN
              obtain ⟨o2, ok2, ho2⟩ : ∃ o ok, Lab.ofL y = (o, ok) := ⟨_, _, rfl⟩
              replace HEC : Hid (R = if (Lab.ofL y).2 = true ∧ (Lab.ofL y).1 ≠ 1 ∧ (Lab.ofL y).1 ≠ 2 then ((Lab.ofL y).1, 0, [(0, 0), (1, 0)]) else (0, 0, [(0, 0), (1, 0)] ++ [(1, 0)])) := HEC
              rw [ho2] at HO2 HEC
              dsimp only at HO2 HEC
              obtain ⟨Y, hY⟩ : ∃ Y, str y = Y := ⟨_, rfl⟩
              rw [hY] at HN HO2
              clear hY ho2 hsc
              cases ok2 with
              | false =>
                have HR : Hid (R = (0, 0, [(0, 0), (1, 0), (1, 0)])) := Lib.hid (by rw [HEC.out]; rfl)
                clear HEC
                go_enter Tryz.func9, Tryz.ntmps9
                go_wp2_with (first
                  | (go_at_call 14; refine (HX.out _ (HGN.out _ (Below.refl _ w))).mono ?_; rintro _ w1 ⟨rfl, hb1⟩; have BC1 := Lib.hid (below_call (Below.refl _ w) hb1); have OC1 := Lib.hid (Dec.own_below (m := 0) (World.ownsRow_nil w w.heap.size 40 2) hb1); clear hb1; clear HX)
                  | (at_builtin; refine wpList_append_lies _ rfl _ _ _ rfl w.heap.size 40 i0 _ 2 16 Tryz.underlying24 hi hz0 hz1 hz2 rfl (by omega) _ 0 (cellsR []) rfl (World.ownsRow.alloc (OC1.out) _) ⟨w1.heap.size, 0, none⟩ 1 1 [.int .i8 0, .int .i64 0] rfl rfl (by have := World.news_of_block (t := 40) (fr := (0, 0)) (heap_alloc_new w1 (.cells #[.int .i8 0, .int .i64 0] 40)); simpa using this) (by simp [Value.oneCell']) (by omega) (by unfold maxLen; omega) (by omega) (by have := (BC1.out).size; simp; omega) (w1.heap.size + 1) (by simp) ?_; intro g1 cap1 wa1 hown1 hgrow1 hat1 hlt1; have OA1 := Lib.hid hown1; have BA1 := Lib.hid ((BC1.out).trans (appR (BC1.out).size (OC1.out) hgrow1)); clear hown1 hgrow1 hat1 hlt1)
                  | (go_at_call 24; refine (HM.out _ (HGN.out _ (BA1.out))).mono ?_; rintro _ w2 ⟨rfl, hb2⟩; have BC2 := Lib.hid (below_call (BA1.out) hb2); have OC2 := Lib.hid (Dec.own_below (m := 0) (OA1.out) hb2); clear hb2; clear HM)
                  | (go_at_call 25; refine (HP.out _ (HGN.out _ (BC2.out))).mono ?_; rintro _ w3 ⟨p3, cap3, rfl, hp3, hb3⟩; have BC3 := Lib.hid (below_call (BC2.out) hb3); have OC3 := Lib.hid (Dec.own_below (m := 0) (OC2.out) hb3); clear hb3; clear HP)
                  | (go_at_call 26; refine (HC.out _ _ (prs_alloc hp3 _)).mono ?_; rintro _ w4 ⟨rfl, hb4⟩; have BC4 := Lib.hid (below_call ((BC3.out).alloc (BC3.out).size _) hb4); have OC4 := Lib.hid (Dec.own_below (m := 0) (World.ownsRow.alloc (OC3.out) _) hb4); clear hb4; clear HC)
                  | (go_at_call 27; refine (HO1.out _ (HGN.out _ (BC4.out))).mono ?_; rintro _ w5 ⟨rfl, hb5⟩; have BC5 := Lib.hid (below_call (BC4.out) hb5); have OC5 := Lib.hid (Dec.own_below (m := 0) (OC4.out) hb5); clear hb5; clear HO1)
                  | (at_builtin; refine wpList_append_lies _ rfl _ _ _ rfl w.heap.size 40 i0 _ 2 16 Tryz.underlying24 hi hz0 hz1 hz2 rfl (by omega) _ 1 (cellsR [(0, 0)]) rfl (World.ownsRow.alloc (OC5.out) _) ⟨w5.heap.size, 0, none⟩ 1 1 [.int .i8 1, .int .i64 0] rfl rfl (by have := World.news_of_block (t := 40) (fr := (0, 0)) (heap_alloc_new w5 (.cells #[.int .i8 1, .int .i64 0] 40)); simpa using this) (by simp [Value.oneCell']) (by omega) (by unfold maxLen; omega) (by omega) (by have := (BC5.out).size; simp; omega) (w5.heap.size + 1) (by simp) ?_; intro g2 cap2 wa2 hown2 hgrow2 hat2 hlt2; have OA2 := Lib.hid hown2; have BA2 := Lib.hid ((BC5.out).trans (appR (BC5.out).size (OC5.out) hgrow2)); clear hown2 hgrow2 hat2 hlt2)
                  | (go_at_call 28; refine (HS.out _ (HGN.out _ (BA2.out))).mono ?_; rintro _ w6 ⟨rfl, hb6⟩; have BC6 := Lib.hid (below_call (BA2.out) hb6); have OC6 := Lib.hid (Dec.own_below (m := 0) (OA2.out) hb6); clear hb6; clear HS)
                  | (go_at_call 29; refine (HN.out _ (HGN.out _ (BC6.out))).mono ?_; rintro _ w7 ⟨rfl, hb7⟩; have BC7 := Lib.hid (below_call (BC6.out) hb7); have OC7 := Lib.hid (Dec.own_below (m := 0) (OC6.out) hb7); clear hb7; clear HN)
                  | (go_at_call 27; refine (HO2.out _ (HGN.out _ (BC7.out))).mono ?_; rintro _ w8 ⟨rfl, hb8⟩; have BC8 := Lib.hid (below_call (BC7.out) hb8); have OC8 := Lib.hid (Dec.own_below (m := 0) (OC7.out) hb8); clear hb8; clear HO2)
                  | (at_builtin; refine wpList_append_lies _ rfl _ _ _ rfl w.heap.size 40 i0 _ 2 16 Tryz.underlying24 hi hz0 hz1 hz2 rfl (by omega) _ 2 (cellsR [(0, 0), (1, 0)]) rfl (World.ownsRow.alloc (OC8.out) _) ⟨w8.heap.size, 0, none⟩ 1 1 [.int .i8 1, .int .i64 0] rfl rfl (by have := World.news_of_block (t := 40) (fr := (0, 0)) (heap_alloc_new w8 (.cells #[.int .i8 1, .int .i64 0] 40)); simpa using this) (by simp [Value.oneCell']) (by omega) (by unfold maxLen; omega) (by omega) (by have := (BC8.out).size; simp; omega) (w8.heap.size + 1) (by simp) ?_; intro g3 cap3 wa3 hown3 hgrow3 hat3 hlt3; have OA3 := Lib.hid hown3; have BA3 := Lib.hid ((BC8.out).trans (appR (BC8.out).size (OC8.out) hgrow3)); clear hown3 hgrow3 hat3 hlt3))
                go_ret3
                exact en_ret HR.out (OA3.out) (BA3.out)
              | true =>
                by_cases e1 : o2 = 1
                · have d1 : (o2 != 1) = false := by rw [e1]; rfl
                  have HR : Hid (R = (0, 0, [(0, 0), (1, 0), (1, 0)])) := Lib.hid (by rw [HEC.out, if_neg (fun h => h.2.1 e1)]; rfl)
                  clear HEC e1
                  go_enter Tryz.func9, Tryz.ntmps9
                  go_wp2_with (first
                    | (go_at_call 14; refine (HX.out _ (HGN.out _ (Below.refl _ w))).mono ?_; rintro _ w1 ⟨rfl, hb1⟩; have BC1 := Lib.hid (below_call (Below.refl _ w) hb1); have OC1 := Lib.hid (Dec.own_below (m := 0) (World.ownsRow_nil w w.heap.size 40 2) hb1); clear hb1; clear HX)
                    | (at_builtin; refine wpList_append_lies _ rfl _ _ _ rfl w.heap.size 40 i0 _ 2 16 Tryz.underlying24 hi hz0 hz1 hz2 rfl (by omega) _ 0 (cellsR []) rfl (World.ownsRow.alloc (OC1.out) _) ⟨w1.heap.size, 0, none⟩ 1 1 [.int .i8 0, .int .i64 0] rfl rfl (by have := World.news_of_block (t := 40) (fr := (0, 0)) (heap_alloc_new w1 (.cells #[.int .i8 0, .int .i64 0] 40)); simpa using this) (by simp [Value.oneCell']) (by omega) (by unfold maxLen; omega) (by omega) (by have := (BC1.out).size; simp; omega) (w1.heap.size + 1) (by simp) ?_; intro g1 cap1 wa1 hown1 hgrow1 hat1 hlt1; have OA1 := Lib.hid hown1; have BA1 := Lib.hid ((BC1.out).trans (appR (BC1.out).size (OC1.out) hgrow1)); clear hown1 hgrow1 hat1 hlt1)
                    | (go_at_call 24; refine (HM.out _ (HGN.out _ (BA1.out))).mono ?_; rintro _ w2 ⟨rfl, hb2⟩; have BC2 := Lib.hid (below_call (BA1.out) hb2); have OC2 := Lib.hid (Dec.own_below (m := 0) (OA1.out) hb2); clear hb2; clear HM)
                    | (go_at_call 25; refine (HP.out _ (HGN.out _ (BC2.out))).mono ?_; rintro _ w3 ⟨p3, cap3, rfl, hp3, hb3⟩; have BC3 := Lib.hid (below_call (BC2.out) hb3); have OC3 := Lib.hid (Dec.own_below (m := 0) (OC2.out) hb3); clear hb3; clear HP)
                    | (go_at_call 26; refine (HC.out _ _ (prs_alloc hp3 _)).mono ?_; rintro _ w4 ⟨rfl, hb4⟩; have BC4 := Lib.hid (below_call ((BC3.out).alloc (BC3.out).size _) hb4); have OC4 := Lib.hid (Dec.own_below (m := 0) (World.ownsRow.alloc (OC3.out) _) hb4); clear hb4; clear HC)
                    | (go_at_call 27; refine (HO1.out _ (HGN.out _ (BC4.out))).mono ?_; rintro _ w5 ⟨rfl, hb5⟩; have BC5 := Lib.hid (below_call (BC4.out) hb5); have OC5 := Lib.hid (Dec.own_below (m := 0) (OC4.out) hb5); clear hb5; clear HO1)
                    | (at_builtin; refine wpList_append_lies _ rfl _ _ _ rfl w.heap.size 40 i0 _ 2 16 Tryz.underlying24 hi hz0 hz1 hz2 rfl (by omega) _ 1 (cellsR [(0, 0)]) rfl (World.ownsRow.alloc (OC5.out) _) ⟨w5.heap.size, 0, none⟩ 1 1 [.int .i8 1, .int .i64 0] rfl rfl (by have := World.news_of_block (t := 40) (fr := (0, 0)) (heap_alloc_new w5 (.cells #[.int .i8 1, .int .i64 0] 40)); simpa using this) (by simp [Value.oneCell']) (by omega) (by unfold maxLen; omega) (by omega) (by have := (BC5.out).size; simp; omega) (w5.heap.size + 1) (by simp) ?_; intro g2 cap2 wa2 hown2 hgrow2 hat2 hlt2; have OA2 := Lib.hid hown2; have BA2 := Lib.hid ((BC5.out).trans (appR (BC5.out).size (OC5.out) hgrow2)); clear hown2 hgrow2 hat2 hlt2)
                    | (go_at_call 28; refine (HS.out _ (HGN.out _ (BA2.out))).mono ?_; rintro _ w6 ⟨rfl, hb6⟩; have BC6 := Lib.hid (below_call (BA2.out) hb6); have OC6 := Lib.hid (Dec.own_below (m := 0) (OA2.out) hb6); clear hb6; clear HS)
                    | (go_at_call 29; refine (HN.out _ (HGN.out _ (BC6.out))).mono ?_; rintro _ w7 ⟨rfl, hb7⟩; have BC7 := Lib.hid (below_call (BC6.out) hb7); have OC7 := Lib.hid (Dec.own_below (m := 0) (OC6.out) hb7); clear hb7; clear HN)
                    | (go_at_call 27; refine (HO2.out _ (HGN.out _ (BC7.out))).mono ?_; rintro _ w8 ⟨rfl, hb8⟩; have BC8 := Lib.hid (below_call (BC7.out) hb8); have OC8 := Lib.hid (Dec.own_below (m := 0) (OC7.out) hb8); clear hb8; clear HO2)
                    | (at_builtin; refine wpList_append_lies _ rfl _ _ _ rfl w.heap.size 40 i0 _ 2 16 Tryz.underlying24 hi hz0 hz1 hz2 rfl (by omega) _ 2 (cellsR [(0, 0), (1, 0)]) rfl (World.ownsRow.alloc (OC8.out) _) ⟨w8.heap.size, 0, none⟩ 1 1 [.int .i8 1, .int .i64 0] rfl rfl (by have := World.news_of_block (t := 40) (fr := (0, 0)) (heap_alloc_new w8 (.cells #[.int .i8 1, .int .i64 0] 40)); simpa using this) (by simp [Value.oneCell']) (by omega) (by unfold maxLen; omega) (by omega) (by have := (BC8.out).size; simp; omega) (w8.heap.size + 1) (by simp) ?_; intro g3 cap3 wa3 hown3 hgrow3 hat3 hlt3; have OA3 := Lib.hid hown3; have BA3 := Lib.hid ((BC8.out).trans (appR (BC8.out).size (OC8.out) hgrow3)); clear hown3 hgrow3 hat3 hlt3))
                  go_ret3
                  exact en_ret HR.out (OA3.out) (BA3.out)
                have d1 : (o2 != 1) = true := by simpa using e1
                by_cases e2 : o2 = 2
                · have d2 : (o2 != 2) = false := by rw [e2]; rfl
                  have HR : Hid (R = (0, 0, [(0, 0), (1, 0), (1, 0)])) := Lib.hid (by rw [HEC.out, if_neg (fun h => h.2.2 e2)]; rfl)
                  clear HEC e1 e2
                  go_enter Tryz.func9, Tryz.ntmps9
                  go_wp2_with (first
                    | (go_at_call 14; refine (HX.out _ (HGN.out _ (Below.refl _ w))).mono ?_; rintro _ w1 ⟨rfl, hb1⟩; have BC1 := Lib.hid (below_call (Below.refl _ w) hb1); have OC1 := Lib.hid (Dec.own_below (m := 0) (World.ownsRow_nil w w.heap.size 40 2) hb1); clear hb1; clear HX)
                    | (at_builtin; refine wpList_append_lies _ rfl _ _ _ rfl w.heap.size 40 i0 _ 2 16 Tryz.underlying24 hi hz0 hz1 hz2 rfl (by omega) _ 0 (cellsR []) rfl (World.ownsRow.alloc (OC1.out) _) ⟨w1.heap.size, 0, none⟩ 1 1 [.int .i8 0, .int .i64 0] rfl rfl (by have := World.news_of_block (t := 40) (fr := (0, 0)) (heap_alloc_new w1 (.cells #[.int .i8 0, .int .i64 0] 40)); simpa using this) (by simp [Value.oneCell']) (by omega) (by unfold maxLen; omega) (by omega) (by have := (BC1.out).size; simp; omega) (w1.heap.size + 1) (by simp) ?_; intro g1 cap1 wa1 hown1 hgrow1 hat1 hlt1; have OA1 := Lib.hid hown1; have BA1 := Lib.hid ((BC1.out).trans (appR (BC1.out).size (OC1.out) hgrow1)); clear hown1 hgrow1 hat1 hlt1)
                    | (go_at_call 24; refine (HM.out _ (HGN.out _ (BA1.out))).mono ?_; rintro _ w2 ⟨rfl, hb2⟩; have BC2 := Lib.hid (below_call (BA1.out) hb2); have OC2 := Lib.hid (Dec.own_below (m := 0) (OA1.out) hb2); clear hb2; clear HM)
                    | (go_at_call 25; refine (HP.out _ (HGN.out _ (BC2.out))).mono ?_; rintro _ w3 ⟨p3, cap3, rfl, hp3, hb3⟩; have BC3 := Lib.hid (below_call (BC2.out) hb3); have OC3 := Lib.hid (Dec.own_below (m := 0) (OC2.out) hb3); clear hb3; clear HP)
                    | (go_at_call 26; refine (HC.out _ _ (prs_alloc hp3 _)).mono ?_; rintro _ w4 ⟨rfl, hb4⟩; have BC4 := Lib.hid (below_call ((BC3.out).alloc (BC3.out).size _) hb4); have OC4 := Lib.hid (Dec.own_below (m := 0) (World.ownsRow.alloc (OC3.out) _) hb4); clear hb4; clear HC)
                    | (go_at_call 27; refine (HO1.out _ (HGN.out _ (BC4.out))).mono ?_; rintro _ w5 ⟨rfl, hb5⟩; have BC5 := Lib.hid (below_call (BC4.out) hb5); have OC5 := Lib.hid (Dec.own_below (m := 0) (OC4.out) hb5); clear hb5; clear HO1)
                    | (at_builtin; refine wpList_append_lies _ rfl _ _ _ rfl w.heap.size 40 i0 _ 2 16 Tryz.underlying24 hi hz0 hz1 hz2 rfl (by omega) _ 1 (cellsR [(0, 0)]) rfl (World.ownsRow.alloc (OC5.out) _) ⟨w5.heap.size, 0, none⟩ 1 1 [.int .i8 1, .int .i64 0] rfl rfl (by have := World.news_of_block (t := 40) (fr := (0, 0)) (heap_alloc_new w5 (.cells #[.int .i8 1, .int .i64 0] 40)); simpa using this) (by simp [Value.oneCell']) (by omega) (by unfold maxLen; omega) (by omega) (by have := (BC5.out).size; simp; omega) (w5.heap.size + 1) (by simp) ?_; intro g2 cap2 wa2 hown2 hgrow2 hat2 hlt2; have OA2 := Lib.hid hown2; have BA2 := Lib.hid ((BC5.out).trans (appR (BC5.out).size (OC5.out) hgrow2)); clear hown2 hgrow2 hat2 hlt2)
                    | (go_at_call 28; refine (HS.out _ (HGN.out _ (BA2.out))).mono ?_; rintro _ w6 ⟨rfl, hb6⟩; have BC6 := Lib.hid (below_call (BA2.out) hb6); have OC6 := Lib.hid (Dec.own_below (m := 0) (OA2.out) hb6); clear hb6; clear HS)
                    | (go_at_call 29; refine (HN.out _ (HGN.out _ (BC6.out))).mono ?_; rintro _ w7 ⟨rfl, hb7⟩; have BC7 := Lib.hid (below_call (BC6.out) hb7); have OC7 := Lib.hid (Dec.own_below (m := 0) (OC6.out) hb7); clear hb7; clear HN)
                    | (go_at_call 27; refine (HO2.out _ (HGN.out _ (BC7.out))).mono ?_; rintro _ w8 ⟨rfl, hb8⟩; have BC8 := Lib.hid (below_call (BC7.out) hb8); have OC8 := Lib.hid (Dec.own_below (m := 0) (OC7.out) hb8); clear hb8; clear HO2)
                    | (at_builtin; refine wpList_append_lies _ rfl _ _ _ rfl w.heap.size 40 i0 _ 2 16 Tryz.underlying24 hi hz0 hz1 hz2 rfl (by omega) _ 2 (cellsR [(0, 0), (1, 0)]) rfl (World.ownsRow.alloc (OC8.out) _) ⟨w8.heap.size, 0, none⟩ 1 1 [.int .i8 1, .int .i64 0] rfl rfl (by have := World.news_of_block (t := 40) (fr := (0, 0)) (heap_alloc_new w8 (.cells #[.int .i8 1, .int .i64 0] 40)); simpa using this) (by simp [Value.oneCell']) (by omega) (by unfold maxLen; omega) (by omega) (by have := (BC8.out).size; simp; omega) (w8.heap.size + 1) (by simp) ?_; intro g3 cap3 wa3 hown3 hgrow3 hat3 hlt3; have OA3 := Lib.hid hown3; have BA3 := Lib.hid ((BC8.out).trans (appR (BC8.out).size (OC8.out) hgrow3)); clear hown3 hgrow3 hat3 hlt3))
                  go_ret3
                  exact en_ret HR.out (OA3.out) (BA3.out)
                have d2 : (o2 != 2) = true := by simpa using e2
                have HR : Hid (R = (o2, 0, [(0, 0), (1, 0)])) := Lib.hid (by rw [HEC.out, if_pos ⟨rfl, e1, e2⟩])
                clear HEC e1 e2
                go_enter Tryz.func9, Tryz.ntmps9
                go_wp2_with (first
                  | (go_at_call 14; refine (HX.out _ (HGN.out _ (Below.refl _ w))).mono ?_; rintro _ w1 ⟨rfl, hb1⟩; have BC1 := Lib.hid (below_call (Below.refl _ w) hb1); have OC1 := Lib.hid (Dec.own_below (m := 0) (World.ownsRow_nil w w.heap.size 40 2) hb1); clear hb1; clear HX)
                  | (at_builtin; refine wpList_append_lies _ rfl _ _ _ rfl w.heap.size 40 i0 _ 2 16 Tryz.underlying24 hi hz0 hz1 hz2 rfl (by omega) _ 0 (cellsR []) rfl (World.ownsRow.alloc (OC1.out) _) ⟨w1.heap.size, 0, none⟩ 1 1 [.int .i8 0, .int .i64 0] rfl rfl (by have := World.news_of_block (t := 40) (fr := (0, 0)) (heap_alloc_new w1 (.cells #[.int .i8 0, .int .i64 0] 40)); simpa using this) (by simp [Value.oneCell']) (by omega) (by unfold maxLen; omega) (by omega) (by have := (BC1.out).size; simp; omega) (w1.heap.size + 1) (by simp) ?_; intro g1 cap1 wa1 hown1 hgrow1 hat1 hlt1; have OA1 := Lib.hid hown1; have BA1 := Lib.hid ((BC1.out).trans (appR (BC1.out).size (OC1.out) hgrow1)); clear hown1 hgrow1 hat1 hlt1)
                  | (go_at_call 24; refine (HM.out _ (HGN.out _ (BA1.out))).mono ?_; rintro _ w2 ⟨rfl, hb2⟩; have BC2 := Lib.hid (below_call (BA1.out) hb2); have OC2 := Lib.hid (Dec.own_below (m := 0) (OA1.out) hb2); clear hb2; clear HM)
                  | (go_at_call 25; refine (HP.out _ (HGN.out _ (BC2.out))).mono ?_; rintro _ w3 ⟨p3, cap3, rfl, hp3, hb3⟩; have BC3 := Lib.hid (below_call (BC2.out) hb3); have OC3 := Lib.hid (Dec.own_below (m := 0) (OC2.out) hb3); clear hb3; clear HP)
                  | (go_at_call 26; refine (HC.out _ _ (prs_alloc hp3 _)).mono ?_; rintro _ w4 ⟨rfl, hb4⟩; have BC4 := Lib.hid (below_call ((BC3.out).alloc (BC3.out).size _) hb4); have OC4 := Lib.hid (Dec.own_below (m := 0) (World.ownsRow.alloc (OC3.out) _) hb4); clear hb4; clear HC)
                  | (go_at_call 27; refine (HO1.out _ (HGN.out _ (BC4.out))).mono ?_; rintro _ w5 ⟨rfl, hb5⟩; have BC5 := Lib.hid (below_call (BC4.out) hb5); have OC5 := Lib.hid (Dec.own_below (m := 0) (OC4.out) hb5); clear hb5; clear HO1)
                  | (at_builtin; refine wpList_append_lies _ rfl _ _ _ rfl w.heap.size 40 i0 _ 2 16 Tryz.underlying24 hi hz0 hz1 hz2 rfl (by omega) _ 1 (cellsR [(0, 0)]) rfl (World.ownsRow.alloc (OC5.out) _) ⟨w5.heap.size, 0, none⟩ 1 1 [.int .i8 1, .int .i64 0] rfl rfl (by have := World.news_of_block (t := 40) (fr := (0, 0)) (heap_alloc_new w5 (.cells #[.int .i8 1, .int .i64 0] 40)); simpa using this) (by simp [Value.oneCell']) (by omega) (by unfold maxLen; omega) (by omega) (by have := (BC5.out).size; simp; omega) (w5.heap.size + 1) (by simp) ?_; intro g2 cap2 wa2 hown2 hgrow2 hat2 hlt2; have OA2 := Lib.hid hown2; have BA2 := Lib.hid ((BC5.out).trans (appR (BC5.out).size (OC5.out) hgrow2)); clear hown2 hgrow2 hat2 hlt2)
                  | (go_at_call 28; refine (HS.out _ (HGN.out _ (BA2.out))).mono ?_; rintro _ w6 ⟨rfl, hb6⟩; have BC6 := Lib.hid (below_call (BA2.out) hb6); have OC6 := Lib.hid (Dec.own_below (m := 0) (OA2.out) hb6); clear hb6; clear HS)
                  | (go_at_call 29; refine (HN.out _ (HGN.out _ (BC6.out))).mono ?_; rintro _ w7 ⟨rfl, hb7⟩; have BC7 := Lib.hid (below_call (BC6.out) hb7); have OC7 := Lib.hid (Dec.own_below (m := 0) (OC6.out) hb7); clear hb7; clear HN)
                  | (go_at_call 27; refine (HO2.out _ (HGN.out _ (BC7.out))).mono ?_; rintro _ w8 ⟨rfl, hb8⟩; have BC8 := Lib.hid (below_call (BC7.out) hb8); have OC8 := Lib.hid (Dec.own_below (m := 0) (OC7.out) hb8); clear hb8; clear HO2))
                go_ret3
                exact en_ret HR.out (OC8.out) (BC8.out)
end Go.Proofs.YtppabkllconkjaaGreatDoor.Snf
