/- Joined: NE, NXT. -/
import Derived.BigQuiet
import Derived.Deep.AppendLies
import Derived.Deep.DeepCutAuto
import Derived.Deep.LoopGhost
import Derived.Deep.Onto
import Derived.Deep.OwnRows
import Derived.Deep.QuietTactic
import Derived.Deep.RegionHeld3
import Derived.Deep.RegionLaw
import Derived.Deep.WholeRow
import Derived.Laws.AppendOwn
import Derived.Laws.BitsLemmas
import Derived.Laws.BytesArg
import Derived.Laws.DeepStrings4
import Derived.Laws.Externs
import Derived.Laws.IdiomStrings
import Derived.Laws.ResultCell
import Derived.Laws.Rows
import Derived.Laws.StructEq
import Derived.Laws.Tables
import Derived.Lib.AppendStr
import Derived.Lib.Bytealg
import Derived.Lib.Hide
import Derived.Lib.SlTrimSet
import Derived.LoopIn
import Derived.LoopN
import Derived.LoopNIn
import Derived.Maps.AppendAt
import Derived.Maps.Own
import Derived.Maps.OwnSet
import Derived.OpenShut
import Derived.Outline
import Derived.OwnWalk
import Derived.OwnWalkIn
import Derived.ProofKit
import Derived.RangeFuncBound
import Derived.RangeFuncBox
import Derived.RangeFuncCalls
import Derived.RangeFuncLeaves
import Derived.RangeFuncNested
import Derived.RangeFuncWrites
import Derived.Shelf.Abstract
import Derived.Shelf.LaysM
import Derived.Shelf.RegionOpen
import Derived.Shelf.Small.Wraps
import Derived.Shelf.Strings.Cut
import Derived.Shelf.Strings.Shaped
import Derived.Shelf.Strings.SlTrimAscii
import Derived.StillTailTactics
import Derived.TacticsInMore
import Derived.Test.YtppabkllconkjaaGreatDoorProg
import Derived.Test.YtppabkllconkjaaGreatDoorRows
import Derived.WalkKit
import Derived.WalkMore
import Derived.Test.YtppabkllconkjaaGreatDoorK01
import Derived.Test.YtppabkllconkjaaGreatDoorK03
import Derived.Test.YtppabkllconkjaaGreatDoorK05
import Derived.Test.YtppabkllconkjaaGreatDoorK07
import Derived.Test.YtppabkllconkjaaGreatDoorK09
import Derived.Test.YtppabkllconkjaaGreatDoorK10
import Derived.Test.YtppabkllconkjaaGreatDoorK11
import Derived.Test.YtppabkllconkjaaGreatDoorK12
import Derived.Test.YtppabkllconkjaaGreatDoorK13
import Derived.Test.YtppabkllconkjaaGreatDoorK14
import Derived.Test.YtppabkllconkjaaGreatDoorK15
import Derived.Test.YtppabkllconkjaaGreatDoorK16
import Derived.Test.YtppabkllconkjaaGreatDoorK18
import Derived.Test.YtppabkllconkjaaGreatDoorK20
import Derived.Test.YtppabkllconkjaaGreatDoorK25
import Derived.Test.YtppabkllconkjaaGreatDoorK26
import Derived.Test.YtppabkllconkjaaGreatDoorK27
import Derived.Test.YtppabkllconkjaaGreatDoorK28
/- The contract of the document's own Text of layer 8. -/
namespace Go.Proofs.YtppabkllconkjaaGreatDoor.Snf
open Go.RowKit
set_option linter.unusedVariables false
set_option linter.unusedSimpArgs false
set_option maxRecDepth 100000
set_option maxRecDepth 100000
open Lab (str str_size str_list str_eta str_inj u8v info5 info_parts)
open Go.RowKit
theorem results_tmp4r {fn : Func} {t u v x : Tmp} (h : fn.results = #[.tmp t, .tmp u, .tmp v, .tmp x]) (tmps : Array Value) (P : Program) (w : World) :
    (results fn tmps).run P w = .ok (.tuple #[tmps.getD t undef, tmps.getD u undef, tmps.getD v undef, tmps.getD x undef]) w := by
  simp only [results, h]
  simp [Sem.run_bind, Result.andThen]
set_option maxHeartbeats 4000000 in
theorem rtext_any (kind body : List UInt8) (w : World) (hG : G8 w) (hk : kind.length ≤ 5000) (hb : body.length ≤ 10000) : Calls Tryz.prog 11 #[.string (str kind), .string (str body)] w fun e w' => TxR kind body w e w' := by
  obtain ⟨i0, hi, hz0, hz1, hz2⟩ := info_parts infoR
  unfold TxR
  have HTF : Hid (txtF kind body = if 4096 < body.length then ([], 0, [], 40)
    else ((decF (encF kind body).1 (body.drop (encF kind body).2.1.toNat)).1, (encF kind body).1,
      if 0 ≤ (decF (encF kind body).1 (body.drop (encF kind body).2.1.toNat)).2 then (encF kind body).2.2 ++ [(2, IntKind.i64.wrap ((encF kind body).2.1 + (decF (encF kind body).1 (body.drop (encF kind body).2.1.toNat)).2))] else (encF kind body).2.2, 0)) := Lib.hid rfl
  obtain ⟨R, hR⟩ : ∃ R, txtF kind body = R := ⟨_, rfl⟩
  rw [hR] at HTF ⊢
  clear hR
  have hsz := str_size body
  by_cases hbig : 4096 < body.length
  · have HR : Hid (R = ([], 0, [], 40)) := Lib.hid (by rw [HTF.out, if_pos hbig])
    obtain ⟨S2, hS2⟩ : ∃ S, str body = S := ⟨_, rfl⟩
    rw [hS2] at hsz ⊢
    have d0 : decide ((4096 : Int) < (S2.size : Int)) = true := by simp; omega
    have d0n : decide (4096 < S2.size) = true := by simp; omega
    have h0n : 4096 < S2.size := by omega
    clear hS2 hsz hbig HTF
    go_enter Tryz.func11, Tryz.ntmps11
    go_wp2_with fail
    refine bodyPost_ret (results_tmp4r rfl _ _ _) rfl ?_
    rw [HR.out]
    exact ⟨_, rfl, rsns_nil _, Below.refl _ _⟩
  have hG2 := hG
  have HE : Hid (Calls Tryz.prog 9 #[.string (str kind), .string (str body)] w fun e w' => EnR kind body w e w') := Lib.hid (rencoding_any kind body w hG hk hb)
  unfold EnR at HE
  have hn := encF_bd kind body
  have hwf := encF_wf kind body
  obtain ⟨E, n, acc, hE⟩ : ∃ E n acc, encF kind body = (E, n, acc) := ⟨_, _, _, rfl⟩
  rw [hE] at HE HTF hn hwf
  dsimp only at HE HTF hn hwf
  obtain ⟨k, rfl⟩ := Int.eq_ofNat_of_zero_le hn.1
  have hkl : k ≤ body.length := by omega
  have hal2 : acc.length ≤ 10 := by omega
  rw [Int.toNat_natCast] at HTF
  have hdl : (body.drop k).length ≤ 5000 := by rw [List.length_drop]; omega
  have HD : Hid (∀ w', G8 w' → Calls Tryz.prog 16 #[.int .i8 E, .string (str (body.drop k))] w' fun e w'' => DeR E (body.drop k) w' e w'') := Lib.hid fun w' g => rdecode_any E hwf (body.drop k) w' hdl
  unfold DeR at HD
  obtain ⟨D, hD⟩ : ∃ D, decF E (body.drop k) = D := ⟨_, rfl⟩
  rw [hD] at HD HTF
  obtain ⟨dt, dn⟩ := D
  dsimp only at HD HTF
  have HGN : Hid (∀ w', Below w.heap.size w w' → G8 w') := Lib.hid fun w' h => hG.next h
  have hsl : ∀ w0 : World, (Instr.slice 9 (.string (str body)) (some (.int .i64 (k : Int))) none none).run Tryz.prog w0 = .ok (.string (str (body.drop k))) w0 := fun w0 =>
    Dec.slice_from (str body) k (by rw [str_size]; exact hkl) (str_list body) rfl w0
  obtain ⟨B2, hB2⟩ : ∃ B, str (body.drop k) = B := ⟨_, rfl⟩
  rw [hB2] at HD hsl
  obtain ⟨DT, hDT⟩ : ∃ T, str dt = T := ⟨_, rfl⟩
  have HDT := Lib.hid hDT
  rw [hDT] at HD
  obtain ⟨S1, hS1⟩ : ∃ S, str kind = S := ⟨_, rfl⟩
  obtain ⟨S2, hS2⟩ : ∃ S, str body = S := ⟨_, rfl⟩
  rw [hS1, hS2] at HE ⊢
  rw [hS2] at hsl hsz
  have d0 : decide ((4096 : Int) < (S2.size : Int)) = false := by simp; omega
  have h0n : ¬ 4096 < S2.size := by omega
  have d0n : decide (4096 < S2.size) = false := by simp; omega
  have hk7 : (k : Int) ≤ 10000 := by omega
  have HTR : Hid (R = (dt, E, if 0 ≤ dn then acc ++ [(2, IntKind.i64.wrap ((k : Int) + dn))] else acc, 0)) := Lib.hid (by rw [HTF.out, if_neg hbig])
  clear hS1 hS2 hDT hB2 hD hE HTF hbig hkl hdl hn hwf hG hG2 hsz hk hb
  by_cases hw : 0 ≤ dn
  · have HR : Hid (R = (dt, E, acc ++ [(2, IntKind.i64.wrap ((k : Int) + dn))], 0)) := Lib.hid (by rw [HTR.out, if_pos hw])
    have d1 : decide ((0 : Int) ≤ dn) = true := by simpa using hw
    obtain ⟨ZZ, hwr⟩ : ∃ z, IntKind.i64.wrap ((k : Int) + dn) = z := ⟨_, rfl⟩
    rw [hwr] at HR
    clear HTR hw
    go_enter Tryz.func11, Tryz.ntmps11
    go_wp2_with (first
      | (go_at_call 9; refine HE.out.mono ?_; rintro _ w1 ⟨u1, rfl, hu1, hb1⟩; have HU1 := Lib.hid hu1; have HB1 := Lib.hid hb1; clear HE hu1 hb1)
      | (go_at_call 16; refine (HD.out _ (HGN.out _ HB1.out)).mono ?_; rintro _ w2 ⟨rfl, hb2⟩; have HU2 := Lib.hid (Dec.own_below (m := 0) HU1.out hb2); have HB2 := Lib.hid (below_call HB1.out hb2); clear HD hb2)
      | (at_builtin; refine wpList_append_lies _ rfl _ _ _ rfl w.heap.size 40 i0 _ 2 16 Tryz.underlying24 hi hz0 hz1 hz2 rfl (by omega) _ acc.length (cellsR acc) rfl (World.ownsRow.alloc HU2.out _) ⟨w2.heap.size, 0, none⟩ 1 1 [.int .i8 2, .int .i64 ZZ] rfl rfl (by have := World.news_of_block (t := 40) (fr := (0, 0)) (heap_alloc_new w2 (.cells #[.int .i8 2, .int .i64 ZZ] 40)); simpa using this) (by simp [Value.oneCell']) (by omega) (by unfold maxLen; omega) (by omega) (by have := HB2.out.size; simp; omega) (w2.heap.size + 1) (by simp) ?_; intro g3 cap3 w3 hown3 hgrow3 hat3 hlt3; have OA3 := Lib.hid hown3; have BA3 := Lib.hid (HB2.out.trans (appR HB2.out.size HU2.out hgrow3)); clear hown3 hgrow3 hat3 hlt3))
    refine bodyPost_ret (results_tmp4r rfl _ _ _) rfl ?_
    rw [HR.out, ← HDT.out]
    refine ⟨_, rfl, rsns_own (base := w.heap.size) ?_, BA3.out⟩
    have := OA3.out
    rw [List.length_append, cellsR_app]
    exact this
  · have HR : Hid (R = (dt, E, acc, 0)) := Lib.hid (by rw [HTR.out, if_neg hw])
    have d1 : decide ((0 : Int) ≤ dn) = false := by simpa using hw
    clear HTR hw
    go_enter Tryz.func11, Tryz.ntmps11
    go_wp2_with (first
      | (go_at_call 9; refine HE.out.mono ?_; rintro _ w1 ⟨u1, rfl, hu1, hb1⟩; have HU1 := Lib.hid hu1; have HB1 := Lib.hid hb1; clear HE hu1 hb1)
      | (go_at_call 16; refine (HD.out _ (HGN.out _ HB1.out)).mono ?_; rintro _ w2 ⟨rfl, hb2⟩; have HB2 := Lib.hid hb2; clear HD hb2))
    refine bodyPost_ret (results_tmp4r rfl _ _ _) rfl ?_
    rw [HR.out, ← HDT.out]
    exact ⟨_, rfl, (rsns_own (base := w.heap.size) HU1.out).below HB2.out, below_call HB1.out HB2.out⟩
end Go.Proofs.YtppabkllconkjaaGreatDoor.Snf
/- The walk of SniffTells. -/
namespace Go.Proofs.YtppabkllconkjaaGreatDoor.Snf
open Go.RowKit
set_option linter.unusedVariables false
set_option linter.unusedSimpArgs false
set_option maxRecDepth 100000
set_option maxRecDepth 100000
open Lab (str str_size str_list str_eta str_inj u8v info5 info_parts)
theorem same_of (R : List Rsn) (hR : R.length ≤ maxLen) (u u' : Value) (w : World) (h : Rsns w u R) (h' : Rsns w u' R) : Calls Tryz.prog 12 #[u, u'] w fun e w' => e = .returned (.bool true) ∧ Below w.heap.size w w' := by
  have := rsame_any R R u u' w h h' hR hR
  simpa using this
theorem txt_few (k b : List UInt8) : (txtF k b).2.2.1.length ≤ 4 := by
  have h := (encF_bd k b).2.2.2.2
  unfold txtF
  split
  · simp
  · dsimp only
    split
    · simp only [List.length_append, List.length_cons, List.length_nil]; omega
    · omega
set_option maxHeartbeats 4000000 in
theorem tells_walk (k b : List UInt8) (w : World) (hG : G8 w) : Calls Tryz.prog 3 #[.string (str k), .string (str b)] w fun e w' => RetB true w e w' := by
  have HW : Hid (∀ w, G8 w → Calls Tryz.prog 7 #[] w fun e w' => RetB true w e w') := Lib.hid wakes_any
  unfold RetB at HW ⊢
  have HMX := Lib.hid hG
  clear hG
  have hszk := str_size k
  have hszb := str_size b
  by_cases hbk : 1000 < k.length
  · obtain ⟨S, hS⟩ : ∃ S, str k = S := ⟨_, rfl⟩
    obtain ⟨T, hT⟩ : ∃ S, str b = S := ⟨_, rfl⟩
    rw [hS] at hszk ⊢
    rw [hT]
    have d0 : decide ((1000 : Int) < (S.size : Int)) = true := by simp; omega
    clear hS hT hszk hszb hbk
    go_enter Tryz.func3, Tryz.ntmps3
    go_wp2_with (go_at_call 7; refine (HW.out _ HMX.out).mono ?_; rintro _ w1 ⟨rfl, hb1⟩; replace HMX := Lib.hid (HMX.out.next hb1); clear HW)
    go_ret
    exact ⟨rfl, hb1⟩
  by_cases hbb : 6000 < b.length
  · obtain ⟨S, hS⟩ : ∃ S, str k = S := ⟨_, rfl⟩
    obtain ⟨T, hT⟩ : ∃ S, str b = S := ⟨_, rfl⟩
    rw [hS] at hszk ⊢
    rw [hT] at hszb ⊢
    have d0 : decide ((1000 : Int) < (S.size : Int)) = false := by simp; omega
    have d1 : decide ((6000 : Int) < (T.size : Int)) = true := by simp; omega
    clear hS hT hszk hszb hbk hbb
    go_enter Tryz.func3, Tryz.ntmps3
    go_wp2_with (go_at_call 7; refine (HW.out _ HMX.out).mono ?_; rintro _ w1 ⟨rfl, hb1⟩; replace HMX := Lib.hid (HMX.out.next hb1); clear HW)
    go_ret
    exact ⟨rfl, hb1⟩
  obtain ⟨E, hE⟩ : ∃ E, encF k b = E := ⟨_, rfl⟩
  obtain ⟨X, hX⟩ : ∃ X, txtF k b = X := ⟨_, rfl⟩
  obtain ⟨V, hV⟩ : ∃ V, xmlK k = V := ⟨_, rfl⟩
  have hfe : E.2.2.length ≤ maxLen := by rw [← hE]; exact Nat.le_trans (encF_bd k b).2.2.2.2 (by decide)
  have hfx : X.2.2.1.length ≤ maxLen := by rw [← hX]; exact Nat.le_trans (txt_few k b) (by decide)
  have HE1 : Hid (∀ w, G8 w → Calls Tryz.prog 8 #[.string (str k), .string (str b)] w fun e w' => ∃ u, e = .returned (.tuple #[.int .i8 E.1, .int .i64 E.2.1, u]) ∧ Rsns w' u E.2.2 ∧ Below w.heap.size w w') := Lib.hid fun w g => (pencoding_any k b w g (by omega) (by omega)).mono fun _ _ => en_of hE
  have HE2 : Hid (∀ w, G8 w → Calls Tryz.prog 9 #[.string (str k), .string (str b)] w fun e w' => ∃ u, e = .returned (.tuple #[.int .i8 E.1, .int .i64 E.2.1, u]) ∧ Rsns w' u E.2.2 ∧ Below w.heap.size w w') := Lib.hid fun w g => (rencoding_any k b w g (by omega) (by omega)).mono fun _ _ => en_of hE
  have HX1 : Hid (∀ w, G8 w → Calls Tryz.prog 10 #[.string (str k), .string (str b)] w fun e w' => ∃ u, e = .returned (.tuple #[.string (str X.1), .int .i8 X.2.1, u, .int .i64 X.2.2.2]) ∧ Rsns w' u X.2.2.1 ∧ Below w.heap.size w w') := Lib.hid fun w g => (ptext_any k b w g (by omega) (by omega)).mono fun _ _ => tx_of hX
  have HX2 : Hid (∀ w, G8 w → Calls Tryz.prog 11 #[.string (str k), .string (str b)] w fun e w' => ∃ u, e = .returned (.tuple #[.string (str X.1), .int .i8 X.2.1, u, .int .i64 X.2.2.2]) ∧ Rsns w' u X.2.2.1 ∧ Below w.heap.size w w') := Lib.hid fun w g => (rtext_any k b w g (by omega) (by omega)).mono fun _ _ => tx_of hX
  have HV1 : Hid (∀ w, Calls Tryz.prog 13 #[.string (str k)] w fun e w' => e = .returned (.bool V) ∧ Below w.heap.size w w') := Lib.hid fun w => (pxml_any k w (by omega)).mono fun _ _ h => by unfold XmR at h; rw [hV] at h; exact h
  have HV2 : Hid (∀ w, Calls Tryz.prog 14 #[.string (str k)] w fun e w' => e = .returned (.bool V) ∧ Below w.heap.size w w') := Lib.hid fun w => (rxml_any k w (by omega)).mono fun _ _ h => by unfold XmR at h; rw [hV] at h; exact h
  clear hE hX hV
  obtain ⟨E1, E2, E3⟩ := E
  obtain ⟨X1, X2, X3, X4⟩ := X
  dsimp only at HE1 HE2 HX1 HX2 hfe hfx
  have HSE := Lib.hid (same_of E3 hfe)
  have HSX := Lib.hid (same_of X3 hfx)
  clear hfe hfx
  obtain ⟨Y, hY⟩ : ∃ Y, str X1 = Y := ⟨_, rfl⟩
  rw [hY] at HX1 HX2
  clear hY
  obtain ⟨S, hS⟩ : ∃ S, str k = S := ⟨_, rfl⟩
  obtain ⟨T, hT⟩ : ∃ S, str b = S := ⟨_, rfl⟩
  rw [hS] at hszk HE1 HE2 HX1 HX2 HV1 HV2 ⊢
  rw [hT] at hszb HE1 HE2 HX1 HX2 ⊢
  have d0 : decide ((1000 : Int) < (S.size : Int)) = false := by simp; omega
  have d1 : decide ((6000 : Int) < (T.size : Int)) = false := by simp; omega
  clear hS hT hszk hszb hbk hbb
  go_enter Tryz.func3, Tryz.ntmps3
  go_wp2_with (first
    | (go_at_call 8; refine (HE1.out _ HMX.out).mono ?_; rintro _ w1 ⟨u1, rfl, hp1, hb1⟩; replace HMX := Lib.hid (HMX.out.next hb1); clear HE1)
    | (go_at_call 9; refine (HE2.out _ HMX.out).mono ?_; rintro _ w2 ⟨u2, rfl, hp2, hb2⟩; replace HMX := Lib.hid (HMX.out.next hb2); clear HE2)
    | (go_at_call 10; refine (HX1.out _ HMX.out).mono ?_; rintro _ w3 ⟨u3, rfl, hp3, hb3⟩; replace HMX := Lib.hid (HMX.out.next hb3); clear HX1)
    | (go_at_call 11; refine (HX2.out _ HMX.out).mono ?_; rintro _ w4 ⟨u4, rfl, hp4, hb4⟩; replace HMX := Lib.hid (HMX.out.next hb4); clear HX2)
    | (go_at_call 12; refine (HSE.out _ _ _ (((hp1.below hb2).below hb3).below hb4) ((hp2.below hb3).below hb4)).mono ?_; rintro _ w5 ⟨rfl, hb5⟩; replace HMX := Lib.hid (HMX.out.next hb5); clear HSE)
    | (go_at_call 12; refine (HSX.out _ _ _ ((hp3.below hb4).below hb5) (hp4.below hb5)).mono ?_; rintro _ w6 ⟨rfl, hb6⟩; replace HMX := Lib.hid (HMX.out.next hb6); clear HSX)
    | (go_at_call 13; refine (HV1.out _).mono ?_; rintro _ w7 ⟨rfl, hb7⟩; replace HMX := Lib.hid (HMX.out.next hb7); clear HV1)
    | (go_at_call 14; refine (HV2.out _).mono ?_; rintro _ w8 ⟨rfl, hb8⟩; replace HMX := Lib.hid (HMX.out.next hb8); clear HV2)
    | (go_at_call 7; refine (HW.out _ HMX.out).mono ?_; rintro _ w10 ⟨rfl, hb10⟩; replace HMX := Lib.hid (HMX.out.next hb10); clear HW))
  go_ret
  exact ⟨rfl, below_call (below_call (below_call (below_call (below_call (below_call (below_call (below_call hb1 hb2) hb3) hb4) hb5) hb6) hb7) hb8) hb10⟩
end Go.Proofs.YtppabkllconkjaaGreatDoor.Snf
