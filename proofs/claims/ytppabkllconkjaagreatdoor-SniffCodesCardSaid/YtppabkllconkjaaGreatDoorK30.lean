/- Joined: NXC. -/
import Derived.BigQuiet
import Derived.Deep.AppendLies
import Derived.Deep.DeepCutAuto
import Derived.Deep.LoopGhost
import Derived.Deep.Onto
import Derived.Deep.OwnRows
import Derived.Deep.QuietTactic
import Derived.Deep.RegionHeld3
import Derived.Deep.RegionLaw
import Derived.Deep.WholeRow
import Derived.Laws.AppendOwn
import Derived.Laws.BitsLemmas
import Derived.Laws.BytesArg
import Derived.Laws.DeepStrings4
import Derived.Laws.Externs
import Derived.Laws.IdiomStrings
import Derived.Laws.ResultCell
import Derived.Laws.Rows
import Derived.Laws.StructEq
import Derived.Laws.Tables
import Derived.Lib.AppendStr
import Derived.Lib.Bytealg
import Derived.Lib.Hide
import Derived.Lib.SlTrimSet
import Derived.LoopIn
import Derived.LoopN
import Derived.LoopNIn
import Derived.Maps.AppendAt
import Derived.Maps.Own
import Derived.Maps.OwnSet
import Derived.OpenShut
import Derived.Outline
import Derived.OwnWalk
import Derived.OwnWalkIn
import Derived.ProofKit
import Derived.RangeFuncBound
import Derived.RangeFuncBox
import Derived.RangeFuncCalls
import Derived.RangeFuncLeaves
import Derived.RangeFuncNested
import Derived.RangeFuncWrites
import Derived.Shelf.Abstract
import Derived.Shelf.LaysM
import Derived.Shelf.RegionOpen
import Derived.Shelf.Small.Wraps
import Derived.Shelf.Strings.Cut
import Derived.Shelf.Strings.Shaped
import Derived.Shelf.Strings.SlTrimAscii
import Derived.StillTailTactics
import Derived.TacticsInMore
import Derived.Test.YtppabkllconkjaaGreatDoorProg
import Derived.Test.YtppabkllconkjaaGreatDoorRows
import Derived.WalkKit
import Derived.WalkMore
import Derived.Test.YtppabkllconkjaaGreatDoorK01
import Derived.Test.YtppabkllconkjaaGreatDoorK03
import Derived.Test.YtppabkllconkjaaGreatDoorK05
import Derived.Test.YtppabkllconkjaaGreatDoorK07
import Derived.Test.YtppabkllconkjaaGreatDoorK09
import Derived.Test.YtppabkllconkjaaGreatDoorK11
import Derived.Test.YtppabkllconkjaaGreatDoorK14
import Derived.Test.YtppabkllconkjaaGreatDoorK15
import Derived.Test.YtppabkllconkjaaGreatDoorK18
import Derived.Test.YtppabkllconkjaaGreatDoorK20
import Derived.Test.YtppabkllconkjaaGreatDoorK24
import Derived.Test.YtppabkllconkjaaGreatDoorK25
import Derived.Test.YtppabkllconkjaaGreatDoorK26
/- The walk of SniffCodes. -/
namespace Go.Proofs.YtppabkllconkjaaGreatDoor.Snf
open Go.RowKit
set_option linter.unusedVariables false
set_option linter.unusedSimpArgs false
set_option maxRecDepth 100000
set_option maxRecDepth 100000
open Lab (str str_size str_list str_eta str_inj u8v info5 info_parts)
set_option maxHeartbeats 4000000 in
theorem codes_walk (x : Int) (hwf : (Lit.int .i8 x).wf = true) (b t : List UInt8) (w : World) (hG : G8 w) (hsum : b.length + t.length ≤ maxLen) : Calls Tryz.prog 4 #[.int .i8 x, .string (str b), .string (str t)] w fun e w' => RetB true w e w' := by
  have HW : Hid (∀ w, G8 w → Calls Tryz.prog 7 #[] w fun e w' => RetB true w e w') := Lib.hid wakes_any
  unfold RetB at HW ⊢
  have HMX := Lib.hid hG
  clear hG
  have hszk := str_size b
  have hszb := str_size t
  unfold maxLen at hsum
  by_cases hbig : 3000 < b.length + t.length
  · obtain ⟨S, hS⟩ : ∃ S, str b = S := ⟨_, rfl⟩
    obtain ⟨T, hT⟩ : ∃ S, str t = S := ⟨_, rfl⟩
    rw [hS] at hszk ⊢
    rw [hT] at hszb ⊢
    have d0 : decide ((3000 : Int) < (S.size : Int) + (T.size : Int)) = true := by simp; omega
    have d0w : (S.size : Int) + (T.size : Int) ≤ 9223372036854775807 := by omega
    clear hS hT hszk hszb hbig hsum
    go_enter Tryz.func4, Tryz.ntmps4
    go_wp2_with (go_at_call 7; refine (HW.out _ HMX.out).mono ?_; rintro _ w1 ⟨rfl, hb1⟩; replace HMX := Lib.hid (HMX.out.next hb1); clear HW)
    go_ret
    exact ⟨rfl, hb1⟩
  obtain ⟨D, hD⟩ : ∃ D, decF x b = D := ⟨_, rfl⟩
  obtain ⟨C, hC⟩ : ∃ C, encdF x t = C := ⟨_, rfl⟩
  have HD1 : Hid (∀ w, G8 w → Calls Tryz.prog 15 #[.int .i8 x, .string (str b)] w fun e w' => e = .returned (.tuple #[.string (str D.1), .int .i64 D.2]) ∧ Below w.heap.size w w') := Lib.hid fun w g => (pdecode_any x hwf b w g (by omega)).mono fun _ _ h => by unfold DeR at h; rw [hD] at h; exact h
  have HD2 : Hid (∀ w, Calls Tryz.prog 16 #[.int .i8 x, .string (str b)] w fun e w' => e = .returned (.tuple #[.string (str D.1), .int .i64 D.2]) ∧ Below w.heap.size w w') := Lib.hid fun w => (rdecode_any x hwf b w (by omega)).mono fun _ _ h => by unfold DeR at h; rw [hD] at h; exact h
  have HC1 : Hid (∀ w, G8 w → Calls Tryz.prog 17 #[.int .i8 x, .string (str t)] w fun e w' => e = .returned (.tuple #[.string (str C.1), .bool C.2]) ∧ Below w.heap.size w w') := Lib.hid fun w g => (pencode_any x hwf t w g (by omega)).mono fun _ _ h => by unfold EcR at h; rw [hC] at h; exact h
  have HC2 : Hid (∀ w, Calls Tryz.prog 18 #[.int .i8 x, .string (str t)] w fun e w' => e = .returned (.tuple #[.string (str C.1), .bool C.2]) ∧ Below w.heap.size w w') := Lib.hid fun w => (rencode_any x hwf t w (by omega)).mono fun _ _ h => by unfold EcR at h; rw [hC] at h; exact h
  clear hD hC
  obtain ⟨D1, D2⟩ := D
  obtain ⟨C1, C2⟩ := C
  dsimp only at HD1 HD2 HC1 HC2
  obtain ⟨Y, hY⟩ : ∃ Y, str D1 = Y := ⟨_, rfl⟩
  obtain ⟨Z, hZ⟩ : ∃ Z, str C1 = Z := ⟨_, rfl⟩
  rw [hY] at HD1 HD2
  rw [hZ] at HC1 HC2
  clear hY hZ
  obtain ⟨S, hS⟩ : ∃ S, str b = S := ⟨_, rfl⟩
  obtain ⟨T, hT⟩ : ∃ S, str t = S := ⟨_, rfl⟩
  rw [hS] at hszk HD1 HD2 ⊢
  rw [hT] at hszb HC1 HC2 ⊢
  have d0 : decide ((3000 : Int) < (S.size : Int) + (T.size : Int)) = false := by simp; omega
  have d0w : (S.size : Int) + (T.size : Int) ≤ 9223372036854775807 := by omega
  clear hS hT hszk hszb hbig hsum
  go_enter Tryz.func4, Tryz.ntmps4
  go_wp2_with (first
    | (go_at_call 15; refine (HD1.out _ HMX.out).mono ?_; rintro _ w1 ⟨rfl, hb1⟩; replace HMX := Lib.hid (HMX.out.next hb1); clear HD1)
    | (go_at_call 16; refine (HD2.out _).mono ?_; rintro _ w2 ⟨rfl, hb2⟩; replace HMX := Lib.hid (HMX.out.next hb2); clear HD2)
    | (go_at_call 17; refine (HC1.out _ HMX.out).mono ?_; rintro _ w3 ⟨rfl, hb3⟩; replace HMX := Lib.hid (HMX.out.next hb3); clear HC1)
    | (go_at_call 18; refine (HC2.out _).mono ?_; rintro _ w4 ⟨rfl, hb4⟩; replace HMX := Lib.hid (HMX.out.next hb4); clear HC2)
    | (go_at_call 7; refine (HW.out _ HMX.out).mono ?_; rintro _ w10 ⟨rfl, hb10⟩; replace HMX := Lib.hid (HMX.out.next hb10); clear HW))
  go_ret
  exact ⟨rfl, below_call (below_call (below_call (below_call hb1 hb2) hb3) hb4) hb10⟩
end Go.Proofs.YtppabkllconkjaaGreatDoor.Snf
