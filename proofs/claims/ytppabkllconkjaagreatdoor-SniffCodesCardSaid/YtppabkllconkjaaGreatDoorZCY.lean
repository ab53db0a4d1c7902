/- Proved: for any encoding, any bytes and any text the law SniffCodes of layer 8 returns true, and each argument reads behind the call as it read before. Condition: the six listed variables read as the program lays them (tied). -/
import Derived.BigQuiet
import Derived.ChangeSame
import Derived.ChangeVars
import Derived.Deep.AppendLies
import Derived.Deep.DeepCutAuto
import Derived.Deep.Fields
import Derived.Deep.Grids
import Derived.Deep.LoopGhost
import Derived.Deep.Onto
import Derived.Deep.OwnRows
import Derived.Deep.QuietTactic
import Derived.Deep.RegionHeld3
import Derived.Deep.RegionLaw
import Derived.Deep.Slices
import Derived.Deep.WholeRow
import Derived.HandedShaped
import Derived.LaidMore
import Derived.LaidOnce
import Derived.Laws.AppendOwn
import Derived.Laws.BitsLemmas
import Derived.Laws.BytesArg
import Derived.Laws.DeepStrings4
import Derived.Laws.Externs
import Derived.Laws.IdiomStrings
import Derived.Laws.ResultCell
import Derived.Laws.Rows
import Derived.Laws.StructEq
import Derived.Laws.Tables
import Derived.Lay
import Derived.Lib.AppendStr
import Derived.Lib.Bytealg
import Derived.Lib.Hide
import Derived.Lib.SlTrimSet
import Derived.Lib.SmallJoins
import Derived.LoopIn
import Derived.LoopN
import Derived.LoopNIn
import Derived.Maps.AppendAt
import Derived.Maps.Own
import Derived.Maps.OwnSet
import Derived.OpenShut
import Derived.Outline
import Derived.OwnWalk
import Derived.OwnWalkIn
import Derived.ProofKit
import Derived.RangeFuncBound
import Derived.RangeFuncBox
import Derived.RangeFuncCalls
import Derived.RangeFuncLeaves
import Derived.RangeFuncNested
import Derived.RangeFuncWrites
import Derived.SevenTiedAt
import Derived.Shelf.Abstract
import Derived.Shelf.LaysM
import Derived.Shelf.RegionOpen
import Derived.Shelf.Small.Wraps
import Derived.Shelf.Strings.Cut
import Derived.Shelf.Strings.Shaped
import Derived.Shelf.Strings.SlTrimAscii
import Derived.SliceStrings
import Derived.StillTailTactics
import Derived.Stop.Joined
import Derived.TacticsInMore
import Derived.Test.YtppabkllconkjaaGreatDoorCards
import Derived.Test.YtppabkllconkjaaGreatDoorProg
import Derived.Test.YtppabkllconkjaaGreatDoorRows
import Derived.Test.YtppabkllconkjaaGreatDoorTie
import Derived.WalkKit
import Derived.WalkMore
import Derived.Test.YtppabkllconkjaaGreatDoorK01
import Derived.Test.YtppabkllconkjaaGreatDoorK03
import Derived.Test.YtppabkllconkjaaGreatDoorK05
import Derived.Test.YtppabkllconkjaaGreatDoorK07
import Derived.Test.YtppabkllconkjaaGreatDoorK11
import Derived.Test.YtppabkllconkjaaGreatDoorK12
import Derived.Test.YtppabkllconkjaaGreatDoorK14
import Derived.Test.YtppabkllconkjaaGreatDoorK18
import Derived.Test.YtppabkllconkjaaGreatDoorK20
import Derived.Test.YtppabkllconkjaaGreatDoorK25
import Derived.Test.YtppabkllconkjaaGreatDoorK30
namespace Go.Proofs.YtppabkllconkjaaGreatDoor
open Go.RowKit
set_option linter.unusedVariables false
set_option linter.unusedSimpArgs false
set_option maxRecDepth 100000
open Go.ChangeShapes Go.WideShapes Go.ChangeAt
theorem reach_sniffCodes {H : Type} {e : Int} {a b : ByteArray} (h : ((DataW.weightsEach Tryz.prog (Tryz.f4.params.toList ++ DataSpec.varTypes Tryz.prog Rows.sniffCodesSpec.plain) ([DataW.lit (H := H) (.int .i8 e), .lit (.string a.data.toList), .lit (.string b.data.toList)] ++ [])).all fun x => decide (x ≤ reachBytes)) = true) :
    a.size ≤ 140737488355328 ∧ b.size ≤ 140737488355328 := by
  rw [Tryz.params4] at h
  simp [DataW.weightsEach, DataW.weights, reachBytes, DataSpec.varTypes] at h
  refine ⟨?_, ?_⟩
  · have := of_decide_eq_true h.1
    omega
  · have := of_decide_eq_true h.2
    omega
theorem sniffCodes_lifted (os : Os) (started : os.Started) (H : Type) (enc : TypeId × Value → H) :
    ReturnsInHanded {} Tryz.checked os 4 .any (fun w args => (Rows.sniffCodesSpec.pre enc Tryz.prog Tryz.f4 [] false w args ∧ laidMetH Tryz.prog Rows.sniffCodesRow.laid w) ∧ sizedMet enc Tryz.prog Tryz.f4 (OpenSpec.ofChange Rows.sniffCodesSpec) false w args)
      (Rows.sniffCodesSpec.post enc Tryz.prog Tryz.f4 false true false false) := by
  refine returnsIn_all (C := Tryz.checked) (L := Rows.sniffCodesRow.laid) own started (by kernel_rfl) Tryz.func4
    (ChangeSpec.witness_shaped (enc := enc) (C := Tryz.checked) (os := os) (X := fun w _ => laidMetH Tryz.prog Rows.sniffCodesRow.laid w) false (World.laidAll Tryz.prog os Rows.sniffCodesRow.laid) #[.int .i8 0, .string ⟨#[]⟩, .string ⟨#[]⟩] 8 (World.laidAll_os _ _ _)
      (World.shaped_of_ZipB (by kernel_rfl) (by kernel_rfl)) (by kernel_rfl) (by kernel_rfl) (by kernel_rfl)
      (by rw [MakeChecks.laidMetH_plain _ _ _ (by kernel_rfl)]; exact laidMet_laidAll _ (by kernel_rfl) (by kernel_rfl))) ?_
  intro W base args ds gs before hval0 hW hshape hL hsz
  have hval : ∀ (j : Nat) t v, Tryz.f4.params[j]? = some t → args[j]? = some v → Value.okWide Tryz.prog W .any base t v := hval0
  have hW' := hW
  obtain ⟨p, q, hA0, hV, rfl, hfz, hnd⟩ := hW
  have hA : DataW.TrodAll enc Tryz.prog W 0 (fun _ => true) true Tryz.f4.params.toList args.toList ds p := hA0
  rw [Tryz.params4] at hA hval
  obtain ⟨v0, vs0, d0, ds0, p0, q0, hargs, rfl, rfl, h0, r0⟩ := trodAll_cons hA
  obtain ⟨v1, vs1, d1, ds1, p1, q1, rfl, rfl, rfl, h1, r1⟩ := trodAll_cons r0
  obtain ⟨v2, vs2, d2, ds2, p2, q2, rfl, rfl, rfl, h2, r2⟩ := trodAll_cons r1
  obtain ⟨rfl, rfl, rfl⟩ := trodAll_nil r2
  obtain rfl : args = #[v0, v1, v2] := by cases args; simp_all
  obtain ⟨rfl, rfl⟩ := trodVars_none hV
  have hG := g8_of_laid hL hshape
  obtain ⟨x, rfl, rfl, rfl, we⟩ := open_int Tryz.underlying23 (hval 0 23 v0 rfl rfl) h0
  obtain ⟨s, rfl, rfl, hs⟩ := open_str (hval 1 9 v1 rfl rfl) h1
  obtain ⟨t, rfl, rfl, ht⟩ := open_str (hval 2 9 v2 rfl rfl) h2
  obtain ⟨z1, z2⟩ := reach_sniffCodes hsz
  obtain ⟨ls, rfl⟩ : ∃ l, s = Lab.str l := ⟨_, (Lab.str_eta s).symm⟩
  rw [Lab.str_size] at hs
  obtain ⟨lt, rfl⟩ : ∃ l, t = Lab.str l := ⟨_, (Lab.str_eta t).symm⟩
  rw [Lab.str_size] at ht
  rw [Lab.str_size] at z1 z2
  refine (Snf.codes_walk x we ls lt W hG (by unfold maxLen; omega)).mono fun e W' ⟨he, hb⟩ => ⟨_, he, ?_⟩
  exact law_post rfl (by kernel_rfl) (by
    intro t ht
    have : t ∈ [23, 9, 9] := by rw [Tryz.params4] at ht; exact ht
    simp only [List.mem_cons, List.not_mem_nil, or_false] at this
    rcases this with rfl | rfl | rfl <;> exact ⟨by kernel_rfl, of_decide_eq_true (by kernel_rfl)⟩) hW' rfl hb
theorem sniffCodes_said : Rows.SniffCodesSaid :=
  OpenClaim.holds_of_wide 4 Tryz.f4 rfl rfl rfl rfl rfl rfl rfl ⟨rfl, rfl, rfl, rfl, rfl⟩ rfl rfl rfl rfl rfl (by kernel_rfl) Tryz.func4 (by kernel_rfl)
    (of_decide_eq_true (by kernel_rfl)) (by unfold Func.isWrapper; first | (rw [if_pos (by decide +kernel)]; kernel_rfl) | (rw [if_neg (by decide +kernel)]; exact ⟨rfl, rfl⟩))
    (fun os started H enc _ => sniffCodes_lifted os started H enc)
theorem sniffCodes_card : Rows.SniffCodesCardSaid :=
  Claim7.holds_tied_plain_at .later [] [.data, .data, .data, .data, .data, .pinned] true (true, "ddd2f303afac0de0b7220585ff61cccaf31f0181490fceff40b52cd32c76d95e") false
    sniffCodes_said (fun _ h => by cases h) (by kernel_rfl) (fun _ h => by cases h) sniffCodes_row_tie rfl ⟨rfl, rfl⟩ (by kernel_rfl) rfl
    (fun f fn hf hfn => by
      obtain rfl : f = 4 := Option.some.inj ((show Tryz.prog.funcNamed "carding/cardinglaw08.SniffCodes" = some 4 by kernel_rfl).symm.trans hf) |>.symm
      obtain rfl : fn = Tryz.f4 := (Option.some.inj (Tryz.func4.symm.trans hfn)).symm
      exact ⟨by kernel_rfl, fun j t ht => by
        rw [Tryz.params4] at ht
        have h1 := Array.mem_of_getElem? ht
        have h2 : t ∈ [23, 9, 9] := by simpa using h1
        simp only [List.mem_cons, List.not_mem_nil, or_false] at h2
        rcases h2 with rfl | rfl | rfl
        all_goals exact (show Tryz.prog.wantsStandIn _ = false by kernel_rfl)⟩)
    (by kernel_rfl)
end Go.Proofs.YtppabkllconkjaaGreatDoor
