/- Proved: for any Content-Type and any body the law SniffTells of layer 8 returns true, and each argument reads behind the call as it read before. Condition: the six listed variables read as the program lays them (tied). -/
import Derived.BigQuiet
import Derived.ChangeSame
import Derived.ChangeVars
import Derived.Deep.AppendLies
import Derived.Deep.DeepCutAuto
import Derived.Deep.Fields
import Derived.Deep.Grids
import Derived.Deep.LoopGhost
import Derived.Deep.Onto
import Derived.Deep.OwnRows
import Derived.Deep.QuietTactic
import Derived.Deep.RegionHeld3
import Derived.Deep.RegionLaw
import Derived.Deep.Slices
import Derived.Deep.WholeRow
import Derived.HandedShaped
import Derived.LaidMore
import Derived.LaidOnce
import Derived.Laws.AppendOwn
import Derived.Laws.BitsLemmas
import Derived.Laws.BytesArg
import Derived.Laws.DeepStrings4
import Derived.Laws.Externs
import Derived.Laws.IdiomStrings
import Derived.Laws.ResultCell
import Derived.Laws.Rows
import Derived.Laws.StructEq
import Derived.Laws.Tables
import Derived.Lay
import Derived.Lib.AppendStr
import Derived.Lib.Bytealg
import Derived.Lib.Hide
import Derived.Lib.SlTrimSet
import Derived.Lib.SmallJoins
import Derived.LoopIn
import Derived.LoopN
import Derived.LoopNIn
import Derived.Maps.AppendAt
import Derived.Maps.Own
import Derived.Maps.OwnSet
import Derived.OpenShut
import Derived.Outline
import Derived.OwnWalk
import Derived.OwnWalkIn
import Derived.ProofKit
import Derived.RangeFuncBound
import Derived.RangeFuncBox
import Derived.RangeFuncCalls
import Derived.RangeFuncLeaves
import Derived.RangeFuncNested
import Derived.RangeFuncWrites
import Derived.SevenTiedAt
import Derived.Shelf.Abstract
import Derived.Shelf.LaysM
import Derived.Shelf.RegionOpen
import Derived.Shelf.Small.Wraps
import Derived.Shelf.Strings.Cut
import Derived.Shelf.Strings.Shaped
import Derived.Shelf.Strings.SlTrimAscii
import Derived.SliceStrings
import Derived.StillTailTactics
import Derived.Stop.Joined
import Derived.TacticsInMore
import Derived.Test.YtppabkllconkjaaGreatDoorCards
import Derived.Test.YtppabkllconkjaaGreatDoorProg
import Derived.Test.YtppabkllconkjaaGreatDoorRows
import Derived.Test.YtppabkllconkjaaGreatDoorTie
import Derived.WalkKit
import Derived.WalkMore
import Derived.Test.YtppabkllconkjaaGreatDoorK01
import Derived.Test.YtppabkllconkjaaGreatDoorK03
import Derived.Test.YtppabkllconkjaaGreatDoorK05
import Derived.Test.YtppabkllconkjaaGreatDoorK07
import Derived.Test.YtppabkllconkjaaGreatDoorK11
import Derived.Test.YtppabkllconkjaaGreatDoorK12
import Derived.Test.YtppabkllconkjaaGreatDoorK14
import Derived.Test.YtppabkllconkjaaGreatDoorK18
import Derived.Test.YtppabkllconkjaaGreatDoorK20
import Derived.Test.YtppabkllconkjaaGreatDoorK25
import Derived.Test.YtppabkllconkjaaGreatDoorK29
namespace Go.Proofs.YtppabkllconkjaaGreatDoor
open Go.RowKit
set_option linter.unusedVariables false
set_option linter.unusedSimpArgs false
set_option maxRecDepth 100000
open Go.ChangeShapes Go.WideShapes Go.ChangeAt
theorem sniffTells_lifted (os : Os) (started : os.Started) (H : Type) (enc : TypeId × Value → H) :
    ReturnsInHanded {} Tryz.checked os 3 .any (fun w args => (Rows.sniffTellsSpec.pre enc Tryz.prog Tryz.f3 [] false w args ∧ laidMetH Tryz.prog Rows.sniffTellsRow.laid w) ∧ sizedMet enc Tryz.prog Tryz.f3 (OpenSpec.ofChange Rows.sniffTellsSpec) false w args)
      (Rows.sniffTellsSpec.post enc Tryz.prog Tryz.f3 false true false false) := by
  refine returnsIn_all (C := Tryz.checked) (L := Rows.sniffTellsRow.laid) own started (by kernel_rfl) Tryz.func3
    (ChangeSpec.witness_shaped (enc := enc) (C := Tryz.checked) (os := os) (X := fun w _ => laidMetH Tryz.prog Rows.sniffTellsRow.laid w) false (World.laidAll Tryz.prog os Rows.sniffTellsRow.laid) #[.string ⟨#[]⟩, .string ⟨#[]⟩] 8 (World.laidAll_os _ _ _)
      (World.shaped_of_ZipB (by kernel_rfl) (by kernel_rfl)) (by kernel_rfl) (by kernel_rfl) (by kernel_rfl)
      (by rw [MakeChecks.laidMetH_plain _ _ _ (by kernel_rfl)]; exact laidMet_laidAll _ (by kernel_rfl) (by kernel_rfl))) ?_
  intro W base args ds gs before hval0 hW hshape hL hsz
  have hval : ∀ (j : Nat) t v, Tryz.f3.params[j]? = some t → args[j]? = some v → Value.okWide Tryz.prog W .any base t v := hval0
  have hW' := hW
  obtain ⟨p, q, hA0, hV, rfl, hfz, hnd⟩ := hW
  have hA : DataW.TrodAll enc Tryz.prog W 0 (fun _ => true) true Tryz.f3.params.toList args.toList ds p := hA0
  rw [Tryz.params3] at hA hval
  obtain ⟨v0, vs0, d0, ds0, p0, q0, hargs, rfl, rfl, h0, r0⟩ := trodAll_cons hA
  obtain ⟨v1, vs1, d1, ds1, p1, q1, rfl, rfl, rfl, h1, r1⟩ := trodAll_cons r0
  obtain ⟨rfl, rfl, rfl⟩ := trodAll_nil r1
  obtain rfl : args = #[v0, v1] := by cases args; simp_all
  obtain ⟨rfl, rfl⟩ := trodVars_none hV
  have hG := g8_of_laid hL hshape
  obtain ⟨s, rfl, rfl, hs⟩ := open_str (hval 0 9 v0 rfl rfl) h0
  obtain ⟨t, rfl, rfl, ht⟩ := open_str (hval 1 9 v1 rfl rfl) h1
  obtain ⟨ls, rfl⟩ : ∃ l, s = Lab.str l := ⟨_, (Lab.str_eta s).symm⟩
  rw [Lab.str_size] at hs
  obtain ⟨lt, rfl⟩ : ∃ l, t = Lab.str l := ⟨_, (Lab.str_eta t).symm⟩
  rw [Lab.str_size] at ht
  refine (Snf.tells_walk ls lt W hG).mono fun e W' ⟨he, hb⟩ => ⟨_, he, ?_⟩
  exact law_post rfl (by kernel_rfl) (by
    intro t ht
    have : t ∈ [9, 9] := by rw [Tryz.params3] at ht; exact ht
    simp only [List.mem_cons, List.not_mem_nil, or_false] at this
    rcases this with rfl | rfl <;> exact ⟨by kernel_rfl, of_decide_eq_true (by kernel_rfl)⟩) hW' rfl hb
theorem sniffTells_said : Rows.SniffTellsSaid :=
  OpenClaim.holds_of_wide 3 Tryz.f3 rfl rfl rfl rfl rfl rfl rfl ⟨rfl, rfl, rfl, rfl, rfl⟩ rfl rfl rfl rfl rfl (by kernel_rfl) Tryz.func3 (by kernel_rfl)
    (of_decide_eq_true (by kernel_rfl)) (by unfold Func.isWrapper; first | (rw [if_pos (by decide +kernel)]; kernel_rfl) | (rw [if_neg (by decide +kernel)]; exact ⟨rfl, rfl⟩))
    (fun os started H enc _ => sniffTells_lifted os started H enc)
theorem sniffTells_card : Rows.SniffTellsCardSaid :=
  Claim7.holds_tied_plain_at .later [] [.data, .data, .data, .data, .data, .pinned] true (true, "ddd2f303afac0de0b7220585ff61cccaf31f0181490fceff40b52cd32c76d95e") false
    sniffTells_said (fun _ h => by cases h) (by kernel_rfl) (fun _ h => by cases h) sniffTells_row_tie rfl ⟨rfl, rfl⟩ (by kernel_rfl) rfl
    (fun f fn hf hfn => by
      obtain rfl : f = 3 := Option.some.inj ((show Tryz.prog.funcNamed "carding/cardinglaw08.SniffTells" = some 3 by kernel_rfl).symm.trans hf) |>.symm
      obtain rfl : fn = Tryz.f3 := (Option.some.inj (Tryz.func3.symm.trans hfn)).symm
      exact ⟨by kernel_rfl, fun j t ht => by
        rw [Tryz.params3] at ht
        have h1 := Array.mem_of_getElem? ht
        have h2 : t ∈ [9, 9] := by simpa using h1
        simp only [List.mem_cons, List.not_mem_nil, or_false] at h2
        rcases h2 with rfl | rfl
        all_goals exact (show Tryz.prog.wantsStandIn _ = false by kernel_rfl)⟩)
    (by kernel_rfl)
end Go.Proofs.YtppabkllconkjaaGreatDoor
