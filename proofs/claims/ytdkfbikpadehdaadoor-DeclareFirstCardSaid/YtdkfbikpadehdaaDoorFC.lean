/- Proved: for any bytes and any text behind the law DeclareFirst of layer 7 returns true, and each argument reads behind the call as it read before. Condition: the listed variables of package unicode/utf8 read as the program lays them (tied; the proof does not use it). -/
import Derived.Test.YtdkfbikpadehdaaDoorDJ
import Derived.Test.YtdkfbikpadehdaaDoorDXF
import Derived.Test.YtdkfbikpadehdaaDoorTie
import Derived.Test.YtdkfbikpadehdaaDoorCards
import Derived.SevenTiedAt
namespace Go.Proofs.YtdkfbikpadehdaaDoor
open Go.RowKit
set_option linter.unusedVariables false
set_option linter.unusedSimpArgs false
open Go.ChangeShapes Go.WideShapes Go.ChangeAt
set_option maxRecDepth 100000 in
theorem declareFirst_lifted (os : Os) (started : os.Started) (H : Type) (enc : TypeId × Value → H) :
    ReturnsInHanded {} Tryd.checked os 4 .any (fun w args => (Rows.declareFirstSpec.pre enc Tryd.prog Tryd.f4 [] false w args ∧ laidMetH Tryd.prog Rows.declareFirstRow.laid w) ∧ sizedMet enc Tryd.prog Tryd.f4 (OpenSpec.ofChange Rows.declareFirstSpec) false w args)
      (Rows.declareFirstSpec.post enc Tryd.prog Tryd.f4 false true false false) := by
  refine returnsIn_laid_shaped (C := Tryd.checked) (L := Rows.declareFirstRow.laid) own started (by kernel_rfl) Tryd.func4
    (ChangeSpec.witness_shaped (enc := enc) (C := Tryd.checked) (os := os) (X := fun w _ => laidMetH Tryd.prog Rows.declareFirstRow.laid w) false (World.laidAll Tryd.prog os Rows.declareFirstRow.laid) #[.string ⟨#[]⟩, .string ⟨#[]⟩] 8 (World.laidAll_os _ _ _)
      (World.shaped_of_ZipB (by kernel_rfl) (by kernel_rfl)) (by kernel_rfl) (by kernel_rfl) (by kernel_rfl)
      (by rw [MakeChecks.laidMetH_plain _ _ _ (by kernel_rfl)]; exact laidMet_laidAll _ (by kernel_rfl) (by kernel_rfl))) ?_
  intro W base args ds gs before hval0 hW hshape
  have hval : ∀ (j : Nat) t v, Tryd.f4.params[j]? = some t → args[j]? = some v → Value.okWide Tryd.prog W .any base t v := hval0
  have hW' := hW
  obtain ⟨p, q, hA0, hV, rfl, hfz, hnd⟩ := hW
  have hA : DataW.TrodAll enc Tryd.prog W 0 (fun _ => true) true Tryd.f4.params.toList args.toList ds p := hA0
  rw [Tryd.params4] at hA hval
  obtain ⟨v0, vs0, d0, ds0, p0, q0, hargs, rfl, rfl, h0, r0⟩ := trodAll_cons hA
  obtain ⟨v1, vs1, d1, ds1, p1, q1, rfl, rfl, rfl, h1, r1⟩ := trodAll_cons r0
  obtain ⟨rfl, rfl, rfl⟩ := trodAll_nil r1
  obtain rfl : args = #[v0, v1] := by cases args; simp_all
  obtain ⟨rfl, rfl⟩ := trodVars_none hV
  have hM := mx_of_shape hshape
  obtain ⟨s, rfl, rfl, hs⟩ := open_str (hval 0 9 v0 rfl rfl) h0
  obtain ⟨ls, rfl⟩ : ∃ l, s = Lab.str l := ⟨_, (Lab.str_eta s).symm⟩
  rw [Lab.str_size] at hs
  obtain ⟨t, rfl, rfl, ht⟩ := open_str (hval 1 9 v1 rfl rfl) h1
  obtain ⟨lt, rfl⟩ : ∃ l, t = Lab.str l := ⟨_, (Lab.str_eta t).symm⟩
  rw [Lab.str_size] at ht
  refine (Dec.first_walk ls lt W hM hs ht).mono fun e W' ⟨he, hb⟩ => ⟨_, he, ?_⟩
  exact law_post rfl (by kernel_rfl) (by
    intro t ht
    have : t ∈ [9, 9] := by rw [Tryd.params4] at ht; exact ht
    simp only [List.mem_cons, List.not_mem_nil, or_false] at this
    rcases this with rfl | rfl <;> exact ⟨by kernel_rfl, of_decide_eq_true (by kernel_rfl)⟩) hW' rfl hb
theorem declareFirst_said : Rows.DeclareFirstSaid :=
  OpenClaim.holds_of_wide 4 Tryd.f4 rfl rfl rfl rfl rfl rfl rfl ⟨rfl, rfl, rfl, rfl, rfl⟩ rfl rfl rfl rfl rfl (by kernel_rfl) Tryd.func4 (by kernel_rfl)
    (of_decide_eq_true (by kernel_rfl)) (by unfold Func.isWrapper; first | (rw [if_pos (by decide +kernel)]; kernel_rfl) | (rw [if_neg (by decide +kernel)]; exact ⟨rfl, rfl⟩))
    (fun os started H enc _ => declareFirst_lifted os started H enc)
theorem declareFirst_card : Rows.DeclareFirstCardSaid :=
  Claim7.holds_tied_plain_at .later [] [.data, .pinned] true (true, "04126ae74b03956001e248fa881faeac91c689495e5e1be43a443692ecf406fc") false
    declareFirst_said (fun _ h => by cases h) (by kernel_rfl) (fun _ h => by cases h) declareFirst_row_tie rfl ⟨rfl, rfl⟩ (by kernel_rfl) rfl
    (fun f fn hf hfn => by
      obtain rfl : f = 4 := Option.some.inj ((show Tryd.prog.funcNamed "carding/cardinglaw07.DeclareFirst" = some 4 by kernel_rfl).symm.trans hf) |>.symm
      obtain rfl : fn = Tryd.f4 := (Option.some.inj (Tryd.func4.symm.trans hfn)).symm
      exact ⟨by kernel_rfl, fun j t ht => by
        rw [Tryd.params4] at ht
        have h1 := Array.mem_of_getElem? ht
        have h2 : t ∈ [9, 9] := by simpa using h1
        simp only [List.mem_cons, List.not_mem_nil, or_false] at h2
        rcases h2 with rfl | rfl
        all_goals exact (show Tryd.prog.wantsStandIn _ = false by kernel_rfl)⟩)
    (by kernel_rfl)
end Go.Proofs.YtdkfbikpadehdaaDoor
