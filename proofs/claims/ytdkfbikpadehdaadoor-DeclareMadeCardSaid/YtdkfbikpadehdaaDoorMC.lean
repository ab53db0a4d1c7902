/- Proved: for any names, any values and any text behind the law DeclareMade of layer 7 returns true, and each argument reads behind the call as it read before. Condition: the listed variables of package unicode/utf8 read as the program lays them (tied; the proof does not use it). -/
import Derived.Test.YtdkfbikpadehdaaDoorDJ
import Derived.Test.YtdkfbikpadehdaaDoorDXM
import Derived.Test.YtdkfbikpadehdaaDoorTie
import Derived.Test.YtdkfbikpadehdaaDoorCards
import Derived.SevenTiedAt
namespace Go.Proofs.YtdkfbikpadehdaaDoor
open Go.RowKit
set_option linter.unusedVariables false
set_option linter.unusedSimpArgs false
open Go.ChangeShapes Go.WideShapes Go.ChangeAt
set_option maxRecDepth 100000 in
theorem declareMade_lifted (os : Os) (started : os.Started) (H : Type) (enc : TypeId × Value → H) :
    ReturnsInHanded {} Tryd.checked os 5 .any (fun w args => (Rows.declareMadeSpec.pre enc Tryd.prog Tryd.f5 [] false w args ∧ laidMetH Tryd.prog Rows.declareMadeRow.laid w) ∧ sizedMet enc Tryd.prog Tryd.f5 (OpenSpec.ofChange Rows.declareMadeSpec) false w args)
      (Rows.declareMadeSpec.post enc Tryd.prog Tryd.f5 false true false false) := by
  refine returnsIn_laid_shaped (C := Tryd.checked) (L := Rows.declareMadeRow.laid) own started (by kernel_rfl) Tryd.func5
    (ChangeSpec.witness_shaped (enc := enc) (C := Tryd.checked) (os := os) (X := fun w _ => laidMetH Tryd.prog Rows.declareMadeRow.laid w) false (World.laidAll Tryd.prog os Rows.declareMadeRow.laid) #[.slice none 0 0, .slice none 0 0, .string ⟨#[]⟩] 8 (World.laidAll_os _ _ _)
      (World.shaped_of_ZipB (by kernel_rfl) (by kernel_rfl)) (by kernel_rfl) (by kernel_rfl) (by kernel_rfl)
      (by rw [MakeChecks.laidMetH_plain _ _ _ (by kernel_rfl)]; exact laidMet_laidAll _ (by kernel_rfl) (by kernel_rfl))) ?_
  intro W base args ds gs before hval0 hW hshape
  have hval : ∀ (j : Nat) t v, Tryd.f5.params[j]? = some t → args[j]? = some v → Value.okWide Tryd.prog W .any base t v := hval0
  have hW' := hW
  obtain ⟨p, q, hA0, hV, rfl, hfz, hnd⟩ := hW
  have hA : DataW.TrodAll enc Tryd.prog W 0 (fun _ => true) true Tryd.f5.params.toList args.toList ds p := hA0
  rw [Tryd.params5] at hA hval
  obtain ⟨v0, vs0, d0, ds0, p0, q0, hargs, rfl, rfl, h0, r0⟩ := trodAll_cons hA
  obtain ⟨v1, vs1, d1, ds1, p1, q1, rfl, rfl, rfl, h1, r1⟩ := trodAll_cons r0
  obtain ⟨v2, vs2, d2, ds2, p2, q2, rfl, rfl, rfl, h2, r2⟩ := trodAll_cons r1
  obtain ⟨rfl, rfl, rfl⟩ := trodAll_nil r2
  obtain rfl : args = #[v0, v1, v2] := by cases args; simp_all
  obtain ⟨rfl, rfl⟩ := trodVars_none hV
  have hM := mx_of_shape hshape
  obtain ⟨ns, hns, hlns, hmns⟩ := open_texts (hval 0 36 v0 rfl rfl) h0
  obtain ⟨vs, hvs, hlvs, hmvs⟩ := open_texts (hval 1 36 v1 rfl rfl) h1
  obtain ⟨t, rfl, rfl, ht⟩ := open_str (hval 2 9 v2 rfl rfl) h2
  obtain ⟨lt, rfl⟩ : ∃ l, t = Lab.str l := ⟨_, (Lab.str_eta t).symm⟩
  rw [Lab.str_size] at ht
  refine (Dec.made_walk ns vs v0 v1 lt W hM hns hvs hlns hlvs ht hmns hmvs).mono fun e W' ⟨he, hb⟩ => ⟨_, he, ?_⟩
  exact law_post rfl (by kernel_rfl) (by
    intro t ht
    have : t ∈ [36, 36, 9] := by rw [Tryd.params5] at ht; exact ht
    simp only [List.mem_cons, List.not_mem_nil, or_false] at this
    rcases this with rfl | rfl | rfl <;> exact ⟨by kernel_rfl, of_decide_eq_true (by kernel_rfl)⟩) hW' rfl hb
theorem declareMade_said : Rows.DeclareMadeSaid :=
  OpenClaim.holds_of_wide 5 Tryd.f5 rfl rfl rfl rfl rfl rfl rfl ⟨rfl, rfl, rfl, rfl, rfl⟩ rfl rfl rfl rfl rfl (by kernel_rfl) Tryd.func5 (by kernel_rfl)
    (of_decide_eq_true (by kernel_rfl)) (by unfold Func.isWrapper; first | (rw [if_pos (by decide +kernel)]; kernel_rfl) | (rw [if_neg (by decide +kernel)]; exact ⟨rfl, rfl⟩))
    (fun os started H enc _ => declareMade_lifted os started H enc)
theorem declareMade_card : Rows.DeclareMadeCardSaid :=
  Claim7.holds_tied_plain_at .later [] [.data, .pinned] true (true, "04126ae74b03956001e248fa881faeac91c689495e5e1be43a443692ecf406fc") false
    declareMade_said (fun _ h => by cases h) (by kernel_rfl) (fun _ h => by cases h) declareMade_row_tie rfl ⟨rfl, rfl⟩ (by kernel_rfl) rfl
    (fun f fn hf hfn => by
      obtain rfl : f = 5 := Option.some.inj ((show Tryd.prog.funcNamed "carding/cardinglaw07.DeclareMade" = some 5 by kernel_rfl).symm.trans hf) |>.symm
      obtain rfl : fn = Tryd.f5 := (Option.some.inj (Tryd.func5.symm.trans hfn)).symm
      exact ⟨by kernel_rfl, fun j t ht => by
        rw [Tryd.params5] at ht
        have h1 := Array.mem_of_getElem? ht
        have h2 : t ∈ [36, 36, 9] := by simpa using h1
        simp only [List.mem_cons, List.not_mem_nil, or_false] at h2
        rcases h2 with rfl | rfl | rfl
        all_goals exact (show Tryd.prog.wantsStandIn _ = false by kernel_rfl)⟩)
    (by kernel_rfl)
end Go.Proofs.YtdkfbikpadehdaaDoor
