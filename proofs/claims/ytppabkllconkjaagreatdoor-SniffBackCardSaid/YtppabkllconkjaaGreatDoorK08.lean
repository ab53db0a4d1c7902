/- Joined: NA. -/
import Derived.BigQuiet
import Derived.Deep.AppendLies
import Derived.Deep.DeepCutAuto
import Derived.Deep.LoopGhost
import Derived.Deep.OwnRows
import Derived.Deep.QuietTactic
import Derived.Deep.RegionHeld3
import Derived.Deep.WholeRow
import Derived.Laws.AppendOwn
import Derived.Laws.BytesArg
import Derived.Laws.DeepStrings4
import Derived.Laws.IdiomStrings
import Derived.Lib.AppendStr
import Derived.Lib.Hide
import Derived.LoopN
import Derived.Maps.AppendAt
import Derived.Maps.Own
import Derived.Maps.OwnSet
import Derived.OpenShut
import Derived.Outline
import Derived.ProofKit
import Derived.StillTailTactics
import Derived.Test.YtppabkllconkjaaGreatDoorRows
import Derived.WalkKit
import Derived.WalkMore
import Derived.Test.YtppabkllconkjaaGreatDoorK01
import Derived.Test.YtppabkllconkjaaGreatDoorK03
import Derived.Test.YtppabkllconkjaaGreatDoorK07
/- Mathematics of single bytes: what was encoded is decoded as it; nothing of the program. -/
namespace Go.Proofs.YtppabkllconkjaaGreatDoor.U
open Go.RowKit
set_option linter.unusedVariables false
set_option linter.unusedSimpArgs false
set_option maxRecDepth 100000
set_option maxRecDepth 100000
theorem by8_nat {b : Nat} (h : b < 256) : (by8 (b : Int)).toNat = b := by
  have h2 := by8_val (n := (b : Int)) (by omega) (by omega)
  omega
theorem eF_back {e : Int} (he : isE e = true) : ∀ (n : Nat) (l : List UInt8) (a : Nat) (acc R : List UInt8) (x : Int), l.length ≤ n → eF (bf e) n l a acc = (R, x, 0) → ∃ b, R = acc ++ b ∧ encs (b.map fun c => scE e c.toNat) = l ∧ b.length ≤ l.length
  | 0, l, a, acc, R, x, hl, h => by
    have h0 : l = [] := List.eq_nil_of_length_eq_zero (by omega)
    subst h0
    rw [eF_nil] at h
    cases h
    exact ⟨[], by simp, rfl, Nat.le_refl _⟩
  | n + 1, l, a, acc, R, x, hl, h => by
    by_cases h0 : l = []
    · subst h0
      rw [eF_nil] at h
      cases h
      exact ⟨[], by simp, rfl, Nat.le_refl _⟩
    obtain ⟨r, k, hd⟩ : ∃ r k, dec l = (r, k) := ⟨_, _, rfl⟩
    by_cases hr : r = -1
    · subst hr
      rw [eF_bad h0 hd] at h
      simp at h
    · cases hf : bf e r with
      | none =>
        rw [eF_none h0 hd hr hf] at h
        simp at h
      | some b =>
        rw [eF_some h0 hd hr hf] at h
        have h1 := dec_pos l
        rw [hd] at h1
        obtain ⟨b', h2, h3, h4⟩ := eF_back he n (l.drop k) _ _ _ _ (by rw [List.length_drop]; dsimp only at h1; omega) h
        have hb : b < 256 ∧ scE e b = r := by
          unfold bf at hf
          rw [if_pos he] at hf
          exact look_some hf
        obtain ⟨_, _, hl2⟩ := dec_ok hd hr
        refine ⟨by8 (b : Int) :: b', by rw [h2]; simp, ?_, ?_⟩
        · rw [List.map_cons, encs_cons, h3, by8_nat hb.1, hb.2]
          exact hl2.symm
        · rw [List.length_drop] at h4
          have h5 : 0 < l.length := List.length_pos_iff.2 h0
          dsimp only at h1
          rw [List.length_cons]
          omega
/-- What was encoded is decoded as it. -/
theorem single_back {e : Int} (he : isE e = true) {s : ByteArray} (h : (encR e s).2.2 = 0) : encs (((encR e s).1).map fun c => scE e c.toNat) = s.data.toList ∧ (encR e s).1.length ≤ s.size := by
  obtain ⟨R, x, z, hR⟩ : ∃ R x z, encR e s = (R, x, z) := ⟨_, _, _, rfl⟩
  rw [hR] at h ⊢
  dsimp only at h ⊢
  subst h
  rw [encR_is he] at hR
  obtain ⟨b, h1, h2, h3⟩ := eF_back he _ _ _ _ _ _ (Nat.le_refl _) hR
  rw [h1, List.nil_append]
  exact ⟨h2, by simpa using h3⟩
end Go.Proofs.YtppabkllconkjaaGreatDoor.U
