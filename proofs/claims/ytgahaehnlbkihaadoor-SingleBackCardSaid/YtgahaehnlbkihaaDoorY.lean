/- The walk of the law SingleBack. -/
import Derived.Test.YtgahaehnlbkihaaDoorX
import Derived.Lib.SmallJoins
import Derived.Deep.Slices
import Derived.ChangeSame
import Derived.ChangeVars
import Derived.Deep.OwnRows
namespace Go.Proofs.YtgahaehnlbkihaaDoor
open Go.RowKit
set_option linter.unusedVariables false
set_option linter.unusedSimpArgs false
theorem Ints.at {w : World} {p : Option Addr} {N cap : Nat} {xs : List Int} (h : Ints w (.slice p N cap) xs) {k : Nat} (hk : k < xs.length) : ∃ b off, p = some ⟨b, off, none⟩ ∧ w.cell? ⟨b, off + k, none⟩ = some (.int .i64 xs[k]) := by
  rcases h with ⟨rfl, _⟩ | ⟨b, off, cap', e, _, hc⟩
  · simp at hk
  · cases e
    exact ⟨b, off, rfl, hc k hk⟩
set_option maxRecDepth 100000 in
theorem back_walk (s : ByteArray) (w : World) (hg : Gl w) (hs : s.size ≤ maxLen) : Calls Tryd.prog 4 #[.string s] w fun x w' => RetB true w x w' := by
  have HG := Lib.hid hg
  have H7 : Hid (∀ w, Calls Tryd.prog 5 #[] w fun t w' => RetB true w t w') := Lib.hid wakes_any
  clear hg
  unfold maxLen at hs
  by_cases hlt : s.size ≤ 2000
  rotate_left 1
  · have hd : decide ((2000 : Int) < (s.size : Int)) = true := by simp; omega
    clear hlt
    go_enter Tryd.func4, Tryd.ntmps4
    go_wp2_with (go_at_call 5; refine (H7.out _).mono ?_; rintro _ w7 ⟨rfl, hb7⟩; have HB7 := Lib.hid hb7; clear hb7 H7)
    go_ret
    exact ⟨rfl, HB7.out⟩
  have hd : decide ((2000 : Int) < (s.size : Int)) = false := by simp; omega
  have HBK : Hid (∀ e, isE e = true → (Lit.int .i8 e).wf = true → ∃ T M, Bk e s T M) := Lib.hid fun e h hwf => bk h hwf s hlt
  go_enter Tryd.func4, Tryd.ntmps4
  go_wp2_with fail
  clear hd hlt
  go_loopg [3] 4 (fun g q wr => ∃ (j : Nat), j + g = 4 ∧ q = .int .i8 (3 + (j : Int)) ∧ j ≤ 3 ∧ Hid (Below w.heap.size w wr))
  case atStart => exact ⟨0, by omega, rfl, by omega, Lib.hid (Below.refl _ _)⟩
  case round =>
    obtain ⟨j, hjg, rfl, hj3, HB⟩ := hrel
    by_cases hj : j < 3
    · have he : isE (3 + (j : Int)) = true := isE_iff.2 (by omega)
      have hwf : (Lit.int .i8 (3 + (j : Int))).wf = true := by
        rcases (by omega : j = 0 ∨ j = 1 ∨ j = 2) with rfl | rfl | rfl <;> decide
      obtain ⟨T, M, hbk⟩ := HBK.out _ he hwf
      have hw1 : IntKind.i8.wrap (3 + (j : Int) + 1) = 3 + ((j + 1 : Nat) : Int) := by
        rcases (by omega : j = 0 ∨ j = 1 ∨ j = 2) with rfl | rfl | rfl <;> decide
      obtain ⟨e, hee⟩ : ∃ e : Int, 3 + (j : Int) = e := ⟨_, rfl⟩
      have hle : decide (e ≤ 5) = true := by simp; omega
      rw [hee] at hbk hw1 ⊢
      have HBB := Lib.hid hbk
      clear hbk he hwf hee
      go_wp2_with (first
        | (go_at_call 6; refine (HBB.out.dq _ (HG.out.below' HB.out)).mono ?_; rintro _ w1 ⟨rfl, hb1⟩; have HB1 := Lib.hid (below_call HB.out hb1); clear hb1)
        | (go_at_call 8; refine (HBB.out.nq _ (HG.out.below' HB1.out)).mono ?_; rintro _ w2 ⟨rfl, hb2⟩; have HB2 := Lib.hid (below_call HB1.out hb2); clear hb2)
        | (go_at_call 10; refine (HBB.out.sq _).mono ?_; rintro _ w3 ⟨p, c, rfl, hi3, hb3⟩; have HB3 := Lib.hid (below_call HB2.out hb3); have HI3 := Lib.hid hi3; clear hi3 hb3))
      clear hle
      go_loopg [11] (s.size + 1) (fun gh q wr => ∃ (k : Nat), k + gh = s.size + 1 ∧ q = .int .i64 k ∧ k ≤ s.size ∧ ∃ d, Hid (wr = w3.drewN d))
      case atStart => exact ⟨0, by omega, rfl, by omega, 0, Lib.hid rfl⟩
      case round =>
        obtain ⟨k, hkg, rfl, hk7, d, HD⟩ := hrel
        by_cases hk : k < s.size
        · have hkM : k < M.length := by rw [HBB.out.lq]; exact hk
          obtain ⟨b1, o1, rfl, c1⟩ := HI3.out.at hkM
          have hasc := HBB.out.aq k hk hkM
          obtain ⟨z, hz⟩ : ∃ z, M[k] = z := ⟨_, rfl⟩
          rw [hz] at c1 hasc
          have d1 : ∀ n, (w3.drewN n).cell? ⟨b1, o1 + k, none⟩ = some (.int .i64 z) := fun n => c1
          have d2 := d1 d
          rw [← HD.out] at d2
          have hk0 : (0 : Int) ≤ (k : Int) := by omega
          have hk3 : (k : Int) < (s.size : Int) := by omega
          have hby := s[k].toNat_lt
          by_cases hz1 : z < 128
          · have hzz := hasc.2 hz1
            have hlt1 : decide (z < 128) = true := by simpa using hz1
            have hne : (z != (s[k].toNat : Int)) = false := by simp [hzz]
            clear hz c1 d1 hkM hasc hz1 hzz
            go_wp2_with fail
            go_quiet (fail)
            go_wp2_with fail
            go_roundg (gk - 1)
            case measure => omega
            case rel => exact ⟨k + 1, by omega, by go_num, by omega, _, Lib.hid (by rw [HD.out]; exact drewN_add _ _ _)⟩
          · have hy1 : ¬ (s[k].toNat : Int) < 128 := fun h => hz1 (by rw [hasc.1 h]; exact h)
            have hlt1 : decide (z < 128) = false := by simpa using hz1
            have hlt2 : decide ((s[k].toNat : Int) < 128) = false := by simpa using hy1
            clear hz c1 d1 hkM hasc hz1
            go_wp2_with fail
            go_quiet (fail)
            go_wp2_with fail
            go_roundg (gk - 1)
            case measure => omega
            case rel => exact ⟨k + 1, by omega, by go_num, by omega, _, Lib.hid (by rw [HD.out]; exact drewN_add _ _ _)⟩
        · have HB4 : Hid (Below w.heap.size w wr) := Lib.hid (HB3.out.trans (below_drewN HD.out))
          go_wp2_with fail
          go_roundg (3 - j)
          case measure => omega
          case rel => exact ⟨j + 1, by omega, by go_num, by omega, HB4⟩
    · have hj' : j = 3 := by omega
      subst hj'
      go_wp2_with (go_at_call 5; refine (H7.out _).mono ?_; rintro _ w7 ⟨rfl, hb7⟩; have HB7 := Lib.hid (below_call HB.out hb7); clear hb7 H7)
      go_ret
      exact ⟨rfl, HB7.out⟩
end Go.Proofs.YtgahaehnlbkihaaDoor
