/- The walks of the laws LabelTrim and LabelOnce. -/
import Derived.Test.YtfpncdhneikkaaaDoorO
import Derived.Lib.Bytealg
import Derived.Laws.Externs
import Derived.Laws.DeepStrings4
import Derived.Laws.BytesArg
import Derived.Laws.IdiomStrings
namespace Go.Proofs.YtfpncdhneikkaaaDoor
open Go.RowKit
set_option linter.unusedVariables false
set_option linter.unusedSimpArgs false
set_option maxHeartbeats 2000000 in
theorem once_walk (a b : Int) (w : World) (hg : Gl w) : Calls Tryd.prog 5 #[.int .i8 a, .int .i8 b] w fun r w' => RetB true w r w' := by
  have HG := Lib.hid hg
  have H7 : Hid (∀ w, Gl w → Calls Tryd.prog 7 #[] w fun t w' => RetB true w t w') := Lib.hid wakes_any
  have HA : Hid (∀ w, Gl w → Calls Tryd.prog 13 #[.int .i8 a] w fun r w' => AllS w a r w') := Lib.hid (all_any a)
  have HAB : Hid (∀ w, Gl w → Calls Tryd.prog 13 #[.int .i8 b] w fun r w' => AllS w b r w') := Lib.hid (all_any b)
  have HOO : ∀ xs ys, allL a = xs → allL b = ys → ∀ i j, (hi : i < xs.length) → (hj : j < ys.length) → xs[i] = ys[j] → a = b ∧ i = j := by
    rintro _ _ rfl rfl i j hi hj h
    have e : a = b := once_enc (List.getElem_mem hi) (by rw [h]; exact List.getElem_mem hj)
    subst e
    exact ⟨rfl, once_at hi hj h⟩
  have h1 := allL_len a
  have h2 := allL_len b
  obtain ⟨xs, hxs⟩ : ∃ xs, allL a = xs := ⟨_, rfl⟩
  obtain ⟨ys, hys⟩ : ∃ ys, allL b = ys := ⟨_, rfl⟩
  unfold AllS at HA HAB
  rw [hxs] at HA h1
  rw [hys] at HAB h2
  have HO := Lib.hid (HOO _ _ hxs hys)
  obtain ⟨N, hN⟩ : ∃ N, xs.length = N := ⟨_, rfl⟩
  obtain ⟨M, hM⟩ : ∃ M, ys.length = M := ⟨_, rfl⟩
  have HN := Lib.hid hN
  have HM := Lib.hid hM
  rw [hN] at h1
  rw [hM] at h2
  clear hxs hys hg hN hM HOO
  go_enter Tryd.func5, Tryd.ntmps5
  go_wp2_with (go_at_call 13; refine (HA.out _ HG.out).mono ?_; rintro r w1 ⟨v, rfl, hs1, hb1⟩; have HB1 := Lib.hid hb1; obtain ⟨p, cap, rfl⟩ := hs1.form; have HS1 : Hid (Strs w1 (.slice p N cap) xs) := Lib.hid (by rw [← HN.out]; exact hs1); rw [HN.out]; clear hs1 hb1 HA)
  go_loopg [12] (N + 1) (fun g q wr => ∃ (i : Nat), i + g = N + 1 ∧ q = .int .i64 i ∧ i ≤ N ∧ Hid (Below w.heap.size w wr) ∧ Hid (Strs wr (.slice p N cap) xs))
  case atStart => exact ⟨0, by omega, rfl, by omega, HB1, HS1⟩
  case round =>
    obtain ⟨i, hig, rfl, hiN, HB, HS⟩ := hrel
    by_cases hi : i < N
    · have hix : i < xs.length := by rw [HN.out]; exact hi
      obtain ⟨b1, o1, rfl, c1⟩ := HS.out.at hix
      obtain ⟨x, hx⟩ : ∃ x, xs[i] = x := ⟨_, rfl⟩
      rw [hx] at c1
      have HX := Lib.hid hx
      have hk0 : (0 : Int) ≤ (i : Int) := by omega
      have hk3 : (i : Int) < (N : Int) := by omega
      clear hx
      go_wp2_with (go_at_call 13; refine (HAB.out _ (HG.out.below' HB.out)).mono ?_; rintro r w2 ⟨v, rfl, hs2, hb2⟩; have HB2 := Lib.hid (below_call HB.out hb2); have HS3 := Lib.hid (HS.out.below hb2); obtain ⟨p2, cap2, rfl⟩ := hs2.form; have HS2 : Hid (Strs w2 (.slice p2 M cap2) ys) := Lib.hid (by rw [← HM.out]; exact hs2); rw [HM.out]; clear hs2 hb2)
      go_loopg [20] (M + 1) (fun gh q wr => ∃ (j : Nat), j + gh = M + 1 ∧ q = .int .i64 j ∧ j ≤ M ∧ w2 = wr)
      case atStart => exact ⟨0, by omega, rfl, by omega, rfl⟩
      case round =>
        obtain ⟨j, hjg, rfl, hjM, rfl⟩ := hrel
        by_cases hj : j < M
        · have hjy : j < ys.length := by rw [HM.out]; exact hj
          obtain ⟨b2, o2, rfl, c2⟩ := HS2.out.at hjy
          obtain ⟨y, hy⟩ : ∃ y, ys[j] = y := ⟨_, rfl⟩
          rw [hy] at c2
          have hk4 : (0 : Int) ≤ (j : Int) := by omega
          have hk5 : (j : Int) < (M : Int) := by omega
          by_cases hxy : x = y
          · obtain ⟨e1, e2⟩ := HO.out i j hix hjy (by rw [HX.out, hy]; exact hxy)
            subst hxy
            have t0 : ((str x).toList == (str x).toList) = true := by simp
            have t1 : (a != b) = false := by simp [e1]
            have t2 : ((i : Int) != (j : Int)) = false := by simp [e2]
            clear hy e1 e2 hjy
            go_wp2_with fail
            go_roundg (gk - 1)
            case measure => omega
            case rel => exact ⟨j + 1, by omega, by go_num, by omega, rfl⟩
          · have t0 : ((str x).toList == (str y).toList) = false := by rw [toList_str, toList_str]; simpa using hxy
            clear hy hxy hjy
            go_wp2_with fail
            go_roundg (gk - 1)
            case measure => omega
            case rel => exact ⟨j + 1, by omega, by go_num, by omega, rfl⟩
        · go_wp2_with fail
          go_roundg (N - i)
          case measure => omega
          case rel => exact ⟨i + 1, by omega, by go_num, by omega, HB2, HS3⟩
    · go_wp2_with (go_at_call 7; refine (H7.out _ (HG.out.below' HB.out)).mono ?_; rintro _ w7 ⟨rfl, hb7⟩; have HB7 := Lib.hid (below_call HB.out hb7); clear hb7 H7)
      go_ret
      exact ⟨rfl, HB7.out⟩
end Go.Proofs.YtfpncdhneikkaaaDoor
