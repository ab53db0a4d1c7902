/- The contracts of the document's own Made and Whole. -/
import Derived.Test.YtdifocahmephjaaTH
import Derived.Test.YtdifocahmephjaaTN
namespace Go.Proofs.Ytdifocahmephjaa.Tab
open Go.RowKit Go.Maps
set_option linter.unusedVariables false
set_option linter.unusedSimpArgs false
set_option maxRecDepth 100000
/-- None of the first k is such a one. -/
def NonTo (f : Pr → Bool) (k : Nat) : Prop := (prs.take k).find? f = none
theorem NonTo.start (f : Pr → Bool) : NonTo f 0 := rfl
theorem NonTo.step {f : Pr → Bool} {k : Nat} (h : NonTo f k) (hk : k < prs.length) (hf : f prs[k] = false) : NonTo f (k + 1) := by
  unfold NonTo at *
  rw [List.take_succ_eq_append_getElem hk, List.find?_append, h]
  simp [hf]
theorem NonTo.hit {f : Pr → Bool} {k : Nat} (h : NonTo f k) (hk : k < prs.length) (hf : f prs[k] = true) : prs.find? f = some prs[k] := by
  unfold NonTo at h
  have e : prs.find? f = (prs.take k ++ prs.drop k).find? f := by rw [List.take_append_drop]
  rw [e, List.find?_append, h, List.drop_eq_getElem_cons hk, List.find?_cons_of_pos hf]
  rfl
theorem NonTo.done {f : Pr → Bool} {k : Nat} (h : NonTo f k) (hk : ¬ k < 73) : prs.find? f = none := by
  unfold NonTo at h
  rwa [List.take_of_length_le (by rw [prs_len]; omega)] at h
set_option maxHeartbeats 8000000 in
theorem rmade_any (r : Int) (w : World) (hr : okI r) : Calls Try.prog 8 #[.int .i64 r] w fun e w' => RetM (made r) w e w' := by
  have HH := Lib.hid fun w => rhangul_any r w
  obtain ⟨hr1, hr2⟩ := hr
  cases hh : han r with
  | true =>
    have hfr := han_iff.1 hh
    have hm0 : made r = if 0 < (r - 44032) % 28 then (r - (r - 44032) % 28, 4519 + (r - 44032) % 28, true) else (4352 + (r - 44032) / 28 / 21, 4449 + (r - 44032) / 28 % 21, true) := if_pos hh
    rw [hh] at HH
    rw [hm0]
    have e0 : (r - 44032).tmod 28 = (r - 44032) % 28 := Int.tmod_eq_emod_of_nonneg (by omega)
    have e1 : (r - 44032).tdiv 28 = (r - 44032) / 28 := Int.tdiv_eq_ediv_of_nonneg (by omega)
    obtain ⟨q, hq⟩ : ∃ q, (r - 44032) / 28 = q := ⟨_, rfl⟩
    obtain ⟨m, hm⟩ : ∃ m, (r - 44032) % 28 = m := ⟨_, rfl⟩
    have q1 : 0 ≤ q := by omega
    have q2 : q < 400 := by omega
    have m1 : 0 ≤ m := by omega
    have m2 : m < 28 := by omega
    have e2 : q.tdiv 21 = q / 21 := Int.tdiv_eq_ediv_of_nonneg q1
    have e3 : q.tmod 21 = q % 21 := Int.tmod_eq_emod_of_nonneg q1
    rw [hq] at e1 ⊢
    rw [hm] at e0 ⊢
    obtain ⟨q3, hq3⟩ : ∃ q3, q / 21 = q3 := ⟨_, rfl⟩
    obtain ⟨q4, hq4⟩ : ∃ q4, q % 21 = q4 := ⟨_, rfl⟩
    have q5 : 0 ≤ q3 ∧ q3 < 400 := by omega
    have q6 : 0 ≤ q4 ∧ q4 < 21 := by omega
    rw [hq3] at e2 ⊢
    rw [hq4] at e3 ⊢
    obtain ⟨hf1, hf2⟩ := hfr
    clear hq hm hq3 hq4 hm0 hh hr1 hr2
    by_cases hc : 0 < m
    · rw [if_pos hc]
      have f0 : m > 0 := hc
      unfold RetM
      go_enter Try.func8, Try.ntmps8
      go_wp2_with (go_at_call 16; refine (HH.out _).mono ?_; rintro _ w9 ⟨rfl, hw9⟩; subst w9)
      go_ret3
      exact ⟨rfl, Below.refl _ _⟩
    · rw [if_neg hc]
      have f0 : m = 0 := by omega
      subst f0
      unfold RetM
      go_enter Try.func8, Try.ntmps8
      go_wp2_with (go_at_call 16; refine (HH.out _).mono ?_; rintro _ w9 ⟨rfl, hw9⟩; subst w9)
      go_ret3
      exact ⟨rfl, Below.refl _ _⟩
  | false =>
    rw [hh] at HH
    have HM : Hid (made r = match prs.find? (fun p => p.1 == r) with | some p => (p.2.1, p.2.2, true) | none => (0, 0, false)) := Lib.hid (by unfold made; rw [if_neg (by rw [hh]; decide)]; rfl)
    have HP := Lib.hid fun w => rpairs_any w
    unfold PairsS at HP
    have HL := Lib.hid prs_len
    unfold RetM
    clear hh
    go_enter Try.func8, Try.ntmps8
    go_wp2_with (first
      | (go_at_call 16; refine (HH.out _).mono ?_; rintro _ w9 ⟨rfl, hw9⟩; subst w9)
      | (go_at_call 19; refine (HP.out _).mono ?_; rintro _ w1 ⟨g, cap, rfl, ht, hb1⟩
         have HT := Lib.hid ht
         have HB := Lib.hid hb1
         clear ht hb1))
    obtain ⟨b, cap', heq, hbl, hc⟩ := HT.out
    cases heq
    have HC := Lib.hid hc
    clear hc HT HP
    go_loopg [8] 74 (fun gh q wr => ∃ (k : Nat), k + gh = 74 ∧ q = .int .i64 k ∧ k ≤ 73 ∧ Hid (NonTo (fun p => p.1 == r) k) ∧ wr = w1)
    case atStart => exact ⟨0, by omega, rfl, by omega, Lib.hid rfl, rfl⟩
    case round =>
      obtain ⟨k, hkg, rfl, hk7, HN, rfl⟩ := hrel
      by_cases hk : k < 73
      · have hkl : k < prs.length := by rw [HL.out]; exact hk
        obtain ⟨c0, c1, c2⟩ := HC.out k hkl
        have hkI : (k : Int) < 73 := by omega
        have hk0 : (0 : Int) ≤ (k : Int) := by omega
        by_cases hf : prs[k].1 = r
        · have HE : Hid (made r = (prs[k].2.1, prs[k].2.2, true)) := Lib.hid (by rw [HM.out, HN.out.hit hkl (by simpa using hf)])
          rw [hf] at c0
          obtain ⟨x, hx⟩ : ∃ x, prs[k].2.1 = x := ⟨_, rfl⟩
          obtain ⟨y, hy⟩ : ∃ y, prs[k].2.2 = y := ⟨_, rfl⟩
          rw [hx] at c1 HE
          rw [hy] at c2 HE
          clear hf hx hy
          go_wp2_with fail
          go_quiet (fail)
          go_wp2_with fail
          go_ret3
          rw [HE.out]
          exact ⟨rfl, below_draws HB.out _⟩
        · have HN2 := Lib.hid (HN.out.step hkl (by simpa using hf))
          obtain ⟨x, hx⟩ : ∃ x, prs[k].1 = x := ⟨_, rfl⟩
          rw [hx] at c0 hf
          have hd : (x == r) = false := by simpa using hf
          clear hf hx c1 c2
          go_wp2_with fail
          go_roundg (gk - 1)
          case measure => omega
          case rel => exact ⟨k + 1, by omega, by simp, by omega, HN2, rfl⟩
      · have HE : Hid (made r = (0, 0, false)) := Lib.hid (by rw [HM.out, HN.out.done hk])
        have hkI : ¬ (k : Int) < 73 := by omega
        go_wp2_with fail
        go_ret3
        rw [HE.out]
        exact ⟨rfl, HB.out⟩
set_option maxHeartbeats 8000000 in
theorem rwhole_no_a (f s : Int) (w : World) (hf : okI f) (hs : okI s) (hh : han f = false) (h1 : f < 4352) : Calls Try.prog 10 #[.int .i64 f, .int .i64 s] w fun e w' => RetW (whole f s) w e w' := by
  have HH := Lib.hid fun w => rhangul_any f w
  obtain ⟨hf1, hf2⟩ := hf
  obtain ⟨hs1, hs2⟩ := hs
  have HP := Lib.hid fun w => rpairs_any w
  unfold PairsS at HP
  have HL := Lib.hid prs_len
  unfold RetW
  have HM : Hid (whole f s = match prs.find? (fun p => p.2.1 == f && p.2.2 == s && p.2.2 != 0) with | some p => (p.1, true) | none => (0, false)) := Lib.hid (by unfold whole; rw [if_neg (by omega), if_neg (by rw [hh]; simp)]; rfl)
  rw [hh] at HH
  clear hh
  go_enter Try.func10, Try.ntmps10
  go_wp2_with (first
    | (go_at_call 16; refine (HH.out _).mono ?_; rintro _ w9 ⟨rfl, hw9⟩; subst w9)
    | (go_at_call 19; refine (HP.out _).mono ?_; rintro _ w1 ⟨g, cap, rfl, ht, hb1⟩
       have HT := Lib.hid ht
       have HB := Lib.hid hb1
       clear ht hb1))
  obtain ⟨b, cap', heq, hbl, hc⟩ := HT.out
  cases heq
  have HC := Lib.hid hc
  clear hc HT HP
  go_loopg [7] 74 (fun gh q wr => ∃ (k : Nat), k + gh = 74 ∧ q = .int .i64 k ∧ k ≤ 73 ∧ Hid (NonTo (fun p => p.2.1 == f && p.2.2 == s && p.2.2 != 0) k) ∧ wr = w1)
  case atStart => exact ⟨0, by omega, rfl, by omega, Lib.hid rfl, rfl⟩
  case round =>
    obtain ⟨k, hkg, rfl, hk7, HN, rfl⟩ := hrel
    by_cases hk : k < 73
    · have hkl : k < prs.length := by rw [HL.out]; exact hk
      obtain ⟨c0, c1, c2⟩ := HC.out k hkl
      have hkI : (k : Int) < 73 := by omega
      have hk0 : (0 : Int) ≤ (k : Int) := by omega
      have HST : Hid ((prs[k].2.1 == f && prs[k].2.2 == s && prs[k].2.2 != 0) = false → NonTo (fun p => p.2.1 == f && p.2.2 == s && p.2.2 != 0) (k + 1)) := Lib.hid fun h => HN.out.step hkl h
      have HIT : Hid ((prs[k].2.1 == f && prs[k].2.2 == s && prs[k].2.2 != 0) = true → whole f s = (prs[k].1, true)) := Lib.hid fun h => by rw [HM.out, HN.out.hit hkl h]
      obtain ⟨z, hz⟩ : ∃ z, prs[k].1 = z := ⟨_, rfl⟩
      obtain ⟨x, hx⟩ : ∃ x, prs[k].2.1 = x := ⟨_, rfl⟩
      obtain ⟨y, hy⟩ : ∃ y, prs[k].2.2 = y := ⟨_, rfl⟩
      rw [hz] at c0 HIT
      rw [hx] at c1 HIT HST
      rw [hy] at c2 HIT HST
      clear hz hx hy
      by_cases h1 : x = f
      · by_cases h2 : y = s
        · by_cases h3 : s = 0
          · subst h1
            have HN2 := Lib.hid (HST.out (by rw [h2, h3]; simp))
            have d2 : (y == s) = true := by simpa using h2
            have d3 : (s == 0) = true := by simpa using h3
            clear h2 h3 HST HIT
            go_wp2_with fail
            go_roundg (gk - 1)
            case measure => omega
            case rel => exact ⟨k + 1, by omega, by simp, by omega, HN2, rfl⟩
          · have HE := Lib.hid (HIT.out (by rw [h1, h2]; simpa using h3))
            have d1 : (x == f) = true := by simpa using h1
            have d2 : (y == s) = true := by simpa using h2
            have d3 : (s == 0) = false := by simpa using h3
            clear h1 h2 h3 HST HIT
            go_wp2_with fail
            go_ret2
            rw [HE.out]
            exact ⟨rfl, HB.out⟩
        · have HN2 := Lib.hid (HST.out (by simp [h2]))
          have d1 : (x == f) = true := by simpa using h1
          have d2 : (y == s) = false := by simpa using h2
          clear h1 h2 HST HIT
          go_wp2_with fail
          go_roundg (gk - 1)
          case measure => omega
          case rel => exact ⟨k + 1, by omega, by simp, by omega, HN2, rfl⟩
      · have HN2 := Lib.hid (HST.out (by simp [h1]))
        have d1 : (x == f) = false := by simpa using h1
        clear h1 HST HIT
        go_wp2_with fail
        go_roundg (gk - 1)
        case measure => omega
        case rel => exact ⟨k + 1, by omega, by simp, by omega, HN2, rfl⟩
    · have HE : Hid (whole f s = (0, false)) := Lib.hid (by rw [HM.out, HN.out.done hk])
      have hkI : ¬ (k : Int) < 73 := by omega
      go_wp2_with fail
      go_ret2
      rw [HE.out]
      exact ⟨rfl, HB.out⟩
set_option maxHeartbeats 8000000 in
theorem rwhole_no_b (f s : Int) (w : World) (hf : okI f) (hs : okI s) (hh : han f = false) (h0 : f ≥ 4352) (h1 : f ≥ 4371) : Calls Try.prog 10 #[.int .i64 f, .int .i64 s] w fun e w' => RetW (whole f s) w e w' := by
  have HH := Lib.hid fun w => rhangul_any f w
  obtain ⟨hf1, hf2⟩ := hf
  obtain ⟨hs1, hs2⟩ := hs
  have HP := Lib.hid fun w => rpairs_any w
  unfold PairsS at HP
  have HL := Lib.hid prs_len
  unfold RetW
  have HM : Hid (whole f s = match prs.find? (fun p => p.2.1 == f && p.2.2 == s && p.2.2 != 0) with | some p => (p.1, true) | none => (0, false)) := Lib.hid (by unfold whole; rw [if_neg (by omega), if_neg (by rw [hh]; simp)]; rfl)
  rw [hh] at HH
  clear hh
  go_enter Try.func10, Try.ntmps10
  go_wp2_with (first
    | (go_at_call 16; refine (HH.out _).mono ?_; rintro _ w9 ⟨rfl, hw9⟩; subst w9)
    | (go_at_call 19; refine (HP.out _).mono ?_; rintro _ w1 ⟨g, cap, rfl, ht, hb1⟩
       have HT := Lib.hid ht
       have HB := Lib.hid hb1
       clear ht hb1))
  obtain ⟨b, cap', heq, hbl, hc⟩ := HT.out
  cases heq
  have HC := Lib.hid hc
  clear hc HT HP
  go_loopg [7] 74 (fun gh q wr => ∃ (k : Nat), k + gh = 74 ∧ q = .int .i64 k ∧ k ≤ 73 ∧ Hid (NonTo (fun p => p.2.1 == f && p.2.2 == s && p.2.2 != 0) k) ∧ wr = w1)
  case atStart => exact ⟨0, by omega, rfl, by omega, Lib.hid rfl, rfl⟩
  case round =>
    obtain ⟨k, hkg, rfl, hk7, HN, rfl⟩ := hrel
    by_cases hk : k < 73
    · have hkl : k < prs.length := by rw [HL.out]; exact hk
      obtain ⟨c0, c1, c2⟩ := HC.out k hkl
      have hkI : (k : Int) < 73 := by omega
      have hk0 : (0 : Int) ≤ (k : Int) := by omega
      have HST : Hid ((prs[k].2.1 == f && prs[k].2.2 == s && prs[k].2.2 != 0) = false → NonTo (fun p => p.2.1 == f && p.2.2 == s && p.2.2 != 0) (k + 1)) := Lib.hid fun h => HN.out.step hkl h
      have HIT : Hid ((prs[k].2.1 == f && prs[k].2.2 == s && prs[k].2.2 != 0) = true → whole f s = (prs[k].1, true)) := Lib.hid fun h => by rw [HM.out, HN.out.hit hkl h]
      obtain ⟨z, hz⟩ : ∃ z, prs[k].1 = z := ⟨_, rfl⟩
      obtain ⟨x, hx⟩ : ∃ x, prs[k].2.1 = x := ⟨_, rfl⟩
      obtain ⟨y, hy⟩ : ∃ y, prs[k].2.2 = y := ⟨_, rfl⟩
      rw [hz] at c0 HIT
      rw [hx] at c1 HIT HST
      rw [hy] at c2 HIT HST
      clear hz hx hy
      by_cases h1 : x = f
      · by_cases h2 : y = s
        · by_cases h3 : s = 0
          · subst h1
            have HN2 := Lib.hid (HST.out (by rw [h2, h3]; simp))
            have d2 : (y == s) = true := by simpa using h2
            have d3 : (s == 0) = true := by simpa using h3
            clear h2 h3 HST HIT
            go_wp2_with fail
            go_roundg (gk - 1)
            case measure => omega
            case rel => exact ⟨k + 1, by omega, by simp, by omega, HN2, rfl⟩
          · have HE := Lib.hid (HIT.out (by rw [h1, h2]; simpa using h3))
            have d1 : (x == f) = true := by simpa using h1
            have d2 : (y == s) = true := by simpa using h2
            have d3 : (s == 0) = false := by simpa using h3
            clear h1 h2 h3 HST HIT
            go_wp2_with fail
            go_ret2
            rw [HE.out]
            exact ⟨rfl, HB.out⟩
        · have HN2 := Lib.hid (HST.out (by simp [h2]))
          have d1 : (x == f) = true := by simpa using h1
          have d2 : (y == s) = false := by simpa using h2
          clear h1 h2 HST HIT
          go_wp2_with fail
          go_roundg (gk - 1)
          case measure => omega
          case rel => exact ⟨k + 1, by omega, by simp, by omega, HN2, rfl⟩
      · have HN2 := Lib.hid (HST.out (by simp [h1]))
        have d1 : (x == f) = false := by simpa using h1
        clear h1 HST HIT
        go_wp2_with fail
        go_roundg (gk - 1)
        case measure => omega
        case rel => exact ⟨k + 1, by omega, by simp, by omega, HN2, rfl⟩
    · have HE : Hid (whole f s = (0, false)) := Lib.hid (by rw [HM.out, HN.out.done hk])
      have hkI : ¬ (k : Int) < 73 := by omega
      go_wp2_with fail
      go_ret2
      rw [HE.out]
      exact ⟨rfl, HB.out⟩
set_option maxHeartbeats 8000000 in
theorem rwhole_no_c (f s : Int) (w : World) (hf : okI f) (hs : okI s) (hh : han f = false) (h0 : f ≥ 4352) (h1 : f < 4371) (h2 : s < 4449) : Calls Try.prog 10 #[.int .i64 f, .int .i64 s] w fun e w' => RetW (whole f s) w e w' := by
  have HH := Lib.hid fun w => rhangul_any f w
  obtain ⟨hf1, hf2⟩ := hf
  obtain ⟨hs1, hs2⟩ := hs
  have HP := Lib.hid fun w => rpairs_any w
  unfold PairsS at HP
  have HL := Lib.hid prs_len
  unfold RetW
  have HM : Hid (whole f s = match prs.find? (fun p => p.2.1 == f && p.2.2 == s && p.2.2 != 0) with | some p => (p.1, true) | none => (0, false)) := Lib.hid (by unfold whole; rw [if_neg (by omega), if_neg (by rw [hh]; simp)]; rfl)
  rw [hh] at HH
  clear hh
  go_enter Try.func10, Try.ntmps10
  go_wp2_with (first
    | (go_at_call 16; refine (HH.out _).mono ?_; rintro _ w9 ⟨rfl, hw9⟩; subst w9)
    | (go_at_call 19; refine (HP.out _).mono ?_; rintro _ w1 ⟨g, cap, rfl, ht, hb1⟩
       have HT := Lib.hid ht
       have HB := Lib.hid hb1
       clear ht hb1))
  obtain ⟨b, cap', heq, hbl, hc⟩ := HT.out
  cases heq
  have HC := Lib.hid hc
  clear hc HT HP
  go_loopg [7] 74 (fun gh q wr => ∃ (k : Nat), k + gh = 74 ∧ q = .int .i64 k ∧ k ≤ 73 ∧ Hid (NonTo (fun p => p.2.1 == f && p.2.2 == s && p.2.2 != 0) k) ∧ wr = w1)
  case atStart => exact ⟨0, by omega, rfl, by omega, Lib.hid rfl, rfl⟩
  case round =>
    obtain ⟨k, hkg, rfl, hk7, HN, rfl⟩ := hrel
    by_cases hk : k < 73
    · have hkl : k < prs.length := by rw [HL.out]; exact hk
      obtain ⟨c0, c1, c2⟩ := HC.out k hkl
      have hkI : (k : Int) < 73 := by omega
      have hk0 : (0 : Int) ≤ (k : Int) := by omega
      have HST : Hid ((prs[k].2.1 == f && prs[k].2.2 == s && prs[k].2.2 != 0) = false → NonTo (fun p => p.2.1 == f && p.2.2 == s && p.2.2 != 0) (k + 1)) := Lib.hid fun h => HN.out.step hkl h
      have HIT : Hid ((prs[k].2.1 == f && prs[k].2.2 == s && prs[k].2.2 != 0) = true → whole f s = (prs[k].1, true)) := Lib.hid fun h => by rw [HM.out, HN.out.hit hkl h]
      obtain ⟨z, hz⟩ : ∃ z, prs[k].1 = z := ⟨_, rfl⟩
      obtain ⟨x, hx⟩ : ∃ x, prs[k].2.1 = x := ⟨_, rfl⟩
      obtain ⟨y, hy⟩ : ∃ y, prs[k].2.2 = y := ⟨_, rfl⟩
      rw [hz] at c0 HIT
      rw [hx] at c1 HIT HST
      rw [hy] at c2 HIT HST
      clear hz hx hy
      by_cases h1 : x = f
      · by_cases h2 : y = s
        · by_cases h3 : s = 0
          · subst h1
            have HN2 := Lib.hid (HST.out (by rw [h2, h3]; simp))
            have d2 : (y == s) = true := by simpa using h2
            have d3 : (s == 0) = true := by simpa using h3
            clear h2 h3 HST HIT
            go_wp2_with fail
            go_roundg (gk - 1)
            case measure => omega
            case rel => exact ⟨k + 1, by omega, by simp, by omega, HN2, rfl⟩
          · have HE := Lib.hid (HIT.out (by rw [h1, h2]; simpa using h3))
            have d1 : (x == f) = true := by simpa using h1
            have d2 : (y == s) = true := by simpa using h2
            have d3 : (s == 0) = false := by simpa using h3
            clear h1 h2 h3 HST HIT
            go_wp2_with fail
            go_ret2
            rw [HE.out]
            exact ⟨rfl, HB.out⟩
        · have HN2 := Lib.hid (HST.out (by simp [h2]))
          have d1 : (x == f) = true := by simpa using h1
          have d2 : (y == s) = false := by simpa using h2
          clear h1 h2 HST HIT
          go_wp2_with fail
          go_roundg (gk - 1)
          case measure => omega
          case rel => exact ⟨k + 1, by omega, by simp, by omega, HN2, rfl⟩
      · have HN2 := Lib.hid (HST.out (by simp [h1]))
        have d1 : (x == f) = false := by simpa using h1
        clear h1 HST HIT
        go_wp2_with fail
        go_roundg (gk - 1)
        case measure => omega
        case rel => exact ⟨k + 1, by omega, by simp, by omega, HN2, rfl⟩
    · have HE : Hid (whole f s = (0, false)) := Lib.hid (by rw [HM.out, HN.out.done hk])
      have hkI : ¬ (k : Int) < 73 := by omega
      go_wp2_with fail
      go_ret2
      rw [HE.out]
      exact ⟨rfl, HB.out⟩
set_option maxHeartbeats 8000000 in
theorem rwhole_no_d (f s : Int) (w : World) (hf : okI f) (hs : okI s) (hh : han f = false) (h0 : f ≥ 4352) (h1 : f < 4371) (h2 : s ≥ 4449) (h3 : s ≥ 4470) : Calls Try.prog 10 #[.int .i64 f, .int .i64 s] w fun e w' => RetW (whole f s) w e w' := by
  have HH := Lib.hid fun w => rhangul_any f w
  obtain ⟨hf1, hf2⟩ := hf
  obtain ⟨hs1, hs2⟩ := hs
  have HP := Lib.hid fun w => rpairs_any w
  unfold PairsS at HP
  have HL := Lib.hid prs_len
  unfold RetW
  have HM : Hid (whole f s = match prs.find? (fun p => p.2.1 == f && p.2.2 == s && p.2.2 != 0) with | some p => (p.1, true) | none => (0, false)) := Lib.hid (by unfold whole; rw [if_neg (by omega), if_neg (by rw [hh]; simp)]; rfl)
  rw [hh] at HH
  clear hh
  go_enter Try.func10, Try.ntmps10
  go_wp2_with (first
    | (go_at_call 16; refine (HH.out _).mono ?_; rintro _ w9 ⟨rfl, hw9⟩; subst w9)
    | (go_at_call 19; refine (HP.out _).mono ?_; rintro _ w1 ⟨g, cap, rfl, ht, hb1⟩
       have HT := Lib.hid ht
       have HB := Lib.hid hb1
       clear ht hb1))
  obtain ⟨b, cap', heq, hbl, hc⟩ := HT.out
  cases heq
  have HC := Lib.hid hc
  clear hc HT HP
  go_loopg [7] 74 (fun gh q wr => ∃ (k : Nat), k + gh = 74 ∧ q = .int .i64 k ∧ k ≤ 73 ∧ Hid (NonTo (fun p => p.2.1 == f && p.2.2 == s && p.2.2 != 0) k) ∧ wr = w1)
  case atStart => exact ⟨0, by omega, rfl, by omega, Lib.hid rfl, rfl⟩
  case round =>
    obtain ⟨k, hkg, rfl, hk7, HN, rfl⟩ := hrel
    by_cases hk : k < 73
    · have hkl : k < prs.length := by rw [HL.out]; exact hk
      obtain ⟨c0, c1, c2⟩ := HC.out k hkl
      have hkI : (k : Int) < 73 := by omega
      have hk0 : (0 : Int) ≤ (k : Int) := by omega
      have HST : Hid ((prs[k].2.1 == f && prs[k].2.2 == s && prs[k].2.2 != 0) = false → NonTo (fun p => p.2.1 == f && p.2.2 == s && p.2.2 != 0) (k + 1)) := Lib.hid fun h => HN.out.step hkl h
      have HIT : Hid ((prs[k].2.1 == f && prs[k].2.2 == s && prs[k].2.2 != 0) = true → whole f s = (prs[k].1, true)) := Lib.hid fun h => by rw [HM.out, HN.out.hit hkl h]
      obtain ⟨z, hz⟩ : ∃ z, prs[k].1 = z := ⟨_, rfl⟩
      obtain ⟨x, hx⟩ : ∃ x, prs[k].2.1 = x := ⟨_, rfl⟩
      obtain ⟨y, hy⟩ : ∃ y, prs[k].2.2 = y := ⟨_, rfl⟩
      rw [hz] at c0 HIT
      rw [hx] at c1 HIT HST
      rw [hy] at c2 HIT HST
      clear hz hx hy
      by_cases h1 : x = f
      · by_cases h2 : y = s
        · by_cases h3 : s = 0
          · exfalso; omega
          · have HE := Lib.hid (HIT.out (by rw [h1, h2]; simpa using h3))
            have d1 : (x == f) = true := by simpa using h1
            have d2 : (y == s) = true := by simpa using h2
            have d3 : (s == 0) = false := by simpa using h3
            clear h1 h2 h3 HST HIT
            go_wp2_with fail
            go_ret2
            rw [HE.out]
            exact ⟨rfl, HB.out⟩
        · have HN2 := Lib.hid (HST.out (by simp [h2]))
          have d1 : (x == f) = true := by simpa using h1
          have d2 : (y == s) = false := by simpa using h2
          clear h1 h2 HST HIT
          go_wp2_with fail
          go_roundg (gk - 1)
          case measure => omega
          case rel => exact ⟨k + 1, by omega, by simp, by omega, HN2, rfl⟩
      · have HN2 := Lib.hid (HST.out (by simp [h1]))
        have d1 : (x == f) = false := by simpa using h1
        clear h1 HST HIT
        go_wp2_with fail
        go_roundg (gk - 1)
        case measure => omega
        case rel => exact ⟨k + 1, by omega, by simp, by omega, HN2, rfl⟩
    · have HE : Hid (whole f s = (0, false)) := Lib.hid (by rw [HM.out, HN.out.done hk])
      have hkI : ¬ (k : Int) < 73 := by omega
      go_wp2_with fail
      go_ret2
      rw [HE.out]
      exact ⟨rfl, HB.out⟩
set_option maxHeartbeats 8000000 in
theorem rwhole_yes_a (f s : Int) (w : World) (hf : okI f) (hs : okI s) (hh : han f = true) (hm : ¬ (f - 44032) % 28 = 0) : Calls Try.prog 10 #[.int .i64 f, .int .i64 s] w fun e w' => RetW (whole f s) w e w' := by
  have HH := Lib.hid fun w => rhangul_any f w
  obtain ⟨hf1, hf2⟩ := hf
  obtain ⟨hs1, hs2⟩ := hs
  have HP := Lib.hid fun w => rpairs_any w
  unfold PairsS at HP
  have HL := Lib.hid prs_len
  unfold RetW
  have hfr := han_iff.1 hh
  have e0 : (f - 44032).tmod 28 = (f - 44032) % 28 := Int.tmod_eq_emod_of_nonneg (by omega)
  have HM : Hid (whole f s = match prs.find? (fun p => p.2.1 == f && p.2.2 == s && p.2.2 != 0) with | some p => (p.1, true) | none => (0, false)) := Lib.hid (by unfold whole; rw [if_neg (by omega), if_neg (by omega)]; rfl)
  rw [hh] at HH
  have h0 : f ≥ 4352 := by omega
  have h1 : f ≥ 4371 := by omega
  obtain ⟨m, hmm⟩ : ∃ m, (f - 44032) % 28 = m := ⟨_, rfl⟩
  rw [hmm] at e0 hm
  obtain ⟨hg1, hg2⟩ := hfr
  have d0 : (m == 0) = false := by simpa using hm
  clear hh hmm hm
  go_enter Try.func10, Try.ntmps10
  go_wp2_with (first
    | (go_at_call 16; refine (HH.out _).mono ?_; rintro _ w9 ⟨rfl, hw9⟩; subst w9)
    | (go_at_call 19; refine (HP.out _).mono ?_; rintro _ w1 ⟨g, cap, rfl, ht, hb1⟩
       have HT := Lib.hid ht
       have HB := Lib.hid hb1
       clear ht hb1))
  obtain ⟨b, cap', heq, hbl, hc⟩ := HT.out
  cases heq
  have HC := Lib.hid hc
  clear hc HT HP
  go_loopg [7] 74 (fun gh q wr => ∃ (k : Nat), k + gh = 74 ∧ q = .int .i64 k ∧ k ≤ 73 ∧ Hid (NonTo (fun p => p.2.1 == f && p.2.2 == s && p.2.2 != 0) k) ∧ wr = w1)
  case atStart => exact ⟨0, by omega, rfl, by omega, Lib.hid rfl, rfl⟩
  case round =>
    obtain ⟨k, hkg, rfl, hk7, HN, rfl⟩ := hrel
    by_cases hk : k < 73
    · have hkl : k < prs.length := by rw [HL.out]; exact hk
      obtain ⟨c0, c1, c2⟩ := HC.out k hkl
      have hkI : (k : Int) < 73 := by omega
      have hk0 : (0 : Int) ≤ (k : Int) := by omega
      have HST : Hid ((prs[k].2.1 == f && prs[k].2.2 == s && prs[k].2.2 != 0) = false → NonTo (fun p => p.2.1 == f && p.2.2 == s && p.2.2 != 0) (k + 1)) := Lib.hid fun h => HN.out.step hkl h
      have HIT : Hid ((prs[k].2.1 == f && prs[k].2.2 == s && prs[k].2.2 != 0) = true → whole f s = (prs[k].1, true)) := Lib.hid fun h => by rw [HM.out, HN.out.hit hkl h]
      obtain ⟨z, hz⟩ : ∃ z, prs[k].1 = z := ⟨_, rfl⟩
      obtain ⟨x, hx⟩ : ∃ x, prs[k].2.1 = x := ⟨_, rfl⟩
      obtain ⟨y, hy⟩ : ∃ y, prs[k].2.2 = y := ⟨_, rfl⟩
      rw [hz] at c0 HIT
      rw [hx] at c1 HIT HST
      rw [hy] at c2 HIT HST
      clear hz hx hy
      by_cases h1 : x = f
      · by_cases h2 : y = s
        · by_cases h3 : s = 0
          · subst h1
            have HN2 := Lib.hid (HST.out (by rw [h2, h3]; simp))
            have d2 : (y == s) = true := by simpa using h2
            have d3 : (s == 0) = true := by simpa using h3
            clear h2 h3 HST HIT
            go_wp2_with fail
            go_roundg (gk - 1)
            case measure => omega
            case rel => exact ⟨k + 1, by omega, by simp, by omega, HN2, rfl⟩
          · have HE := Lib.hid (HIT.out (by rw [h1, h2]; simpa using h3))
            have d1 : (x == f) = true := by simpa using h1
            have d2 : (y == s) = true := by simpa using h2
            have d3 : (s == 0) = false := by simpa using h3
            clear h1 h2 h3 HST HIT
            go_wp2_with fail
            go_ret2
            rw [HE.out]
            exact ⟨rfl, HB.out⟩
        · have HN2 := Lib.hid (HST.out (by simp [h2]))
          have d1 : (x == f) = true := by simpa using h1
          have d2 : (y == s) = false := by simpa using h2
          clear h1 h2 HST HIT
          go_wp2_with fail
          go_roundg (gk - 1)
          case measure => omega
          case rel => exact ⟨k + 1, by omega, by simp, by omega, HN2, rfl⟩
      · have HN2 := Lib.hid (HST.out (by simp [h1]))
        have d1 : (x == f) = false := by simpa using h1
        clear h1 HST HIT
        go_wp2_with fail
        go_roundg (gk - 1)
        case measure => omega
        case rel => exact ⟨k + 1, by omega, by simp, by omega, HN2, rfl⟩
    · have HE : Hid (whole f s = (0, false)) := Lib.hid (by rw [HM.out, HN.out.done hk])
      have hkI : ¬ (k : Int) < 73 := by omega
      go_wp2_with fail
      go_ret2
      rw [HE.out]
      exact ⟨rfl, HB.out⟩
set_option maxHeartbeats 8000000 in
theorem rwhole_yes_b (f s : Int) (w : World) (hf : okI f) (hs : okI s) (hh : han f = true) (hm : (f - 44032) % 28 = 0) (h2 : s ≤ 4519) : Calls Try.prog 10 #[.int .i64 f, .int .i64 s] w fun e w' => RetW (whole f s) w e w' := by
  have HH := Lib.hid fun w => rhangul_any f w
  obtain ⟨hf1, hf2⟩ := hf
  obtain ⟨hs1, hs2⟩ := hs
  have HP := Lib.hid fun w => rpairs_any w
  unfold PairsS at HP
  have HL := Lib.hid prs_len
  unfold RetW
  have hfr := han_iff.1 hh
  have e0 : (f - 44032).tmod 28 = (f - 44032) % 28 := Int.tmod_eq_emod_of_nonneg (by omega)
  have HM : Hid (whole f s = match prs.find? (fun p => p.2.1 == f && p.2.2 == s && p.2.2 != 0) with | some p => (p.1, true) | none => (0, false)) := Lib.hid (by unfold whole; rw [if_neg (by omega), if_neg (by omega)]; rfl)
  rw [hh] at HH
  have h0 : f ≥ 4352 := by omega
  have h1 : f ≥ 4371 := by omega
  obtain ⟨m, hmm⟩ : ∃ m, (f - 44032) % 28 = m := ⟨_, rfl⟩
  rw [hmm] at e0 hm
  obtain ⟨hg1, hg2⟩ := hfr
  subst hm
  clear hh hmm
  go_enter Try.func10, Try.ntmps10
  go_wp2_with (first
    | (go_at_call 16; refine (HH.out _).mono ?_; rintro _ w9 ⟨rfl, hw9⟩; subst w9)
    | (go_at_call 19; refine (HP.out _).mono ?_; rintro _ w1 ⟨g, cap, rfl, ht, hb1⟩
       have HT := Lib.hid ht
       have HB := Lib.hid hb1
       clear ht hb1))
  obtain ⟨b, cap', heq, hbl, hc⟩ := HT.out
  cases heq
  have HC := Lib.hid hc
  clear hc HT HP
  go_loopg [7] 74 (fun gh q wr => ∃ (k : Nat), k + gh = 74 ∧ q = .int .i64 k ∧ k ≤ 73 ∧ Hid (NonTo (fun p => p.2.1 == f && p.2.2 == s && p.2.2 != 0) k) ∧ wr = w1)
  case atStart => exact ⟨0, by omega, rfl, by omega, Lib.hid rfl, rfl⟩
  case round =>
    obtain ⟨k, hkg, rfl, hk7, HN, rfl⟩ := hrel
    by_cases hk : k < 73
    · have hkl : k < prs.length := by rw [HL.out]; exact hk
      obtain ⟨c0, c1, c2⟩ := HC.out k hkl
      have hkI : (k : Int) < 73 := by omega
      have hk0 : (0 : Int) ≤ (k : Int) := by omega
      have HST : Hid ((prs[k].2.1 == f && prs[k].2.2 == s && prs[k].2.2 != 0) = false → NonTo (fun p => p.2.1 == f && p.2.2 == s && p.2.2 != 0) (k + 1)) := Lib.hid fun h => HN.out.step hkl h
      have HIT : Hid ((prs[k].2.1 == f && prs[k].2.2 == s && prs[k].2.2 != 0) = true → whole f s = (prs[k].1, true)) := Lib.hid fun h => by rw [HM.out, HN.out.hit hkl h]
      obtain ⟨z, hz⟩ : ∃ z, prs[k].1 = z := ⟨_, rfl⟩
      obtain ⟨x, hx⟩ : ∃ x, prs[k].2.1 = x := ⟨_, rfl⟩
      obtain ⟨y, hy⟩ : ∃ y, prs[k].2.2 = y := ⟨_, rfl⟩
      rw [hz] at c0 HIT
      rw [hx] at c1 HIT HST
      rw [hy] at c2 HIT HST
      clear hz hx hy
      by_cases h1 : x = f
      · by_cases h2 : y = s
        · by_cases h3 : s = 0
          · subst h1
            have HN2 := Lib.hid (HST.out (by rw [h2, h3]; simp))
            have d2 : (y == s) = true := by simpa using h2
            have d3 : (s == 0) = true := by simpa using h3
            clear h2 h3 HST HIT
            go_wp2_with fail
            go_roundg (gk - 1)
            case measure => omega
            case rel => exact ⟨k + 1, by omega, by simp, by omega, HN2, rfl⟩
          · have HE := Lib.hid (HIT.out (by rw [h1, h2]; simpa using h3))
            have d1 : (x == f) = true := by simpa using h1
            have d2 : (y == s) = true := by simpa using h2
            have d3 : (s == 0) = false := by simpa using h3
            clear h1 h2 h3 HST HIT
            go_wp2_with fail
            go_ret2
            rw [HE.out]
            exact ⟨rfl, HB.out⟩
        · have HN2 := Lib.hid (HST.out (by simp [h2]))
          have d1 : (x == f) = true := by simpa using h1
          have d2 : (y == s) = false := by simpa using h2
          clear h1 h2 HST HIT
          go_wp2_with fail
          go_roundg (gk - 1)
          case measure => omega
          case rel => exact ⟨k + 1, by omega, by simp, by omega, HN2, rfl⟩
      · have HN2 := Lib.hid (HST.out (by simp [h1]))
        have d1 : (x == f) = false := by simpa using h1
        clear h1 HST HIT
        go_wp2_with fail
        go_roundg (gk - 1)
        case measure => omega
        case rel => exact ⟨k + 1, by omega, by simp, by omega, HN2, rfl⟩
    · have HE : Hid (whole f s = (0, false)) := Lib.hid (by rw [HM.out, HN.out.done hk])
      have hkI : ¬ (k : Int) < 73 := by omega
      go_wp2_with fail
      go_ret2
      rw [HE.out]
      exact ⟨rfl, HB.out⟩
set_option maxHeartbeats 8000000 in
theorem rwhole_yes_c (f s : Int) (w : World) (hf : okI f) (hs : okI s) (hh : han f = true) (hm : (f - 44032) % 28 = 0) (h2 : s > 4519) (h3 : s ≥ 4547) : Calls Try.prog 10 #[.int .i64 f, .int .i64 s] w fun e w' => RetW (whole f s) w e w' := by
  have HH := Lib.hid fun w => rhangul_any f w
  obtain ⟨hf1, hf2⟩ := hf
  obtain ⟨hs1, hs2⟩ := hs
  have HP := Lib.hid fun w => rpairs_any w
  unfold PairsS at HP
  have HL := Lib.hid prs_len
  unfold RetW
  have hfr := han_iff.1 hh
  have e0 : (f - 44032).tmod 28 = (f - 44032) % 28 := Int.tmod_eq_emod_of_nonneg (by omega)
  have HM : Hid (whole f s = match prs.find? (fun p => p.2.1 == f && p.2.2 == s && p.2.2 != 0) with | some p => (p.1, true) | none => (0, false)) := Lib.hid (by unfold whole; rw [if_neg (by omega), if_neg (by omega)]; rfl)
  rw [hh] at HH
  have h0 : f ≥ 4352 := by omega
  have h1 : f ≥ 4371 := by omega
  obtain ⟨m, hmm⟩ : ∃ m, (f - 44032) % 28 = m := ⟨_, rfl⟩
  rw [hmm] at e0 hm
  obtain ⟨hg1, hg2⟩ := hfr
  subst hm
  clear hh hmm
  go_enter Try.func10, Try.ntmps10
  go_wp2_with (first
    | (go_at_call 16; refine (HH.out _).mono ?_; rintro _ w9 ⟨rfl, hw9⟩; subst w9)
    | (go_at_call 19; refine (HP.out _).mono ?_; rintro _ w1 ⟨g, cap, rfl, ht, hb1⟩
       have HT := Lib.hid ht
       have HB := Lib.hid hb1
       clear ht hb1))
  obtain ⟨b, cap', heq, hbl, hc⟩ := HT.out
  cases heq
  have HC := Lib.hid hc
  clear hc HT HP
  go_loopg [7] 74 (fun gh q wr => ∃ (k : Nat), k + gh = 74 ∧ q = .int .i64 k ∧ k ≤ 73 ∧ Hid (NonTo (fun p => p.2.1 == f && p.2.2 == s && p.2.2 != 0) k) ∧ wr = w1)
  case atStart => exact ⟨0, by omega, rfl, by omega, Lib.hid rfl, rfl⟩
  case round =>
    obtain ⟨k, hkg, rfl, hk7, HN, rfl⟩ := hrel
    by_cases hk : k < 73
    · have hkl : k < prs.length := by rw [HL.out]; exact hk
      obtain ⟨c0, c1, c2⟩ := HC.out k hkl
      have hkI : (k : Int) < 73 := by omega
      have hk0 : (0 : Int) ≤ (k : Int) := by omega
      have HST : Hid ((prs[k].2.1 == f && prs[k].2.2 == s && prs[k].2.2 != 0) = false → NonTo (fun p => p.2.1 == f && p.2.2 == s && p.2.2 != 0) (k + 1)) := Lib.hid fun h => HN.out.step hkl h
      have HIT : Hid ((prs[k].2.1 == f && prs[k].2.2 == s && prs[k].2.2 != 0) = true → whole f s = (prs[k].1, true)) := Lib.hid fun h => by rw [HM.out, HN.out.hit hkl h]
      obtain ⟨z, hz⟩ : ∃ z, prs[k].1 = z := ⟨_, rfl⟩
      obtain ⟨x, hx⟩ : ∃ x, prs[k].2.1 = x := ⟨_, rfl⟩
      obtain ⟨y, hy⟩ : ∃ y, prs[k].2.2 = y := ⟨_, rfl⟩
      rw [hz] at c0 HIT
      rw [hx] at c1 HIT HST
      rw [hy] at c2 HIT HST
      clear hz hx hy
      by_cases h1 : x = f
      · by_cases h2 : y = s
        · by_cases h3 : s = 0
          · exfalso; omega
          · have HE := Lib.hid (HIT.out (by rw [h1, h2]; simpa using h3))
            have d1 : (x == f) = true := by simpa using h1
            have d2 : (y == s) = true := by simpa using h2
            have d3 : (s == 0) = false := by simpa using h3
            clear h1 h2 h3 HST HIT
            go_wp2_with fail
            go_ret2
            rw [HE.out]
            exact ⟨rfl, HB.out⟩
        · have HN2 := Lib.hid (HST.out (by simp [h2]))
          have d1 : (x == f) = true := by simpa using h1
          have d2 : (y == s) = false := by simpa using h2
          clear h1 h2 HST HIT
          go_wp2_with fail
          go_roundg (gk - 1)
          case measure => omega
          case rel => exact ⟨k + 1, by omega, by simp, by omega, HN2, rfl⟩
      · have HN2 := Lib.hid (HST.out (by simp [h1]))
        have d1 : (x == f) = false := by simpa using h1
        clear h1 HST HIT
        go_wp2_with fail
        go_roundg (gk - 1)
        case measure => omega
        case rel => exact ⟨k + 1, by omega, by simp, by omega, HN2, rfl⟩
    · have HE : Hid (whole f s = (0, false)) := Lib.hid (by rw [HM.out, HN.out.done hk])
      have hkI : ¬ (k : Int) < 73 := by omega
      go_wp2_with fail
      go_ret2
      rw [HE.out]
      exact ⟨rfl, HB.out⟩
set_option maxHeartbeats 8000000 in
theorem rwhole_yes (f s : Int) (w : World) (hf : okI f) (hs : okI s) (hh : han f = true) (hm : (f - 44032) % 28 = 0) (h2 : s > 4519) (h3 : s < 4547) : Calls Try.prog 10 #[.int .i64 f, .int .i64 s] w fun e w' => RetW (whole f s) w e w' := by
  have HH := Lib.hid fun w => rhangul_any f w
  obtain ⟨hf1, hf2⟩ := hf
  obtain ⟨hs1, hs2⟩ := hs
  have HP := Lib.hid fun w => rpairs_any w
  unfold PairsS at HP
  have HL := Lib.hid prs_len
  unfold RetW
  have hfr := han_iff.1 hh
  have e0 : (f - 44032).tmod 28 = (f - 44032) % 28 := Int.tmod_eq_emod_of_nonneg (by omega)
  rw [hm] at e0
  have HE : Hid (whole f s = (f + s - 4519, true)) := Lib.hid (whole_hangul hh hm h2 h3)
  rw [hh] at HH
  have h0 : f ≥ 4352 := by omega
  have h1 : f ≥ 4371 := by omega
  obtain ⟨hg1, hg2⟩ := hfr
  clear hh hm
  rw [HE.out]
  go_enter Try.func10, Try.ntmps10
  go_wp2_with (go_at_call 16; refine (HH.out _).mono ?_; rintro _ w9 ⟨rfl, hw9⟩; subst w9)
  go_ret2
  exact ⟨rfl, Below.refl _ _⟩
set_option maxHeartbeats 8000000 in
theorem rwhole_two (f s : Int) (w : World) (hf : okI f) (hs : okI s) (h0 : f ≥ 4352) (h1 : f < 4371) (h2 : s ≥ 4449) (h3 : s < 4470) : Calls Try.prog 10 #[.int .i64 f, .int .i64 s] w fun e w' => RetW (whole f s) w e w' := by
  have HH := Lib.hid fun w => rhangul_any f w
  obtain ⟨hf1, hf2⟩ := hf
  obtain ⟨hs1, hs2⟩ := hs
  have HP := Lib.hid fun w => rpairs_any w
  unfold PairsS at HP
  have HL := Lib.hid prs_len
  unfold RetW
  have HE : Hid (whole f s = (44032 + ((f - 4352) * 21 + s - 4449) * 28, true)) := Lib.hid (whole_jamo h0 h1 h2 h3)
  rw [HE.out]
  go_enter Try.func10, Try.ntmps10
  go_wp2_with fail
  go_ret2
  exact ⟨rfl, Below.refl _ _⟩
theorem rwhole_any (f s : Int) (w : World) (hf : okI f) (hs : okI s) : Calls Try.prog 10 #[.int .i64 f, .int .i64 s] w fun e w' => RetW (whole f s) w e w' := by
  cases hh : han f with
  | true =>
    have hfr := han_iff.1 hh
    by_cases hm : (f - 44032) % 28 = 0
    · by_cases h2 : s > 4519
      · by_cases h3 : s < 4547
        · exact rwhole_yes f s w hf hs hh hm h2 h3
        · exact rwhole_yes_c f s w hf hs hh hm h2 (by omega)
      · exact rwhole_yes_b f s w hf hs hh hm (by omega)
    · exact rwhole_yes_a f s w hf hs hh hm
  | false =>
    by_cases h0 : f ≥ 4352
    · by_cases h1 : f < 4371
      · by_cases h2 : s ≥ 4449
        · by_cases h3 : s < 4470
          · exact rwhole_two f s w hf hs h0 h1 h2 h3
          · exact rwhole_no_d f s w hf hs hh h0 h1 h2 (by omega)
        · exact rwhole_no_c f s w hf hs hh h0 h1 (by omega)
      · exact rwhole_no_b f s w hf hs hh h0 (by omega)
    · exact rwhole_no_a f s w hf hs hh (by omega)
end Go.Proofs.Ytdifocahmephjaa.Tab
