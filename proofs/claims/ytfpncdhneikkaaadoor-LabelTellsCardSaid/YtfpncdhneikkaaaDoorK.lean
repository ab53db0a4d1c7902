/- The contracts of the document's own All, Name, Texts. -/
import Derived.Test.YtfpncdhneikkaaaDoorJ
import Derived.Lib.Bytealg
import Derived.Laws.Externs
import Derived.Laws.DeepStrings4
import Derived.Laws.BytesArg
import Derived.Laws.IdiomStrings
namespace Go.Proofs.YtfpncdhneikkaaaDoor
open Go.RowKit
set_option linter.unusedVariables false
set_option linter.unusedSimpArgs false
theorem drewN_add (w : World) (a b : Nat) : (w.drewN a).drewN b = w.drewN (a + b) := by simp [World.drewN, Nat.add_assoc]
theorem below_drewN {w w' : World} {B n : Nat} (h : w' = w.drewN n) : Below B w w' := by subst h; exact ⟨rfl, rfl, rfl, Nat.le_refl _, fun _ _ => rfl⟩
/-- The document's own lists. -/
theorem rall_any (e : Int) (w : World) : Calls Tryd.prog 14 #[.int .i8 e] w fun r w' => AllS w e r w' := by
  by_cases hin : 0 ≤ e ∧ e < 6
  · obtain ⟨n, rfl⟩ := Int.eq_ofNat_of_zero_le hin.1
    have hn : n < 6 := by have := hin.2; omega
    have key : ∀ (n : Nat) (cs : List Value), n < 6 → cs = (lst n).map strV → ∀ (w' : World) (o : Obj), w' = w.alloc o → o = .cells cs.toArray 9 → AllS w (n : Int) (.returned (.slice (some ⟨w.heap.size, 0, none⟩) (lst n).length (lst n).length)) w' := by
      rintro n cs hn rfl w' o rfl rfl
      refine ⟨_, rfl, ?_, (Below.refl _ _).alloc (Nat.le_refl _) _⟩
      rw [allL_in hn]
      refine .inr ⟨w.heap.size, 0, _, rfl, by simp, fun i hi => ?_⟩
      have hb : Blk (w.alloc (.cells ((lst n).map strV).toArray 9)) w.heap.size ((lst n).map strV).toArray 9 := Blk.new _ _ _
      rw [Nat.zero_add, hb.cell]
      simp [hi, strV]
    have KEY := Lib.hid key
    clear key hin
    rcases (by omega : n = 0 ∨ n = 1 ∨ n = 2 ∨ n = 3 ∨ n = 4 ∨ n = 5) with rfl | rfl | rfl | rfl | rfl | rfl
    all_goals
      go_enter Tryd.func14, Tryd.ntmps14
      go_wp2_with fail
      go_ret
      exact KEY.out _ _ (by omega) rfl _ _ rfl rfl
  · have HE : Hid (AllS w e (.returned (.slice none 0 0)) w) := Lib.hid ⟨_, rfl, .inl ⟨allL_out hin, _, _, rfl⟩, Below.refl _ _⟩
    have h0 : (e == 0) = false := by simp; omega
    have h1 : (e == 1) = false := by simp; omega
    have h2 : (e == 2) = false := by simp; omega
    have h3 : (e == 3) = false := by simp; omega
    have h4 : (e == 4) = false := by simp; omega
    have h5 : (e == 5) = false := by simp; omega
    clear hin
    go_enter Tryd.func14, Tryd.ntmps14
    go_wp2_with fail
    go_ret
    exact HE.out
theorem rname_any (e : Int) (w : World) : Calls Tryd.prog 11 #[.int .i8 e] w fun r w' => RetS (nameL e) w r w' := by
  have HA : Hid (∀ w, Calls Tryd.prog 14 #[.int .i8 e] w fun r w' => AllS w e r w') := Lib.hid (rall_any e)
  have HNM := Lib.hid (nameL_head e)
  obtain ⟨xs, hxs⟩ : ∃ xs, allL e = xs := ⟨_, rfl⟩
  have hle := allL_len e
  unfold AllS at HA
  rw [hxs] at HA HNM hle
  clear hxs
  cases xs with
  | nil =>
    go_enter Tryd.func11, Tryd.ntmps11
    go_wp2_with (go_at_call 14; refine (HA.out _).mono ?_; rintro r w1 ⟨v, rfl, hs, hb⟩; have HB := Lib.hid hb; obtain ⟨p, cap, rfl⟩ := hs.form; clear hs hb HA)
    go_ret
    exact ⟨ret_str HNM.out.symm, HB.out⟩
  | cons a t =>
    have hlen : (a :: t).length = t.length + 1 := rfl
    obtain ⟨N, hN⟩ : ∃ N, t.length + 1 = N := ⟨_, rfl⟩
    have hN0 : 0 < N := by omega
    have hN1 : ((N : Int) == 0) = false := by simp; omega
    have hN2 : (0 : Int) < (N : Int) := by omega
    rw [hlen, hN] at hle
    have HL := Lib.hid (hlen.trans hN)
    clear hlen hN
    go_enter Tryd.func11, Tryd.ntmps11
    go_wp2_with (go_at_call 14; refine (HA.out _).mono ?_; rintro r w1 ⟨v, rfl, hs, hb⟩; have HB := Lib.hid hb; obtain ⟨p, cap, rfl⟩ := hs.form; obtain ⟨b, o, rfl, hc⟩ := hs.at (k := 0) (by simp); rw [HL.out]; simp only [Nat.add_zero, List.getElem_cons_zero] at hc; clear hs hb HA)
    go_ret
    exact ⟨ret_str HNM.out.symm, HB.out⟩
set_option maxHeartbeats 1000000 in
theorem texts_any (v u : Value) (xs ys : List (List UInt8)) (w : World) (hI : Strs w v xs) (hJ : Strs w u ys) (hx : xs.length ≤ 100) (hy : ys.length ≤ 100) : Calls Tryd.prog 12 #[v, u] w fun r w' => RetB (decide (xs = ys)) w r w' := by
  obtain ⟨p, c1, rfl⟩ := hI.form
  obtain ⟨q, c2, rfl⟩ := hJ.form
  have HI := Lib.hid hI
  have HJ := Lib.hid hJ
  obtain ⟨N, hN⟩ : ∃ N, xs.length = N := ⟨_, rfl⟩
  obtain ⟨M, hM⟩ : ∃ M, ys.length = M := ⟨_, rfl⟩
  have HN := Lib.hid hN
  have HM := Lib.hid hM
  rw [hN] at hx
  rw [hM] at hy
  rw [hN, hM]
  clear hI hJ hN hM
  by_cases hl : N = M
  rotate_left 1
  · have HD : Hid (decide (xs = ys) = false) := Lib.hid (by
      simp; rintro rfl; exact hl (by rw [← HN.out, ← HM.out]))
    have hne : ((N : Int) != (M : Int)) = true := by simp; omega
    clear hl
    go_enter Tryd.func12, Tryd.ntmps12
    go_wp2_with fail
    go_ret
    exact ⟨ret_bool HD.out.symm, Below.refl _ _⟩
  · subst hl
    have hne : ((N : Int) != (N : Int)) = false := by simp
    go_enter Tryd.func12, Tryd.ntmps12
    go_wp2_with fail
    clear hne
    go_loopg [5] (N + 1) (fun g q5 wr => ∃ (k : Nat), k + g = N + 1 ∧ q5 = .int .i64 k ∧ k ≤ N ∧ Hid (xs.take k = ys.take k) ∧ ∃ d, Hid (wr = w.drewN d))
    case atStart => exact ⟨0, by omega, rfl, by omega, Lib.hid (by simp), 0, Lib.hid rfl⟩
    case round =>
      obtain ⟨k, hkg, rfl, hkN, HT, d, HD⟩ := hrel
      by_cases hk : k < N
      · have hkx : k < xs.length := by rw [HN.out]; exact hk
        have hky : k < ys.length := by rw [HM.out]; exact hk
        obtain ⟨b1, o1, rfl, k1⟩ := HI.out.at hkx
        obtain ⟨b2, o2, rfl, k2⟩ := HJ.out.at hky
        obtain ⟨x, hxk⟩ : ∃ x, xs[k] = x := ⟨_, rfl⟩
        obtain ⟨y, hyk⟩ : ∃ y, ys[k] = y := ⟨_, rfl⟩
        rw [hxk] at k1
        rw [hyk] at k2
        have d1 : ∀ n, (w.drewN n).cell? ⟨b1, o1 + k, none⟩ = some (.string (str x)) := fun n => k1
        have d2 : ∀ n, (w.drewN n).cell? ⟨b2, o2 + k, none⟩ = some (.string (str y)) := fun n => k2
        have e1 := d1 d
        have e2 := d2 d
        rw [← HD.out] at e1 e2
        have hk0 : (0 : Int) ≤ (k : Int) := by omega
        have hk3 : (k : Int) < (N : Int) := by omega
        clear k1 k2 d1 d2
        by_cases hxy : x = y
        · subst hxy
          have HT2 : Hid (xs.take (k + 1) = ys.take (k + 1)) := Lib.hid (by
            rw [List.take_add_one, List.take_add_one, HT.out, List.getElem?_eq_getElem hkx, List.getElem?_eq_getElem hky, hxk, hyk])
          clear hxk hyk hkx hky
          go_wp2_with fail
          go_quiet (fail)
          go_wp2_with fail
          go_roundg (gk - 1)
          case measure => omega
          case rel => exact ⟨k + 1, by omega, by go_num, by omega, HT2, _, Lib.hid (by rw [HD.out]; exact drewN_add _ _ _)⟩
        · have HF : Hid (decide (xs = ys) = false) := Lib.hid (by
            simp; rintro rfl; exact hxy (hxk.symm.trans hyk))
          have hb : ((str x).toList != (str y).toList) = true := by rw [toList_str, toList_str]; simpa using hxy
          have hb2 : ((str x).toList == (str y).toList) = false := by rw [toList_str, toList_str]; simpa using hxy
          clear hxk hyk hkx hky hxy
          go_wp2_with fail
          go_quiet (fail)
          go_wp2_with fail
          go_ret
          exact ⟨ret_bool HF.out.symm, below_drewN (by rw [HD.out]; exact drewN_add _ _ _)⟩
      · have HF : Hid (decide (xs = ys) = true) := Lib.hid (by
          have := HT.out
          rw [List.take_of_length_le (by rw [HN.out]; omega), List.take_of_length_le (by rw [HM.out]; omega)] at this
          simpa using this)
        go_wp2_with fail
        go_ret
        exact ⟨ret_bool HF.out.symm, below_drewN HD.out⟩
end Go.Proofs.YtfpncdhneikkaaaDoor
