/- The walks of the laws Utf8Tells, Utf8Scalars, Utf8Loose. -/
import Derived.Test.YtdojejkbcogjfaaDoorW
import Derived.Lib.SmallJoins
import Derived.Deep.Slices
import Derived.ChangeSame
import Derived.ChangeVars
import Derived.LaidMore
import Derived.Stop.Joined
namespace Go.Proofs.YtdojejkbcogjfaaDoor
open Go.RowKit
set_option linter.unusedVariables false
set_option linter.unusedSimpArgs false
set_option maxRecDepth 100000 in
set_option maxHeartbeats 2000000 in
theorem tells_walk (r : Int) (s : ByteArray) (a : Int) (w : World) (hg : Gl w) (hs : s.size ≤ maxLen) : Calls Tryd.prog 3 #[.int .i64 r, .string s, .int .i64 a] w fun e w' => RetB true w e w' := by
  have HG := Lib.hid hg
  clear hg
  unfold maxLen at hs
  by_cases hlt : s.size ≤ 4000
  rotate_left 1
  · have hgt : 4000 < s.size := by omega
    clear hlt
    go_enter Tryd.func3, Tryd.ntmps3
    go_wp2_with (go_at_call 9; refine (wakes_any _ HG.out).mono ?_; rintro e w1 ⟨rfl, hb1⟩; have HB1 := Lib.hid hb1; clear hb1)
    go_ret
    exact ⟨rfl, HB1.out⟩
  · obtain ⟨x, hx⟩ : ∃ x, str (enc r) = x := ⟨_, rfl⟩
    obtain ⟨b, hb⟩ : ∃ b, isB r = b := ⟨_, rfl⟩
    obtain ⟨c1, h1⟩ : ∃ b, (nxt s a).1 = b := ⟨_, rfl⟩
    obtain ⟨c2, h2⟩ : ∃ b, (nxt s a).2.1 = b := ⟨_, rfl⟩
    obtain ⟨c3, h3⟩ : ∃ b, (nxt s a).2.2 = b := ⟨_, rfl⟩
    obtain ⟨n, hn⟩ : ∃ b, lenF r = b := ⟨_, rfl⟩
    have P1 : Hid (∀ w1, Gl w1 → Calls Tryd.prog 10 #[.int .i64 r] w1 fun e w' => e = .returned (.tuple #[.string x, .bool b]) ∧ Below w1.heap.size w1 w') := Lib.hid (fun w1 h => by
      have := put_any r w1 h; unfold PutS at this; rwa [hx, hb] at this)
    have P2 : Hid (∀ w1, Calls Tryd.prog 11 #[.int .i64 r] w1 fun e w' => e = .returned (.tuple #[.string x, .bool b]) ∧ Below w1.heap.size w1 w') := Lib.hid (fun w1 => by
      have := rput_any r w1; unfold PutS at this; rwa [hx, hb] at this)
    have N1 : Hid (∀ w1, Gl w1 → Calls Tryd.prog 12 #[.string s, .int .i64 a] w1 fun e w' => e = .returned (.tuple #[.int .i64 c1, .int .i64 c2, .bool c3]) ∧ w1 = w') := Lib.hid (fun w1 h => by
      have := next_any s a w1 h (by omega); unfold NextS at this; rwa [h1, h2, h3] at this)
    have N2 : Hid (∀ w1, Calls Tryd.prog 13 #[.string s, .int .i64 a] w1 fun e w' => e = .returned (.tuple #[.int .i64 c1, .int .i64 c2, .bool c3]) ∧ w1 = w') := Lib.hid (fun w1 => by
      have := rnext_any s a w1 (by omega); unfold NextS at this; rwa [h1, h2, h3] at this)
    have I1 : Hid (∀ w1, Gl w1 → Calls Tryd.prog 14 #[.int .i64 r] w1 fun e w' => e = .returned (.bool b) ∧ w1 = w') := Lib.hid (fun w1 h => by
      have := is_any r w1 h; rwa [hb] at this)
    have I2 : Hid (∀ w1, Calls Tryd.prog 15 #[.int .i64 r] w1 fun e w' => e = .returned (.bool b) ∧ w1 = w') := Lib.hid (fun w1 => by
      have := ris_any r w1; rwa [hb] at this)
    have L1 : Hid (∀ w1, Gl w1 → Calls Tryd.prog 16 #[.int .i64 r] w1 fun e w' => e = .returned (.int .i64 n) ∧ w1 = w') := Lib.hid (fun w1 h => by
      have := len_any r w1 h; rwa [hn] at this)
    have L2 : Hid (∀ w1, Calls Tryd.prog 17 #[.int .i64 r] w1 fun e w' => e = .returned (.int .i64 n) ∧ w1 = w') := Lib.hid (fun w1 => by
      have := rlen_any r w1; rwa [hn] at this)
    clear hx hb h1 h2 h3 hn
    go_enter Tryd.func3, Tryd.ntmps3
    go_wp2_with (first
      | (go_at_call 10; refine (P1.out _ HG.out).mono ?_; rintro e w1 ⟨rfl, hb1⟩; have HB1 := Lib.hid hb1; clear hb1)
      | (go_at_call 11; refine (P2.out _).mono ?_; rintro e w2 ⟨rfl, hb2⟩; have HB2 : Hid (Below w.heap.size w w2) := Lib.hid (below_call HB1.out hb2); clear hb2)
      | (go_at_call 12; refine (N1.out _ (HG.out.below' HB2.out)).mono ?_; rintro e w3 ⟨rfl, rfl⟩)
      | (go_at_call 13; refine (N2.out _).mono ?_; rintro e w3 ⟨rfl, rfl⟩)
      | (go_at_call 14; refine (I1.out _ (HG.out.below' HB2.out)).mono ?_; rintro e w3 ⟨rfl, rfl⟩)
      | (go_at_call 15; refine (I2.out _).mono ?_; rintro e w3 ⟨rfl, rfl⟩)
      | (go_at_call 16; refine (L1.out _ (HG.out.below' HB2.out)).mono ?_; rintro e w3 ⟨rfl, rfl⟩)
      | (go_at_call 17; refine (L2.out _).mono ?_; rintro e w3 ⟨rfl, rfl⟩)
      | (go_at_call 9; refine (wakes_any _ (HG.out.below' HB2.out)).mono ?_; rintro e w4 ⟨rfl, hb4⟩; have HB4 : Hid (Below w.heap.size w w4) := Lib.hid (below_call HB2.out hb4); clear hb4))
    go_ret
    exact ⟨rfl, HB4.out⟩
set_option maxRecDepth 100000 in
set_option maxHeartbeats 2000000 in
theorem loose_walk (s : ByteArray) (w : World) (hg : Gl w) (hs : s.size ≤ maxLen) : Calls Tryd.prog 5 #[.string s] w fun e w' => RetB true w e w' := by
  have HG := Lib.hid hg
  clear hg
  unfold maxLen at hs
  by_cases hlt : s.size ≤ 4000
  rotate_left 1
  · have hgt : 4000 < s.size := by omega
    clear hlt
    go_enter Tryd.func5, Tryd.ntmps5
    go_wp2_with (go_at_call 9; refine (wakes_any _ HG.out).mono ?_; rintro e w1 ⟨rfl, hb1⟩; have HB1 := Lib.hid hb1; clear hb1)
    go_ret
    exact ⟨rfl, HB1.out⟩
  · obtain ⟨x, hx⟩ : ∃ x, str (loose s.data.toList) = x := ⟨_, rfl⟩
    obtain ⟨n, hn⟩ : ∃ b, wrg (prt s.data.toList) 0 = b := ⟨_, rfl⟩
    have P1 : Hid (∀ w1, Gl w1 → Calls Tryd.prog 25 #[.string s] w1 fun e w' => e = .returned (.tuple #[.string x, .int .i64 n]) ∧ Below w1.heap.size w1 w') := Lib.hid (fun w1 h => by
      have := loose_any s w1 h (by omega); unfold LooseS at this; rwa [hx, hn] at this)
    have P2 : Hid (∀ w1, Calls Tryd.prog 26 #[.string s] w1 fun e w' => e = .returned (.tuple #[.string x, .int .i64 n]) ∧ Below w1.heap.size w1 w') := Lib.hid (fun w1 => by
      have := rloose_any s w1 (by omega); unfold LooseS at this; rwa [hx, hn] at this)
    clear hx hn
    go_enter Tryd.func5, Tryd.ntmps5
    go_wp2_with (first
      | (go_at_call 25; refine (P1.out _ HG.out).mono ?_; rintro e w1 ⟨rfl, hb1⟩; have HB1 := Lib.hid hb1; clear hb1)
      | (go_at_call 26; refine (P2.out _).mono ?_; rintro e w2 ⟨rfl, hb2⟩; have HB2 : Hid (Below w.heap.size w w2) := Lib.hid (below_call HB1.out hb2); clear hb2)
      | (go_at_call 9; refine (wakes_any _ (HG.out.below' HB2.out)).mono ?_; rintro e w4 ⟨rfl, hb4⟩; have HB4 : Hid (Below w.heap.size w w4) := Lib.hid (below_call HB2.out hb4); clear hb4))
    go_ret
    exact ⟨rfl, HB4.out⟩
theorem Ints.form {w : World} {v : Value} {xs : List Int} (h : Ints w v xs) : ∃ p cap, v = .slice p xs.length cap := by
  rcases h with ⟨rfl, p, cap, rfl⟩ | ⟨b, off, cap, rfl, _⟩
  · exact ⟨p, cap, rfl⟩
  · exact ⟨_, cap, rfl⟩
theorem ok_or_len (l : List UInt8) (b : Bool) (h : okB l = b) : (if b = true then scl l else []).length ≤ l.length := by
  cases b with
  | false => simp
  | true =>
    obtain ⟨h1, h2⟩ := ok_back _ l (Nat.le_refl _) h
    rw [if_pos rfl]
    have : ∀ xs : List Int, allB xs = true → xs.length ≤ (encs xs).length := by
      intro xs
      induction xs with
      | nil => simp
      | cons x xs ih =>
        intro hx
        obtain ⟨a, b⟩ := (allB_cons x xs).1 hx
        rw [encs_cons]
        have := enc_pos a
        have := ih b
        simp only [List.length_append, List.length_cons]
        omega
    have := this _ h1
    rwa [h2] at this
set_option maxRecDepth 100000 in
set_option maxHeartbeats 2000000 in
theorem scalars_walk (s : ByteArray) (v : Value) (xs : List Int) (w : World) (hg : Gl w) (hs : s.size ≤ maxLen) (hI : Ints w v xs) (hxl : xs.length ≤ maxLen) : Calls Tryd.prog 4 #[.string s, v] w fun e w' => RetB true w e w' := by
  have HG := Lib.hid hg
  have HI := Lib.hid hI
  obtain ⟨p, cap, rfl⟩ := hI.form
  clear hg hI
  unfold maxLen at hs hxl
  obtain ⟨N, HN⟩ : ∃ N, Hid (xs.length = N) := ⟨_, Lib.hid rfl⟩
  rw [HN.out] at hxl
  have HI2 : Hid (Ints w (.slice p N cap) xs) := Lib.hid (by rw [← HN.out]; exact HI.out)
  rw [HN.out]
  clear HI
  by_cases hlt : s.size ≤ 4000
  rotate_left 1
  · have hgt : 4000 < s.size := by omega
    have hd : decide ((4000 : Int) < (s.size : Int)) = true := by simp; omega
    clear hlt
    go_enter Tryd.func4, Tryd.ntmps4
    go_wp2_with (go_at_call 9; refine (wakes_any _ HG.out).mono ?_; rintro e w1 ⟨rfl, hb1⟩; have HB1 := Lib.hid hb1; clear hb1)
    go_ret
    exact ⟨rfl, HB1.out⟩
  have hd0 : decide ((4000 : Int) < (s.size : Int)) = false := by simp; omega
  by_cases hlt2 : N ≤ 1000
  rotate_left 1
  · have hgt : 1000 < N := by omega
    have hd : decide ((1000 : Int) < (N : Int)) = true := by simp; omega
    clear hlt2
    go_enter Tryd.func4, Tryd.ntmps4
    go_wp2_with (go_at_call 9; refine (wakes_any _ HG.out).mono ?_; rintro e w1 ⟨rfl, hb1⟩; have HB1 := Lib.hid hb1; clear hb1)
    go_ret
    exact ⟨rfl, HB1.out⟩
  · obtain ⟨x, hx⟩ : ∃ x, str (if allB xs = true then encs xs else []) = x := ⟨_, rfl⟩
    obtain ⟨b, hb⟩ : ∃ b, allB xs = b := ⟨_, rfl⟩
    obtain ⟨ys, hy⟩ : ∃ ys, (if okB s.data.toList = true then scl s.data.toList else []) = ys := ⟨_, rfl⟩
    obtain ⟨c, hc⟩ : ∃ b, okB s.data.toList = b := ⟨_, rfl⟩
    have hyl : ys.length ≤ 4000 := by
      have := ok_or_len _ _ hc
      rw [← hc, hy] at this
      have e : s.data.toList.length = s.size := by simp
      omega
    have P1 : Hid (∀ w1, Gl w1 → Calls Tryd.prog 18 #[.string s] w1 fun e w' => ∃ u, e = .returned (.tuple #[u, .bool c]) ∧ OwnI w' w1.heap.size u ys ∧ Below w1.heap.size w1 w') := Lib.hid (fun w1 h => by
      have := scal_any s w1 h (by omega); unfold ScalS at this; rwa [hy, hc] at this)
    have P2 : Hid (∀ w1, Calls Tryd.prog 19 #[.string s] w1 fun e w' => ∃ u, e = .returned (.tuple #[u, .bool c]) ∧ OwnI w' w1.heap.size u ys ∧ Below w1.heap.size w1 w') := Lib.hid (fun w1 => by
      have := rscal_any s w1 (by omega); unfold ScalS at this; rwa [hy, hc] at this)
    have T1 : Hid (∀ w1, Gl w1 → Below w.heap.size w w1 → Calls Tryd.prog 20 #[.slice p N cap] w1 fun e w' => e = .returned (.tuple #[.string x, .bool b]) ∧ Below w1.heap.size w1 w') := Lib.hid (fun w1 h hbl => by
      have := text_any _ xs w1 h (HI2.out.below hbl) (by rw [HN.out]; omega); unfold TextS at this; rwa [hx, hb] at this)
    have T2 : Hid (∀ w1, Below w.heap.size w w1 → Calls Tryd.prog 21 #[.slice p N cap] w1 fun e w' => e = .returned (.tuple #[.string x, .bool b]) ∧ Below w1.heap.size w1 w') := Lib.hid (fun w1 hbl => by
      have := rtext_any _ xs w1 (HI2.out.below hbl) (by rw [HN.out]; omega); unfold TextS at this; rwa [hx, hb] at this)
    have V1 : Hid (∀ w1, Gl w1 → Calls Tryd.prog 23 #[.string s] w1 fun e w' => RetB c w1 e w') := Lib.hid (fun w1 h => by
      have := valid_any s w1 h (by omega); rwa [hc] at this)
    have V2 : Hid (∀ w1, Calls Tryd.prog 24 #[.string s] w1 fun e w' => RetB c w1 e w') := Lib.hid (fun w1 => by
      have := rvalid_any s w1 (by omega); rwa [hc] at this)
    clear hx hb hy hc HI2 HN
    go_enter Tryd.func4, Tryd.ntmps4
    go_wp2_with (first
      | (go_at_call 18; refine (P1.out _ HG.out).mono ?_; rintro e w1 ⟨u1, rfl, ho1, hb1⟩; have HB1 := Lib.hid hb1; have HO1 := Lib.hid (ints_of_own ho1); obtain ⟨p1, cap1, rfl⟩ := (ints_of_own ho1).form; clear hb1 ho1)
      | (go_at_call 19; refine (P2.out _).mono ?_; rintro e w2 ⟨u2, rfl, ho2, hb2⟩; have HB2 : Hid (Below w.heap.size w w2) := Lib.hid (below_call HB1.out hb2); have HO2 := Lib.hid (ints_of_own ho2); have HO12 := Lib.hid (HO1.out.below hb2); obtain ⟨p2, cap2, rfl⟩ := (ints_of_own ho2).form; clear hb2 ho2)
      | (go_at_call 20; refine (T1.out _ (HG.out.below' HB2.out) HB2.out).mono ?_; rintro e w3 ⟨rfl, hb3⟩; have HB3 : Hid (Below w.heap.size w w3) := Lib.hid (below_call HB2.out hb3); have HO13 := Lib.hid (HO12.out.below hb3); have HO23 := Lib.hid (HO2.out.below hb3); clear hb3)
      | (go_at_call 21; refine (T2.out _ HB3.out).mono ?_; rintro e w4 ⟨rfl, hb4⟩; have HB4 : Hid (Below w.heap.size w w4) := Lib.hid (below_call HB3.out hb4); have HO14 := Lib.hid (HO13.out.below hb4); have HO24 := Lib.hid (HO23.out.below hb4); clear hb4)
      | (go_at_call 22; refine (same_any _ _ ys ys _ HO14.out HO24.out (by omega) (by omega)).mono ?_; rintro e w5 ⟨he, hb5⟩; rw [decide_eq_true (rfl : ys = ys)] at he; subst he; have HB5 : Hid (Below w.heap.size w w5) := Lib.hid (below_call HB4.out hb5); clear hb5)
      | (go_at_call 23; refine (V1.out _ (HG.out.below' HB5.out)).mono ?_; rintro e w6 ⟨rfl, hb6⟩; have HB6 : Hid (Below w.heap.size w w6) := Lib.hid (below_call HB5.out hb6); clear hb6)
      | (go_at_call 24; refine (V2.out _).mono ?_; rintro e w7 ⟨rfl, hb7⟩; have HB7 : Hid (Below w.heap.size w w7) := Lib.hid (below_call HB6.out hb7); clear hb7)
      | (go_at_call 9; refine (wakes_any _ (HG.out.below' HB7.out)).mono ?_; rintro e w8 ⟨rfl, hb8⟩; have HB8 : Hid (Below w.heap.size w w8) := Lib.hid (below_call HB7.out hb8); clear hb8))
    go_ret
    exact ⟨rfl, HB8.out⟩
end Go.Proofs.YtdojejkbcogjfaaDoor
