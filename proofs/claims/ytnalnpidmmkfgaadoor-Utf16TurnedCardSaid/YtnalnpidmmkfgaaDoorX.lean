/- The walks of the laws of layer 3. -/
import Derived.Test.YtnalnpidmmkfgaaDoorW
import Derived.Lib.SmallJoins
import Derived.Deep.Slices
import Derived.ChangeSame
import Derived.ChangeVars
import Derived.LaidMore
import Derived.Stop.Joined
import Derived.Deep.RegionLaw
import Derived.Deep.AppendLies
namespace Go.Proofs.YtnalnpidmmkfgaaDoor
open Go.RowKit
set_option linter.unusedVariables false
set_option linter.unusedSimpArgs false
theorem ns16_enc : ∀ {xs : List Int}, allB xs = true → ns16 xs ≤ (encs xs).length
  | [], _ => by simp [ns16]
  | x :: xs, h => by
    obtain ⟨h1, h2⟩ := (allB_cons x xs).1 h
    have h3 := ns16_enc h2
    rw [encs_cons, List.length_append]
    have h4 : n16 x ≤ (enc x).length := by
      by_cases hx : x < 65536
      · rw [n16_1 hx]; exact enc_pos h1
      · rw [n16_2 (by omega), enc4 h1 (by omega)]; simp
    simp only [ns16]
    omega
theorem es16_ok_len (big : Bool) {l : List UInt8} (h : okB l = true) : (es16 big (scl l)).length ≤ 2 * l.length := by
  obtain ⟨h1, h2⟩ := ok_back _ l (Nat.le_refl _) h
  have := ns16_enc h1
  rw [h2] at this
  rw [es16_len]; omega
theorem b16_len (big : Bool) (l : List UInt8) : (b16 big l).length ≤ l.length := bds_few big _ l 0 (Nat.le_refl _)
theorem t16_len (big : Bool) (l : List UInt8) : (t16 big l).length ≤ 4 * l.length := by
  unfold t16
  have := encs_len (x16 big l)
  have := t16_few big _ l (Nat.le_refl _)
  omega
theorem ba_len (s : ByteArray) : s.data.toList.length = s.size := by simp
theorem str_app (xs ys : List UInt8) : str (xs ++ ys) = str xs ++ str ys := by
  apply ByteArray.ext
  simp [str]
theorem app_list (a b : ByteArray) : (a ++ b).data.toList = a.data.toList ++ b.data.toList := by simp
/-- What Decode leaves, the places told by their number alone. -/
theorem decode_n (s : ByteArray) (big : Bool) (w : World) (hg : Gl w) (hs : s.size ≤ 10000) : Calls Tryd.prog 9 #[.string s, .bool big] w fun e w' =>
    (∃ p cap, e = .returned (.tuple #[.string (str (t16 big s.data.toList)), .slice p (b16 big s.data.toList).length cap])) ∧ Below w.heap.size w w' := by
  refine (decode_any s big w hg hs).mono ?_
  rintro e w' ⟨v, he, ho, hb⟩
  obtain ⟨p, cap, rfl⟩ := own_form ho
  exact ⟨⟨p, cap, he⟩, hb⟩
/-- What Decode leaves, the places told as they read. -/
theorem decode_i (s : ByteArray) (big : Bool) (w : World) (hg : Gl w) (hs : s.size ≤ 10000) : Calls Tryd.prog 9 #[.string s, .bool big] w fun e w' =>
    (∃ p cap, e = .returned (.tuple #[.string (str (t16 big s.data.toList)), .slice p (b16 big s.data.toList).length cap]) ∧ Ints w' (.slice p (b16 big s.data.toList).length cap) (b16 big s.data.toList)) ∧ Below w.heap.size w w' := by
  refine (decode_any s big w hg hs).mono ?_
  rintro e w' ⟨v, he, ho, hb⟩
  obtain ⟨p, cap, rfl⟩ := own_form ho
  exact ⟨⟨p, cap, he, ints_of_own ho⟩, hb⟩
theorem rdecode_i (s : ByteArray) (big : Bool) (w : World) (hs : s.size ≤ 10000) : Calls Tryd.prog 10 #[.string s, .bool big] w fun e w' =>
    (∃ p cap, e = .returned (.tuple #[.string (str (t16 big s.data.toList)), .slice p (b16 big s.data.toList).length cap]) ∧ Ints w' (.slice p (b16 big s.data.toList).length cap) (b16 big s.data.toList)) ∧ Below w.heap.size w w' := by
  refine (rdecode_any s big w hs).mono ?_
  rintro e w' ⟨v, he, ho, hb⟩
  obtain ⟨p, cap, rfl⟩ := own_form ho
  exact ⟨⟨p, cap, he, ints_of_own ho⟩, hb⟩
theorem same_yes (v u : Value) (xs : List Int) (w : World) (hI : Ints w v xs) (hJ : Ints w u xs) (hx : xs.length ≤ 100000) : Calls Tryd.prog 13 #[v, u] w fun e w' => RetB true w e w' := by
  refine (same_any v u xs xs w hI hJ hx hx).mono ?_
  rintro e w' ⟨he, hb⟩
  rw [decide_eq_true (rfl : xs = xs)] at he
  exact ⟨he, hb⟩
theorem tE3 (s t : ByteArray) (big : Bool) (hlt : s.size ≤ 2000) (hlt2 : t.size ≤ 2000) (hoks : okB s.data.toList = true) (hokt : okB t.data.toList = true) (w1 : World) (h : Gl w1) :
  Calls Tryd.prog 11 #[.string (s ++ t), .bool big] w1 fun e w' => e = .returned (.tuple #[.string (str (es16 big (scl s.data.toList)) ++ str (es16 big (scl t.data.toList))), .int .i64 0]) ∧ Below w1.heap.size w1 w' := by
  obtain ⟨k1, k2⟩ := ok_app hoks hokt
  have hll : (s ++ t).data.toList = s.data.toList ++ t.data.toList := app_list s t
  have hsz : (s ++ t).size = s.size + t.size := by simp
  have := encode_any (s ++ t) big w1 h (by omega)
  unfold Enc16S at this
  rw [hll, k1, k2, if_pos rfl, if_pos rfl, es16_app, str_app] at this
  exact this
theorem tD (s t : ByteArray) (big : Bool) (hlt : s.size ≤ 2000) (hlt2 : t.size ≤ 2000) (hoks : okB s.data.toList = true) (hokt : okB t.data.toList = true) (w1 : World) (h : Gl w1) :
   Calls Tryd.prog 9 #[.string (str (es16 big (scl s.data.toList)) ++ str (es16 big (scl t.data.toList))), .bool big] w1 fun e w' => (∃ p cap, e = .returned (.tuple #[.string (s ++ t), .slice p 0 cap])) ∧ Below w1.heap.size w1 w' := by
  obtain ⟨k1, k2⟩ := ok_app hoks hokt
  have hll : (s ++ t).data.toList = s.data.toList ++ t.data.toList := app_list s t
  have h1 := es16_ok_len big hoks
  have h2 := es16_ok_len big hokt
  rw [ba_len] at h1 h2
  have := decode_n (str (es16 big (scl s.data.toList)) ++ str (es16 big (scl t.data.toList))) big w1 h (by rw [← str_app, str_size, List.length_append]; omega)
  rw [← str_app, str_list, ← es16_app, ← k2, (t16_of k1).1, (t16_of k1).2.1, ← hll, str_eta] at this
  rw [← str_app, ← es16_app, ← k2, ← hll]
  exact this
set_option maxRecDepth 100000 in
set_option maxHeartbeats 2000000 in
theorem tells_walk (s t : ByteArray) (big : Bool) (w : World) (hg : Gl w) (hs : s.size ≤ maxLen) (ht : t.size ≤ maxLen) : Calls Tryd.prog 3 #[.string s, .string t, .bool big] w fun e w' => RetB true w e w' := by
  have HG := Lib.hid hg
  clear hg
  unfold maxLen at hs ht
  by_cases hlt : s.size ≤ 2000
  rotate_left 1
  · have hd : decide ((2000 : Int) < (s.size : Int)) = true := by simp; omega
    clear hlt
    go_enter Tryd.func3, Tryd.ntmps3
    go_wp2_with (go_at_call 8; refine (wakes_any _ HG.out).mono ?_; rintro e w1 ⟨rfl, hb1⟩; have HB1 := Lib.hid hb1; clear hb1)
    go_ret
    exact ⟨rfl, HB1.out⟩
  have hd : decide ((2000 : Int) < (s.size : Int)) = false := by simp; omega
  by_cases hlt2 : t.size ≤ 2000
  rotate_left 1
  · have hd2 : decide ((2000 : Int) < (t.size : Int)) = true := by simp; omega
    clear hlt2
    go_enter Tryd.func3, Tryd.ntmps3
    go_wp2_with (go_at_call 8; refine (wakes_any _ HG.out).mono ?_; rintro e w1 ⟨rfl, hb1⟩; have HB1 := Lib.hid hb1; clear hb1)
    go_ret
    exact ⟨rfl, HB1.out⟩
  have hd2 : decide ((2000 : Int) < (t.size : Int)) = false := by simp; omega
  have hD1 := fun w1 (h : Gl w1) => decode_i s big w1 h (by omega)
  have hD2 := fun w1 => rdecode_i s big w1 (by omega)
  have hE1 := fun w1 (h : Gl w1) => encode_any t big w1 h (by omega)
  have hE2 := fun w1 => renc_any t big w1 (by omega)
  have hV1 := fun w1 (h : Gl w1) => valid16_any s big w1 h (by omega)
  have hV2 := fun w1 => rvalid16_any s big w1 (by omega)
  have hU1 := fun w1 (h : Gl w1) => units_any t w1 h (by omega)
  have hU2 := fun w1 => runits_any t w1 (by omega)
  have hbl := b16_len big s.data.toList
  rw [ba_len] at hbl
  unfold Enc16S at hE1 hE2
  obtain ⟨x, hx⟩ : ∃ x, str (t16 big s.data.toList) = x := ⟨_, rfl⟩
  obtain ⟨ys, hys⟩ : ∃ ys, b16 big s.data.toList = ys := ⟨_, rfl⟩
  obtain ⟨m, hm⟩ : ∃ m, ys.length = m := ⟨_, rfl⟩
  obtain ⟨z, hz⟩ : ∃ z, str (if okB t.data.toList = true then es16 big (scl t.data.toList) else []) = z := ⟨_, rfl⟩
  obtain ⟨c, hc⟩ : ∃ c : Int, (if okB t.data.toList = true then 0 else 70) = c := ⟨_, rfl⟩
  obtain ⟨v, hv⟩ : ∃ v, ok16 big s.data.toList = v := ⟨_, rfl⟩
  obtain ⟨n, hn⟩ : ∃ n : Int, (if okB t.data.toList = true then (ns16 (scl t.data.toList) : Int) else 0) = n := ⟨_, rfl⟩
  simp only [hx, hys, hm] at hD1 hD2 hbl
  simp only [hz, hc] at hE1 hE2
  simp only [hv] at hV1 hV2
  simp only [hn] at hU1 hU2
  have HM : Hid (ys.length ≤ 100000) := Lib.hid (by omega)
  have D1 := Lib.hid hD1
  have D2 := Lib.hid hD2
  have E1 := Lib.hid hE1
  have E2 := Lib.hid hE2
  have V1 := Lib.hid hV1
  have V2 := Lib.hid hV2
  have U1 := Lib.hid hU1
  have U2 := Lib.hid hU2
  clear hD1 hD2 hE1 hE2 hV1 hV2 hU1 hU2 hx hys hm hz hc hv hn hbl
  go_enter Tryd.func3, Tryd.ntmps3
  go_wp2_with (first
    | (go_at_call 9; refine (D1.out _ HG.out).mono ?_; rintro e w1 ⟨⟨p1, cap1, rfl, hi1⟩, hb1⟩; have HB1 := Lib.hid hb1; have HI1 := Lib.hid hi1; clear hb1 hi1 D1)
    | (go_at_call 10; refine (D2.out _).mono ?_; rintro e w2 ⟨⟨p2, cap2, rfl, hi2⟩, hb2⟩; have HB2 : Hid (Below w.heap.size w w2) := Lib.hid (below_call HB1.out hb2); have HI2 := Lib.hid hi2; have HI12 := Lib.hid (HI1.out.below hb2); clear hb2 hi2 D2)
    | (go_at_call 11; refine (E1.out _ (HG.out.below' HB2.out)).mono ?_; rintro e w3 ⟨rfl, hb3⟩; have HB3 : Hid (Below w.heap.size w w3) := Lib.hid (below_call HB2.out hb3); have HI13 := Lib.hid (HI12.out.below hb3); have HI23 := Lib.hid (HI2.out.below hb3); clear hb3 E1)
    | (go_at_call 12; refine (E2.out _).mono ?_; rintro e w4 ⟨rfl, hb4⟩; have HB4 : Hid (Below w.heap.size w w4) := Lib.hid (below_call HB3.out hb4); have HI14 := Lib.hid (HI13.out.below hb4); have HI24 := Lib.hid (HI23.out.below hb4); clear hb4 E2)
    | (go_at_call 13; refine (same_yes _ _ ys _ HI14.out HI24.out HM.out).mono ?_; rintro e w5 ⟨rfl, hb5⟩; have HB5 : Hid (Below w.heap.size w w5) := Lib.hid (below_call HB4.out hb5); clear hb5)
    | (go_at_call 14; refine (V1.out _ (HG.out.below' HB5.out)).mono ?_; rintro e w6 ⟨rfl, hb6⟩; have HB6 : Hid (Below w.heap.size w w6) := Lib.hid (below_call HB5.out hb6); clear hb6)
    | (go_at_call 15; refine (V2.out _).mono ?_; rintro e w7 ⟨rfl, hb7⟩; have HB7 : Hid (Below w.heap.size w w7) := Lib.hid (below_call HB6.out hb7); clear hb7)
    | (go_at_call 16; refine (U1.out _ (HG.out.below' HB7.out)).mono ?_; rintro e w8 ⟨rfl, hb8⟩; have HB8 : Hid (Below w.heap.size w w8) := Lib.hid (below_call HB7.out hb8); clear hb8)
    | (go_at_call 17; refine (U2.out _).mono ?_; rintro e w9 ⟨rfl, hb9⟩; have HB9 : Hid (Below w.heap.size w w9) := Lib.hid (below_call HB8.out hb9); clear hb9)
    | (go_at_call 8; refine (wakes_any _ (HG.out.below' HB9.out)).mono ?_; rintro e w10 ⟨rfl, hb10⟩; have HB10 : Hid (Below w.heap.size w w10) := Lib.hid (below_call HB9.out hb10); clear hb10))
  go_ret
  exact ⟨rfl, HB10.out⟩
set_option maxRecDepth 100000 in
set_option maxHeartbeats 2000000 in
theorem joined_walk (s t : ByteArray) (big : Bool) (w : World) (hg : Gl w) (hs : s.size ≤ maxLen) (ht : t.size ≤ maxLen) : Calls Tryd.prog 6 #[.string s, .string t, .bool big] w fun e w' => RetB true w e w' := by
  have HG := Lib.hid hg
  have HB0 : Hid (Below w.heap.size w w) := Lib.hid (Below.refl _ _)
  have WK : Hid (∀ w1, Gl w1 → Calls Tryd.prog 8 #[] w1 fun e w' => RetB true w1 e w') := Lib.hid (fun w1 h => wakes_any w1 h)
  clear hg
  unfold maxLen at hs ht
  by_cases hlt : s.size ≤ 2000
  rotate_left 1
  · have hd : decide ((2000 : Int) < (s.size : Int)) = true := by simp; omega
    clear hlt
    go_enter Tryd.func6, Tryd.ntmps6
    go_wp2_with (go_at_call 8; refine (wakes_any _ HG.out).mono ?_; rintro e w1 ⟨rfl, hb1⟩; have HB1 := Lib.hid hb1; clear hb1)
    go_ret
    exact ⟨rfl, HB1.out⟩
  have hd : decide ((2000 : Int) < (s.size : Int)) = false := by simp; omega
  by_cases hlt2 : t.size ≤ 2000
  rotate_left 1
  · have hd2 : decide ((2000 : Int) < (t.size : Int)) = true := by simp; omega
    clear hlt2
    go_enter Tryd.func6, Tryd.ntmps6
    go_wp2_with (go_at_call 8; refine (wakes_any _ HG.out).mono ?_; rintro e w1 ⟨rfl, hb1⟩; have HB1 := Lib.hid hb1; clear hb1)
    go_ret
    exact ⟨rfl, HB1.out⟩
  have hd2 : decide ((2000 : Int) < (t.size : Int)) = false := by simp; omega
  have hE1 := fun w1 (h : Gl w1) => encode_any s big w1 h (by omega)
  have hE2 := fun w1 (h : Gl w1) => encode_any t big w1 h (by omega)
  unfold Enc16S at hE1 hE2
  cases hoks : okB s.data.toList
  · simp only [hoks, reduceIte, Bool.false_eq_true] at hE1
    obtain ⟨z, hz⟩ : ∃ z, str (if okB t.data.toList = true then es16 big (scl t.data.toList) else []) = z := ⟨_, rfl⟩
    obtain ⟨c, hc⟩ : ∃ c : Int, (if okB t.data.toList = true then 0 else 70) = c := ⟨_, rfl⟩
    simp only [hz, hc] at hE2
    have E1 := Lib.hid hE1
    have E2 := Lib.hid hE2
    clear hE1 hE2 hz hc hoks
    go_enter Tryd.func6, Tryd.ntmps6
    go_wp2_with (first
      | (go_at_call 11; refine (E1.out _ (HG.out.below' HB0.out)).mono ?_; rintro e w1 ⟨rfl, hb1⟩; have HB1 : Hid (Below w.heap.size w w1) := Lib.hid (below_call HB0.out hb1); clear hb1 E1)
      | (go_at_call 11; refine (E2.out _ (HG.out.below' HB1.out)).mono ?_; rintro e w2 ⟨rfl, hb2⟩; have HB2 : Hid (Below w.heap.size w w2) := Lib.hid (below_call HB1.out hb2); clear hb2 E2)
      | (go_at_call 8; refine (WK.out _ (HG.out.below' HB2.out)).mono ?_; rintro e w3 ⟨rfl, hb3⟩; have HB3 : Hid (Below w.heap.size w w3) := Lib.hid (below_call HB2.out hb3); clear hb3 ))
    go_ret
    exact ⟨rfl, HB3.out⟩
  simp only [hoks, reduceIte] at hE1
  cases hokt : okB t.data.toList
  · simp only [hokt, reduceIte, Bool.false_eq_true] at hE2
    obtain ⟨z, hz⟩ : ∃ z, str (es16 big (scl s.data.toList)) = z := ⟨_, rfl⟩
    simp only [hz] at hE1
    have E1 := Lib.hid hE1
    have E2 := Lib.hid hE2
    clear hE1 hE2 hz hoks hokt
    go_enter Tryd.func6, Tryd.ntmps6
    go_wp2_with (first
      | (go_at_call 11; refine (E1.out _ (HG.out.below' HB0.out)).mono ?_; rintro e w1 ⟨rfl, hb1⟩; have HB1 : Hid (Below w.heap.size w w1) := Lib.hid (below_call HB0.out hb1); clear hb1 E1)
      | (go_at_call 11; refine (E2.out _ (HG.out.below' HB1.out)).mono ?_; rintro e w2 ⟨rfl, hb2⟩; have HB2 : Hid (Below w.heap.size w w2) := Lib.hid (below_call HB1.out hb2); clear hb2 E2)
      | (go_at_call 8; refine (WK.out _ (HG.out.below' HB2.out)).mono ?_; rintro e w3 ⟨rfl, hb3⟩; have HB3 : Hid (Below w.heap.size w w3) := Lib.hid (below_call HB2.out hb3); clear hb3 ))
    go_ret
    exact ⟨rfl, HB3.out⟩
  simp only [hokt, reduceIte] at hE2
  obtain ⟨k1, k2⟩ := ok_app hoks hokt
  have hll : (s ++ t).data.toList = s.data.toList ++ t.data.toList := app_list s t
  have hsz : (s ++ t).size = s.size + t.size := by simp
  have hE3 := fun w1 (h : Gl w1) => tE3 s t big hlt hlt2 hoks hokt w1 h
  have hD := fun w1 (h : Gl w1) => tD s t big hlt hlt2 hoks hokt w1 h
  obtain ⟨x, hx⟩ : ∃ z, str (es16 big (scl s.data.toList)) = z := ⟨_, rfl⟩
  obtain ⟨y, hy⟩ : ∃ z, str (es16 big (scl t.data.toList)) = z := ⟨_, rfl⟩
  have hxl : x.size ≤ 4000 := by have := es16_ok_len big hoks; rw [← hx, str_size]; rw [ba_len] at this; omega
  have hyl : y.size ≤ 4000 := by have := es16_ok_len big hokt; rw [← hy, str_size]; rw [ba_len] at this; omega
  simp only [hx, hy] at hE1 hE2 hE3 hD
  have E1 := Lib.hid hE1
  have E2 := Lib.hid hE2
  have E3 := Lib.hid hE3
  have D1 := Lib.hid hD
  clear hE1 hE2 hE3 hD hx hy hoks hokt k1 k2 hll
  go_enter Tryd.func6, Tryd.ntmps6
  go_wp2_with (first
    | (go_at_call 11; refine (E1.out _ (HG.out.below' HB0.out)).mono ?_; rintro e w1 ⟨rfl, hb1⟩; have HB1 : Hid (Below w.heap.size w w1) := Lib.hid (below_call HB0.out hb1); clear hb1 E1)
    | (go_at_call 11; refine (E2.out _ (HG.out.below' HB1.out)).mono ?_; rintro e w2 ⟨rfl, hb2⟩; have HB2 : Hid (Below w.heap.size w w2) := Lib.hid (below_call HB1.out hb2); clear hb2 E2)
    | (go_at_call 11; refine (E3.out _ (HG.out.below' HB2.out)).mono ?_; rintro e w3 ⟨rfl, hb3⟩; have HB3 : Hid (Below w.heap.size w w3) := Lib.hid (below_call HB2.out hb3); clear hb3 E3)
    | (go_at_call 9; refine (D1.out _ (HG.out.below' HB3.out)).mono ?_; rintro e w4 ⟨⟨p4, cap4, rfl⟩, hb4⟩; have HB4 : Hid (Below w.heap.size w w4) := Lib.hid (below_call HB3.out hb4); clear hb4 )
    | (go_at_call 8; refine (WK.out _ (HG.out.below' HB4.out)).mono ?_; rintro e w5 ⟨rfl, hb5⟩; have HB5 : Hid (Below w.heap.size w w5) := Lib.hid (below_call HB4.out hb5); clear hb5 ))
  go_ret
  exact ⟨rfl, HB5.out⟩
set_option maxRecDepth 100000 in
set_option maxHeartbeats 2000000 in
theorem units_walk (s t : ByteArray) (w : World) (hg : Gl w) (hs : s.size ≤ maxLen) (ht : t.size ≤ maxLen) : Calls Tryd.prog 7 #[.string s, .string t] w fun e w' => RetB true w e w' := by
  have HG := Lib.hid hg
  have HB0 : Hid (Below w.heap.size w w) := Lib.hid (Below.refl _ _)
  have WK : Hid (∀ w1, Gl w1 → Calls Tryd.prog 8 #[] w1 fun e w' => RetB true w1 e w') := Lib.hid (fun w1 h => wakes_any w1 h)
  clear hg
  unfold maxLen at hs ht
  by_cases hlt : s.size ≤ 2000
  rotate_left 1
  · have hd : decide ((2000 : Int) < (s.size : Int)) = true := by simp; omega
    clear hlt
    go_enter Tryd.func7, Tryd.ntmps7
    go_wp2_with (go_at_call 8; refine (wakes_any _ HG.out).mono ?_; rintro e w1 ⟨rfl, hb1⟩; have HB1 := Lib.hid hb1; clear hb1)
    go_ret
    exact ⟨rfl, HB1.out⟩
  have hd : decide ((2000 : Int) < (s.size : Int)) = false := by simp; omega
  by_cases hlt2 : t.size ≤ 2000
  rotate_left 1
  · have hd2 : decide ((2000 : Int) < (t.size : Int)) = true := by simp; omega
    clear hlt2
    go_enter Tryd.func7, Tryd.ntmps7
    go_wp2_with (go_at_call 8; refine (wakes_any _ HG.out).mono ?_; rintro e w1 ⟨rfl, hb1⟩; have HB1 := Lib.hid hb1; clear hb1)
    go_ret
    exact ⟨rfl, HB1.out⟩
  have hd2 : decide ((2000 : Int) < (t.size : Int)) = false := by simp; omega
  have hU1 := fun w1 (h : Gl w1) => units_any s w1 h (by omega)
  have hU2 := fun w1 (h : Gl w1) => units_any t w1 h (by omega)
  have hV1 := fun w1 => rvalid_any s w1 (by omega)
  have hV2 := fun w1 => rvalid_any t w1 (by omega)
  cases hoks : okB s.data.toList
  · simp only [hoks, reduceIte, Bool.false_eq_true] at hU1 hV1
    obtain ⟨v, hv⟩ : ∃ v, okB t.data.toList = v := ⟨_, rfl⟩
    have hU2' : ∀ w1, Gl w1 → Calls Tryd.prog 16 #[.string t] w1 fun e w' => v = false → RetI 0 w1 e w' := fun w1 h => by
      have := hU2 w1 h
      refine this.mono ?_
      intro e w' hr hf
      rw [hv, hf] at hr
      exact hr
    simp only [hv] at hV2
    have U1 := Lib.hid hU1
    have V1 := Lib.hid hV1
    have V1b := Lib.hid hV1
    have V2 := Lib.hid hV2
    cases v
    · have U2 : Hid (∀ w1, Gl w1 → Calls Tryd.prog 16 #[.string t] w1 fun e w' => RetI 0 w1 e w') := Lib.hid (fun w1 h => (hU2' w1 h).mono (fun e w' hr => hr rfl))
      clear hU1 hU2 hU2' hV1 hV2 hv hoks
      go_enter Tryd.func7, Tryd.ntmps7
      go_wp2_with (first
        | (go_at_call 18; refine (V1.out _).mono ?_; rintro e w1 ⟨rfl, hb1⟩; have HB1 : Hid (Below w.heap.size w w1) := Lib.hid (below_call HB0.out hb1); clear hb1 V1)
        | (go_at_call 18; refine (V1b.out _).mono ?_; rintro e w2 ⟨rfl, hb2⟩; have HB2 : Hid (Below w.heap.size w w2) := Lib.hid (below_call HB1.out hb2); clear hb2 V1b)
        | (go_at_call 16; refine (U1.out _ (HG.out.below' HB2.out)).mono ?_; rintro e w3 ⟨rfl, hb3⟩; have HB3 : Hid (Below w.heap.size w w3) := Lib.hid (below_call HB2.out hb3); clear hb3 U1)
        | (go_at_call 18; refine (V2.out _).mono ?_; rintro e w4 ⟨rfl, hb4⟩; have HB4 : Hid (Below w.heap.size w w4) := Lib.hid (below_call HB3.out hb4); clear hb4 V2)
        | (go_at_call 16; refine (U2.out _ (HG.out.below' HB4.out)).mono ?_; rintro e w5 ⟨rfl, hb5⟩; have HB5 : Hid (Below w.heap.size w w5) := Lib.hid (below_call HB4.out hb5); clear hb5 U2)
        | (go_at_call 8; refine (WK.out _ (HG.out.below' HB5.out)).mono ?_; rintro e w6 ⟨rfl, hb6⟩; have HB6 : Hid (Below w.heap.size w w6) := Lib.hid (below_call HB5.out hb6); clear hb6 ))
      go_ret
      exact ⟨rfl, HB6.out⟩
    · clear hU1 hU2 hU2' hV1 hV2 hv hoks
      go_enter Tryd.func7, Tryd.ntmps7
      go_wp2_with (first
        | (go_at_call 18; refine (V1.out _).mono ?_; rintro e w1 ⟨rfl, hb1⟩; have HB1 : Hid (Below w.heap.size w w1) := Lib.hid (below_call HB0.out hb1); clear hb1 V1)
        | (go_at_call 18; refine (V1b.out _).mono ?_; rintro e w2 ⟨rfl, hb2⟩; have HB2 : Hid (Below w.heap.size w w2) := Lib.hid (below_call HB1.out hb2); clear hb2 V1b)
        | (go_at_call 16; refine (U1.out _ (HG.out.below' HB2.out)).mono ?_; rintro e w3 ⟨rfl, hb3⟩; have HB3 : Hid (Below w.heap.size w w3) := Lib.hid (below_call HB2.out hb3); clear hb3 U1)
        | (go_at_call 18; refine (V2.out _).mono ?_; rintro e w4 ⟨rfl, hb4⟩; have HB4 : Hid (Below w.heap.size w w4) := Lib.hid (below_call HB3.out hb4); clear hb4 V2)
        | (go_at_call 8; refine (WK.out _ (HG.out.below' HB4.out)).mono ?_; rintro e w5 ⟨rfl, hb5⟩; have HB5 : Hid (Below w.heap.size w w5) := Lib.hid (below_call HB4.out hb5); clear hb5 ))
      go_ret
      exact ⟨rfl, HB5.out⟩
  simp only [hoks, reduceIte] at hU1 hV1
  cases hokt : okB t.data.toList
  · simp only [hokt, reduceIte, Bool.false_eq_true] at hU2 hV2
    have V1 := Lib.hid hV1
    have V1b := Lib.hid hV1
    have V2 := Lib.hid hV2
    have V2b := Lib.hid hV2
    have U2 := Lib.hid hU2
    clear hU1 hU2 hV1 hV2 hoks hokt
    go_enter Tryd.func7, Tryd.ntmps7
    go_wp2_with (first
      | (go_at_call 18; refine (V1.out _).mono ?_; rintro e w1 ⟨rfl, hb1⟩; have HB1 : Hid (Below w.heap.size w w1) := Lib.hid (below_call HB0.out hb1); clear hb1 V1)
      | (go_at_call 18; refine (V2.out _).mono ?_; rintro e w2 ⟨rfl, hb2⟩; have HB2 : Hid (Below w.heap.size w w2) := Lib.hid (below_call HB1.out hb2); clear hb2 V2)
      | (go_at_call 18; refine (V1b.out _).mono ?_; rintro e w3 ⟨rfl, hb3⟩; have HB3 : Hid (Below w.heap.size w w3) := Lib.hid (below_call HB2.out hb3); clear hb3 V1b)
      | (go_at_call 18; refine (V2b.out _).mono ?_; rintro e w4 ⟨rfl, hb4⟩; have HB4 : Hid (Below w.heap.size w w4) := Lib.hid (below_call HB3.out hb4); clear hb4 V2b)
      | (go_at_call 16; refine (U2.out _ (HG.out.below' HB4.out)).mono ?_; rintro e w5 ⟨rfl, hb5⟩; have HB5 : Hid (Below w.heap.size w w5) := Lib.hid (below_call HB4.out hb5); clear hb5 U2)
      | (go_at_call 8; refine (WK.out _ (HG.out.below' HB5.out)).mono ?_; rintro e w6 ⟨rfl, hb6⟩; have HB6 : Hid (Below w.heap.size w w6) := Lib.hid (below_call HB5.out hb6); clear hb6 ))
    go_ret
    exact ⟨rfl, HB6.out⟩
  simp only [hokt, reduceIte] at hU2 hV2
  obtain ⟨k1, k2⟩ := ok_app hoks hokt
  have hll : (s ++ t).data.toList = s.data.toList ++ t.data.toList := app_list s t
  have hsz : (s ++ t).size = s.size + t.size := by simp
  obtain ⟨ys, hys⟩ : ∃ ys, scl s.data.toList = ys := ⟨_, rfl⟩
  have hle := ns16_le ys
  have hle2 := ns16_le (scl t.data.toList)
  have hl1 := ok_or_len _ true hoks
  have hl2 := ok_or_len _ true hokt
  simp only [reduceIte, hys] at hl1 hl2
  rw [ba_len] at hl1 hl2
  have hU3 : ∀ w1, Gl w1 → Calls Tryd.prog 16 #[.string (s ++ t)] w1 fun e w' => RetI ((ns16 ys : Int) + (ns16 (scl t.data.toList) : Int)) w1 e w' := fun w1 h => by
    have := units_any (s ++ t) w1 h (by omega)
    rw [hll, k1, k2, if_pos rfl, ns16_app, hys, Int.natCast_add] at this
    exact this
  have hS : ∀ w1, Calls Tryd.prog 19 #[.string s] w1 fun e w' => (∃ p cap, e = .returned (.tuple #[.slice p ys.length cap, .bool true])) ∧ Below w1.heap.size w1 w' := fun w1 => (rscal_any s w1 (by omega)).mono (by
    rintro e w' ⟨v, he, ho, hb⟩
    rw [hoks, if_pos rfl, hys] at ho
    rw [hoks] at he
    obtain ⟨p, cap, rfl⟩ := own_form ho
    exact ⟨⟨p, cap, he⟩, hb⟩)
  simp only [hys] at hU1
  obtain ⟨a, ha⟩ : ∃ n : Nat, ns16 ys = n := ⟨_, rfl⟩
  obtain ⟨b, hb⟩ : ∃ n : Nat, ns16 (scl t.data.toList) = n := ⟨_, rfl⟩
  obtain ⟨m, hm⟩ : ∃ n : Nat, ys.length = n := ⟨_, rfl⟩
  simp only [ha] at hU1 hU3 hle
  simp only [hb] at hU2 hU3 hle2
  simp only [hm] at hS hle hl1
  have q1 : m ≤ a := by omega
  have q2 : a ≤ 2 * m := by omega
  have q3 : (m : Int) ≤ (a : Int) := by omega
  have q4 : (a : Int) ≤ 2 * (m : Int) := by omega
  have b1 : a ≤ 4000 := by omega
  have b2 : b ≤ 4000 := by omega
  have b3 : m ≤ 2000 := by omega
  have V1 := Lib.hid hV1
  have V2 := Lib.hid hV2
  have U1 := Lib.hid hU1
  have U2 := Lib.hid hU2
  have U3 := Lib.hid hU3
  have S1 := Lib.hid hS
  clear hU1 hU2 hU3 hV1 hV2 hS ha hb hm hys hoks hokt k1 k2 hll hle hle2 hl1 hl2
  go_enter Tryd.func7, Tryd.ntmps7
  go_wp2_with (first
    | (go_at_call 18; refine (V1.out _).mono ?_; rintro e w1 ⟨rfl, hb1⟩; have HB1 : Hid (Below w.heap.size w w1) := Lib.hid (below_call HB0.out hb1); clear hb1 V1)
    | (go_at_call 18; refine (V2.out _).mono ?_; rintro e w2 ⟨rfl, hb2⟩; have HB2 : Hid (Below w.heap.size w w2) := Lib.hid (below_call HB1.out hb2); clear hb2 V2)
    | (go_at_call 19; refine (S1.out _).mono ?_; rintro e w3 ⟨⟨p3, cap3, rfl⟩, hb3⟩; have HB3 : Hid (Below w.heap.size w w3) := Lib.hid (below_call HB2.out hb3); clear hb3 )
    | (go_at_call 16; refine (U1.out _ (HG.out.below' HB3.out)).mono ?_; rintro e w4 ⟨rfl, hb4⟩; have HB4 : Hid (Below w.heap.size w w4) := Lib.hid (below_call HB3.out hb4); clear hb4 U1)
    | (go_at_call 16; refine (U3.out _ (HG.out.below' HB4.out)).mono ?_; rintro e w5 ⟨rfl, hb5⟩; have HB5 : Hid (Below w.heap.size w w5) := Lib.hid (below_call HB4.out hb5); clear hb5 U3)
    | (go_at_call 16; refine (U2.out _ (HG.out.below' HB5.out)).mono ?_; rintro e w6 ⟨rfl, hb6⟩; have HB6 : Hid (Below w.heap.size w w6) := Lib.hid (below_call HB5.out hb6); clear hb6 U2)
    | (go_at_call 8; refine (WK.out _ (HG.out.below' HB6.out)).mono ?_; rintro e w7 ⟨rfl, hb7⟩; have HB7 : Hid (Below w.heap.size w w7) := Lib.hid (below_call HB6.out hb7); clear hb7 ))
  go_ret
  exact ⟨rfl, HB7.out⟩
theorem back_x (t : ByteArray) (big : Bool) (hlt : t.size ≤ 2000) (hok : okB t.data.toList = true) :
    (∀ w1, Gl w1 → Calls Tryd.prog 9 #[.string (str (es16 big (scl t.data.toList))), .bool big] w1 fun e w' => (∃ p cap, e = .returned (.tuple #[.string t, .slice p 0 cap])) ∧ Below w1.heap.size w1 w') ∧
    (∀ w1, Gl w1 → Calls Tryd.prog 14 #[.string (str (es16 big (scl t.data.toList))), .bool big] w1 fun e w' => RetB true w1 e w') ∧
    (str (es16 big (scl t.data.toList))).size = 2 * ns16 (scl t.data.toList) ∧ ns16 (scl t.data.toList) ≤ 2000 := by
  obtain ⟨k1, k2, k3⟩ := t16_of (big := big) hok
  have h1 := es16_ok_len big hok
  rw [ba_len] at h1
  have hz : (str (es16 big (scl t.data.toList))).size ≤ 10000 := by rw [str_size]; omega
  refine ⟨fun w1 h => ?_, fun w1 h => ?_, by rw [str_size, es16_len], by rw [es16_len] at h1; omega⟩
  · have := decode_n _ big w1 h hz
    rw [str_list, k1, k2, str_eta] at this
    exact this
  · have := valid16_any (str (es16 big (scl t.data.toList))) big w1 h (by omega)
    rw [str_list, k3] at this
    exact this
theorem back_z (s : ByteArray) (big : Bool) (hlt : s.size ≤ 2000) :
    (∀ w1, Calls Tryd.prog 18 #[.string (str (t16 big s.data.toList))] w1 fun e w' => RetB true w1 e w') ∧
    (∀ w1, Gl w1 → Calls Tryd.prog 11 #[.string (str (t16 big s.data.toList)), .bool big] w1 fun e w' => e = .returned (.tuple #[.string (str (es16 big (x16 big s.data.toList))), .int .i64 0]) ∧ Below w1.heap.size w1 w') := by
  obtain ⟨k1, k2⟩ := t16_ok big s.data.toList
  have h1 := t16_len big s.data.toList
  rw [ba_len] at h1
  have hz : (str (t16 big s.data.toList)).size ≤ 10000 := by rw [str_size]; omega
  refine ⟨fun w1 => ?_, fun w1 h => ?_⟩
  · have := rvalid_any _ w1 (show (str (t16 big s.data.toList)).size ≤ 100000 by omega)
    rw [str_list, k1] at this
    exact this
  · have := encode_any _ big w1 h hz
    unfold Enc16S at this
    rw [str_list, k1, k2, if_pos rfl, if_pos rfl] at this
    exact this
set_option maxRecDepth 100000 in
set_option maxHeartbeats 2000000 in
theorem back_walk (s t : ByteArray) (big : Bool) (w : World) (hg : Gl w) (hs : s.size ≤ maxLen) (ht : t.size ≤ maxLen) : Calls Tryd.prog 4 #[.string t, .string s, .bool big] w fun e w' => RetB true w e w' := by
  have HG := Lib.hid hg
  have HB0 : Hid (Below w.heap.size w w) := Lib.hid (Below.refl _ _)
  have WK : Hid (∀ w1, Gl w1 → Calls Tryd.prog 8 #[] w1 fun e w' => RetB true w1 e w') := Lib.hid (fun w1 h => wakes_any w1 h)
  clear hg
  unfold maxLen at hs ht
  by_cases hlt : s.size ≤ 2000
  rotate_left 1
  · have hd : decide ((2000 : Int) < (s.size : Int)) = true := by simp; omega
    clear hlt
    go_enter Tryd.func4, Tryd.ntmps4
    go_wp2_with (go_at_call 8; refine (wakes_any _ HG.out).mono ?_; rintro e w1 ⟨rfl, hb1⟩; have HB1 := Lib.hid hb1; clear hb1)
    go_ret
    exact ⟨rfl, HB1.out⟩
  have hd : decide ((2000 : Int) < (s.size : Int)) = false := by simp; omega
  by_cases hlt2 : t.size ≤ 2000
  rotate_left 1
  · have hd2 : decide ((2000 : Int) < (t.size : Int)) = true := by simp; omega
    clear hlt2
    go_enter Tryd.func4, Tryd.ntmps4
    go_wp2_with (go_at_call 8; refine (wakes_any _ HG.out).mono ?_; rintro e w1 ⟨rfl, hb1⟩; have HB1 := Lib.hid hb1; clear hb1)
    go_ret
    exact ⟨rfl, HB1.out⟩
  have hd2 : decide ((2000 : Int) < (t.size : Int)) = false := by simp; omega
  have hE1 := fun w1 (h : Gl w1) => encode_any t big w1 h (by omega)
  have hUt := fun w1 (h : Gl w1) => units_any t w1 h (by omega)
  have hDb := fun w1 (h : Gl w1) => decode_n s big w1 h (by omega)
  have hVb := fun w1 (h : Gl w1) => valid16_any s big w1 h (by omega)
  have hRV := (back_z s big hlt).1
  have hEz := (back_z s big hlt).2
  have hm16 := @b16_nil big s.data.toList
  have hbk := es16_back big _ s.data.toList (Nat.le_refl _)
  have hbl := b16_len big s.data.toList
  rw [ba_len] at hbl
  unfold Enc16S at hE1
  obtain ⟨z, hz⟩ : ∃ z, str (t16 big s.data.toList) = z := ⟨_, rfl⟩
  simp only [hz] at hDb hRV hEz
  cases hv : ok16 big s.data.toList
  · have hmn : (b16 big s.data.toList).length ≠ 0 := fun e => by
      have := hm16.1 (List.eq_nil_of_length_eq_zero e)
      rw [hv] at this; cases this
    obtain ⟨m, hm⟩ : ∃ m, (b16 big s.data.toList).length = m := ⟨_, rfl⟩
    obtain ⟨y, hy⟩ : ∃ y, str (es16 big (x16 big s.data.toList)) = y := ⟨_, rfl⟩
    simp only [hm] at hDb hmn hbl
    simp only [hy] at hEz
    simp only [hv] at hVb
    have hm1 : 0 < m := by omega
    have hm2 : (0 : Int) < (m : Int) := by omega
    have hm3 : ((m : Int) == 0) = false := by simp; omega
    have Ez := Lib.hid hEz
    clear hm hy
    have Db := Lib.hid hDb
    have Vb := Lib.hid hVb
    have RV := Lib.hid hRV
    clear hDb hVb hRV hEz hm16 hbk hz hv hmn hbl
    cases hok : okB t.data.toList
    · simp only [hok, reduceIte, Bool.false_eq_true] at hE1
      have E1 := Lib.hid hE1
      clear hE1 hUt hok
      go_enter Tryd.func4, Tryd.ntmps4
      go_wp2_with (first
        | (go_at_call 11; refine (E1.out _ (HG.out.below' HB0.out)).mono ?_; rintro e w1 ⟨rfl, hb1⟩; have HB1 : Hid (Below w.heap.size w w1) := Lib.hid (below_call HB0.out hb1); clear hb1 E1)
        | (go_at_call 9; refine (Db.out _ (HG.out.below' HB1.out)).mono ?_; rintro e w2 ⟨⟨p2, cap2, rfl⟩, hb2⟩; have HB2 : Hid (Below w.heap.size w w2) := Lib.hid (below_call HB1.out hb2); clear hb2 Db)
        | (go_at_call 14; refine (Vb.out _ (HG.out.below' HB2.out)).mono ?_; rintro e w3 ⟨rfl, hb3⟩; have HB3 : Hid (Below w.heap.size w w3) := Lib.hid (below_call HB2.out hb3); clear hb3 Vb)
        | (go_at_call 18; refine (RV.out _).mono ?_; rintro e w4 ⟨rfl, hb4⟩; have HB4 : Hid (Below w.heap.size w w4) := Lib.hid (below_call HB3.out hb4); clear hb4 )
        | (go_at_call 11; refine (Ez.out _ (HG.out.below' HB4.out)).mono ?_; rintro e w5 ⟨rfl, hb5⟩; have HB5 : Hid (Below w.heap.size w w5) := Lib.hid (below_call HB4.out hb5); clear hb5 Ez)
        | (go_at_call 8; refine (WK.out _ (HG.out.below' HB5.out)).mono ?_; rintro e w6 ⟨rfl, hb6⟩; have HB6 : Hid (Below w.heap.size w w6) := Lib.hid (below_call HB5.out hb6); clear hb6 ))
      go_ret
      exact ⟨rfl, HB6.out⟩
    · simp only [hok, reduceIte] at hE1 hUt
      obtain ⟨hDx, hVx, hq, hn⟩ := back_x t big hlt2 hok
      obtain ⟨x, hx⟩ : ∃ x, str (es16 big (scl t.data.toList)) = x := ⟨_, rfl⟩
      obtain ⟨n, hnn⟩ : ∃ n, ns16 (scl t.data.toList) = n := ⟨_, rfl⟩
      simp only [hx] at hE1 hDx hVx hq
      simp only [hnn] at hUt hq hn
      have hq2 : ((x.size : Int) != 2 * (n : Int)) = false := by simp; omega
      have hq3 : (x.size : Int) = 2 * (n : Int) := by omega
      have E1 := Lib.hid hE1
      have Ut := Lib.hid hUt
      have Dx := Lib.hid hDx
      have Vx := Lib.hid hVx
      clear hE1 hUt hDx hVx hx hnn hok hq
      go_enter Tryd.func4, Tryd.ntmps4
      go_wp2_with (first
        | (go_at_call 11; refine (E1.out _ (HG.out.below' HB0.out)).mono ?_; rintro e w1 ⟨rfl, hb1⟩; have HB1 : Hid (Below w.heap.size w w1) := Lib.hid (below_call HB0.out hb1); clear hb1 E1)
        | (go_at_call 9; refine (Dx.out _ (HG.out.below' HB1.out)).mono ?_; rintro e w2 ⟨⟨p2, cap2, rfl⟩, hb2⟩; have HB2 : Hid (Below w.heap.size w w2) := Lib.hid (below_call HB1.out hb2); clear hb2 Dx)
        | (go_at_call 14; refine (Vx.out _ (HG.out.below' HB2.out)).mono ?_; rintro e w3 ⟨rfl, hb3⟩; have HB3 : Hid (Below w.heap.size w w3) := Lib.hid (below_call HB2.out hb3); clear hb3 Vx)
        | (go_at_call 16; refine (Ut.out _ (HG.out.below' HB3.out)).mono ?_; rintro e w4 ⟨rfl, hb4⟩; have HB4 : Hid (Below w.heap.size w w4) := Lib.hid (below_call HB3.out hb4); clear hb4 Ut)
        | (go_at_call 9; refine (Db.out _ (HG.out.below' HB4.out)).mono ?_; rintro e w5 ⟨⟨p5, cap5, rfl⟩, hb5⟩; have HB5 : Hid (Below w.heap.size w w5) := Lib.hid (below_call HB4.out hb5); clear hb5 Db)
        | (go_at_call 14; refine (Vb.out _ (HG.out.below' HB5.out)).mono ?_; rintro e w6 ⟨rfl, hb6⟩; have HB6 : Hid (Below w.heap.size w w6) := Lib.hid (below_call HB5.out hb6); clear hb6 Vb)
        | (go_at_call 18; refine (RV.out _).mono ?_; rintro e w7 ⟨rfl, hb7⟩; have HB7 : Hid (Below w.heap.size w w7) := Lib.hid (below_call HB6.out hb7); clear hb7 )
        | (go_at_call 11; refine (Ez.out _ (HG.out.below' HB7.out)).mono ?_; rintro e w8 ⟨rfl, hb8⟩; have HB8 : Hid (Below w.heap.size w w8) := Lib.hid (below_call HB7.out hb8); clear hb8 Ez)
        | (go_at_call 8; refine (WK.out _ (HG.out.below' HB8.out)).mono ?_; rintro e w9 ⟨rfl, hb9⟩; have HB9 : Hid (Below w.heap.size w w9) := Lib.hid (below_call HB8.out hb9); clear hb9 ))
      go_ret
      exact ⟨rfl, HB9.out⟩
  · have hm0 : b16 big s.data.toList = [] := hm16.2 hv
    have hEz2 : ∀ w1, Gl w1 → Calls Tryd.prog 11 #[.string z, .bool big] w1 fun e w' => e = .returned (.tuple #[.string s, .int .i64 0]) ∧ Below w1.heap.size w1 w' := fun w1 h => by
      have := hEz w1 h
      rwa [hbk hv, str_eta] at this
    simp only [hm0, List.length_nil] at hDb
    simp only [hv] at hVb
    have Ez := Lib.hid hEz2
    clear hEz2
    have Db := Lib.hid hDb
    have Vb := Lib.hid hVb
    have RV := Lib.hid hRV
    clear hDb hVb hRV hEz hm16 hbk hz hv hm0
    cases hok : okB t.data.toList
    · simp only [hok, reduceIte, Bool.false_eq_true] at hE1
      have E1 := Lib.hid hE1
      clear hE1 hUt hok
      go_enter Tryd.func4, Tryd.ntmps4
      go_wp2_with (first
        | (go_at_call 11; refine (E1.out _ (HG.out.below' HB0.out)).mono ?_; rintro e w1 ⟨rfl, hb1⟩; have HB1 : Hid (Below w.heap.size w w1) := Lib.hid (below_call HB0.out hb1); clear hb1 E1)
        | (go_at_call 9; refine (Db.out _ (HG.out.below' HB1.out)).mono ?_; rintro e w2 ⟨⟨p2, cap2, rfl⟩, hb2⟩; have HB2 : Hid (Below w.heap.size w w2) := Lib.hid (below_call HB1.out hb2); clear hb2 Db)
        | (go_at_call 14; refine (Vb.out _ (HG.out.below' HB2.out)).mono ?_; rintro e w3 ⟨rfl, hb3⟩; have HB3 : Hid (Below w.heap.size w w3) := Lib.hid (below_call HB2.out hb3); clear hb3 Vb)
        | (go_at_call 18; refine (RV.out _).mono ?_; rintro e w4 ⟨rfl, hb4⟩; have HB4 : Hid (Below w.heap.size w w4) := Lib.hid (below_call HB3.out hb4); clear hb4 )
        | (go_at_call 11; refine (Ez.out _ (HG.out.below' HB4.out)).mono ?_; rintro e w5 ⟨rfl, hb5⟩; have HB5 : Hid (Below w.heap.size w w5) := Lib.hid (below_call HB4.out hb5); clear hb5 Ez)
        | (go_at_call 8; refine (WK.out _ (HG.out.below' HB5.out)).mono ?_; rintro e w6 ⟨rfl, hb6⟩; have HB6 : Hid (Below w.heap.size w w6) := Lib.hid (below_call HB5.out hb6); clear hb6 ))
      go_ret
      exact ⟨rfl, HB6.out⟩
    · simp only [hok, reduceIte] at hE1 hUt
      obtain ⟨hDx, hVx, hq, hn⟩ := back_x t big hlt2 hok
      obtain ⟨x, hx⟩ : ∃ x, str (es16 big (scl t.data.toList)) = x := ⟨_, rfl⟩
      obtain ⟨n, hnn⟩ : ∃ n, ns16 (scl t.data.toList) = n := ⟨_, rfl⟩
      simp only [hx] at hE1 hDx hVx hq
      simp only [hnn] at hUt hq hn
      have hq2 : ((x.size : Int) != 2 * (n : Int)) = false := by simp; omega
      have hq3 : (x.size : Int) = 2 * (n : Int) := by omega
      have E1 := Lib.hid hE1
      have Ut := Lib.hid hUt
      have Dx := Lib.hid hDx
      have Vx := Lib.hid hVx
      clear hE1 hUt hDx hVx hx hnn hok hq
      go_enter Tryd.func4, Tryd.ntmps4
      go_wp2_with (first
        | (go_at_call 11; refine (E1.out _ (HG.out.below' HB0.out)).mono ?_; rintro e w1 ⟨rfl, hb1⟩; have HB1 : Hid (Below w.heap.size w w1) := Lib.hid (below_call HB0.out hb1); clear hb1 E1)
        | (go_at_call 9; refine (Dx.out _ (HG.out.below' HB1.out)).mono ?_; rintro e w2 ⟨⟨p2, cap2, rfl⟩, hb2⟩; have HB2 : Hid (Below w.heap.size w w2) := Lib.hid (below_call HB1.out hb2); clear hb2 Dx)
        | (go_at_call 14; refine (Vx.out _ (HG.out.below' HB2.out)).mono ?_; rintro e w3 ⟨rfl, hb3⟩; have HB3 : Hid (Below w.heap.size w w3) := Lib.hid (below_call HB2.out hb3); clear hb3 Vx)
        | (go_at_call 16; refine (Ut.out _ (HG.out.below' HB3.out)).mono ?_; rintro e w4 ⟨rfl, hb4⟩; have HB4 : Hid (Below w.heap.size w w4) := Lib.hid (below_call HB3.out hb4); clear hb4 Ut)
        | (go_at_call 9; refine (Db.out _ (HG.out.below' HB4.out)).mono ?_; rintro e w5 ⟨⟨p5, cap5, rfl⟩, hb5⟩; have HB5 : Hid (Below w.heap.size w w5) := Lib.hid (below_call HB4.out hb5); clear hb5 Db)
        | (go_at_call 14; refine (Vb.out _ (HG.out.below' HB5.out)).mono ?_; rintro e w6 ⟨rfl, hb6⟩; have HB6 : Hid (Below w.heap.size w w6) := Lib.hid (below_call HB5.out hb6); clear hb6 Vb)
        | (go_at_call 18; refine (RV.out _).mono ?_; rintro e w7 ⟨rfl, hb7⟩; have HB7 : Hid (Below w.heap.size w w7) := Lib.hid (below_call HB6.out hb7); clear hb7 )
        | (go_at_call 11; refine (Ez.out _ (HG.out.below' HB7.out)).mono ?_; rintro e w8 ⟨rfl, hb8⟩; have HB8 : Hid (Below w.heap.size w w8) := Lib.hid (below_call HB7.out hb8); clear hb8 Ez)
        | (go_at_call 8; refine (WK.out _ (HG.out.below' HB8.out)).mono ?_; rintro e w9 ⟨rfl, hb9⟩; have HB9 : Hid (Below w.heap.size w w9) := Lib.hid (below_call HB8.out hb9); clear hb9 ))
      go_ret
      exact ⟨rfl, HB9.out⟩
theorem swp_app : ∀ (l : List UInt8) (x y : UInt8), l.length % 2 = 0 → swp (l ++ [x, y]) = swp l ++ [y, x]
  | [], x, y, _ => rfl
  | [_], _, _, h => by simp at h
  | a :: b :: t, x, y, h => by
    simp only [List.cons_append, swp]
    rw [swp_app t x y (by simp at h; omega)]
theorem take_two (s : ByteArray) (a : Nat) (h : a + 1 < s.size) : s.data.toList.take (a + 2) = s.data.toList.take a ++ [s[a], s[a + 1]] := by
  have hl := ba_len s
  rw [List.take_succ_eq_append_getElem (i := a + 1) (by omega), List.take_succ_eq_append_getElem (i := a) (by omega), List.append_assoc]
  rfl
theorem turned_decode (s : ByteArray) (big : Bool) (hs : s.size ≤ 2000) (he : s.size % 2 = 0) (w1 : World) (h : Gl w1) : Calls Tryd.prog 9 #[.string (str (swp s.data.toList)), .bool (!big)] w1 fun e w' =>
    (∃ p cap, e = .returned (.tuple #[.string (str (t16 big s.data.toList)), .slice p (b16 big s.data.toList).length cap]) ∧ Ints w' (.slice p (b16 big s.data.toList).length cap) (b16 big s.data.toList)) ∧ Below w1.heap.size w1 w' := by
  have hl := ba_len s
  obtain ⟨k1, k2⟩ := s16_swp big (l := s.data.toList) (by omega)
  have := decode_i (str (swp s.data.toList)) (!big) w1 h (by rw [str_size, swp_len]; omega)
  rw [str_list, k1, k2] at this
  exact this
set_option maxRecDepth 100000 in
set_option maxHeartbeats 2000000 in
theorem turned_walk (s : ByteArray) (big : Bool) (w : World) (hg : Gl w) (hs : s.size ≤ maxLen) : Calls Tryd.prog 5 #[.string s, .bool big] w fun e w' => RetB true w e w' := by
  obtain ⟨i0, hi, hz0, hz1, hz2⟩ := info_parts info5
  have HG := Lib.hid hg
  have WK : Hid (∀ w1, Gl w1 → Calls Tryd.prog 8 #[] w1 fun e w' => RetB true w1 e w') := Lib.hid (fun w1 h => wakes_any w1 h)
  clear hg
  unfold maxLen at hs
  by_cases hlt : s.size ≤ 2000
  rotate_left 1
  · have hd : decide ((2000 : Int) < (s.size : Int)) = true := by simp; omega
    clear hlt
    go_enter Tryd.func5, Tryd.ntmps5
    go_wp2_with (go_at_call 8; refine (WK.out _ HG.out).mono ?_; rintro e w1 ⟨rfl, hb1⟩; have HB1 := Lib.hid hb1; clear hb1)
    go_ret
    exact ⟨rfl, HB1.out⟩
  have hd : decide ((2000 : Int) < (s.size : Int)) = false := by simp; omega
  by_cases hev : s.size % 2 = 0
  rotate_left 1
  · have hd2 : ((s.size : Int) % 2 != 0) = true := by simp; omega
    go_enter Tryd.func5, Tryd.ntmps5
    go_wp2_with (go_at_call 8; refine (WK.out _ HG.out).mono ?_; rintro e w1 ⟨rfl, hb1⟩; have HB1 := Lib.hid hb1; clear hb1)
    go_ret
    exact ⟨rfl, HB1.out⟩
  have hd2 : ((s.size : Int) % 2 != 0) = false := by simp; omega
  have hD1 := fun w1 (h : Gl w1) => decode_i s big w1 h (by omega)
  have hD2 := fun w1 (h : Gl w1) => turned_decode s big hlt hev w1 h
  have hbl := b16_len big s.data.toList
  have hsl := ba_len s
  rw [ba_len] at hbl
  obtain ⟨x, hx⟩ : ∃ x, str (t16 big s.data.toList) = x := ⟨_, rfl⟩
  obtain ⟨ys, hys⟩ : ∃ ys, b16 big s.data.toList = ys := ⟨_, rfl⟩
  obtain ⟨m, hm⟩ : ∃ m, ys.length = m := ⟨_, rfl⟩
  simp only [hx, hys, hm] at hD1 hD2 hbl
  have HM : Hid (ys.length ≤ 100000) := Lib.hid (by omega)
  have HSL := Lib.hid hsl
  have D1 := Lib.hid hD1
  have D2 := Lib.hid hD2
  clear hD1 hD2 hx hys hm hbl hsl
  go_enter Tryd.func5, Tryd.ntmps5
  go_wp2_with fail
  go_loopg [5, 6] (s.size + 1) (fun gg q5 q6 wr => ∃ (u : Value) (a : Nat), u = q5 ∧ a + gg = s.size + 1 ∧ q6 = .int .i64 a ∧ a ≤ s.size ∧ a % 2 = 0 ∧ Hid (Own8 wr w.heap.size q5 (swp (s.data.toList.take a))) ∧ Hid (Below w.heap.size w wr))
  case atStart => exact ⟨_, 0, rfl, by omega, rfl, by omega, rfl, Lib.hid (own_nil _ _), Lib.hid (Below.refl _ _)⟩
  case round =>
    obtain ⟨u, a, rfl, hag, rfl, hale, ha2, HO, HB⟩ := hrel
    have hwz := HB.out.size
    by_cases ha : a < s.size
    · have ha1 : a + 1 < s.size := by omega
      have hxl : (swp (s.data.toList.take a)).length ≤ 2000 := by rw [swp_len]; have := List.length_take_le a s.data.toList; omega
      have HX : Hid (swp (s.data.toList.take (a + 2)) = swp (s.data.toList.take a) ++ [s[a + 1], s[a]]) := Lib.hid (by
        rw [take_two s a ha1, swp_app]
        rw [List.length_take, HSL.out]; omega)
      have i0' : (0 : Int) ≤ (a : Int) := by omega
      have i1 : (a : Int) < (s.size : Int) := by omega
      have i2 : (0 : Int) ≤ (a : Int) + 1 := by omega
      have i3 : (a : Int) + 1 < (s.size : Int) := by omega
      have hwr : IntKind.i64.wrap ((a : Int) + 1) = (a : Int) + 1 := by rw [IntKind.wrap_i64]; omega
      go_wp2_with fail
      go_region_held3 (fun w' => True) (trivial)
        ((refine step_append_lies _ (by rfl) _ _ _ (by rfl) w.heap.size 5 i0 _ 1 1 Tryd.underlying34 hi hz0 hz1 hz2 rfl (by omega) u (swp (s.data.toList.take a)).length ((swp (s.data.toList.take a)).map u8v) (by rfl) ((World.ownsRow.alloc HO.out _).drew)
              ⟨wr.heap.size, 0, none⟩ 2 2 [_, _] (by rfl) (by rfl) (World.news_of_block (t := 5) (fr := (0, 0)) (heap_alloc_new wr _)) (by simp [Value.oneCell'])
              (by omega) (by unfold maxLen; omega) (by omega) (by simp; omega) (wr.heap.size + 1) (by simp) ?_; intro g1 cap1 w1 hown1 hgrow hat hlt1))
      all_goals
        have HO1 : Hid (Own8 w1 w.heap.size (.slice (some ⟨g1, 0, none⟩) ((swp (s.data.toList.take a)).length + 2) cap1) (swp (s.data.toList.take (a + 2)))) := Lib.hid (by
          rw [HX.out]
          unfold Own8
          rw [List.length_append, List.map_append]
          exact hown1)
        have HB1 : Hid (Below w.heap.size w w1) := Lib.hid (by
          have h2 : wr.grownBy w1 u.ownBlock := grown_first hgrow
          exact HB.out.grown h2 hwz (fun j e => (World.ownsRow.lt HO.out j e).1))
        clear hown1 hgrow hat
        go_wp2_with fail
        go_roundg (gk - 2)
        case measure => omega
        case rel => exact ⟨_, a + 2, rfl, by omega, by go_num, by omega, by omega, HO1, HB1⟩
    · have hO : Own8 wr w.heap.size u (swp s.data.toList) := by
        have := HO.out
        rwa [List.take_of_length_le (by rw [HSL.out]; omega)] at this
      have HO2 := Lib.hid hO
      clear hO
      have hsz2 : (str (swp s.data.toList)).size = s.size := by rw [str_size, swp_len, HSL.out]
      go_wp2_with (first
        | (go_at_call 9; refine (D1.out _ (HG.out.below' HB.out)).mono ?_; rintro e w1 ⟨⟨p1, cap1, rfl, hi1⟩, hb1⟩; have HB1 : Hid (Below w.heap.size w w1) := Lib.hid (below_call HB.out hb1); have HI1 := Lib.hid hi1; have hconv := conv_own (World.ownsRow.kept HO2.out (row := none) ⟨hb1.os, hb1.tape, hb1.output, hb1.size, fun j hj _ => hb1.block j hj⟩ (by cases u.ownBlock <;> simp)); clear hb1 hi1 D1)
        | (go_at_call 9; refine (D2.out _ (HG.out.below' HB1.out)).mono ?_; rintro e w2 ⟨⟨p2, cap2, rfl, hi2⟩, hb2⟩; have HB2 : Hid (Below w.heap.size w w2) := Lib.hid (below_call HB1.out hb2); have HI2 := Lib.hid hi2; have HI12 := Lib.hid (HI1.out.below hb2); clear hb2 hi2 D2)
        | (go_at_call 13; refine (same_yes _ _ ys _ HI12.out HI2.out HM.out).mono ?_; rintro e w3 ⟨rfl, hb3⟩; have HB3 : Hid (Below w.heap.size w w3) := Lib.hid (below_call HB2.out hb3); clear hb3)
        | (go_at_call 8; refine (WK.out _ (HG.out.below' HB3.out)).mono ?_; rintro e w4 ⟨rfl, hb4⟩; have HB4 : Hid (Below w.heap.size w w4) := Lib.hid (below_call HB3.out hb4); clear hb4))
      go_ret
      exact ⟨rfl, HB4.out⟩
end Go.Proofs.YtnalnpidmmkfgaaDoor
