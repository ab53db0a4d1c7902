/- The walk of the law Utf8Back. -/
import Derived.Test.YtdojejkbcogjfaaDoorX
import Derived.Lib.SmallJoins
import Derived.Deep.Slices
import Derived.ChangeSame
import Derived.ChangeVars
import Derived.LaidMore
import Derived.Stop.Joined
namespace Go.Proofs.YtdojejkbcogjfaaDoor
open Go.RowKit
set_option linter.unusedVariables false
set_option linter.unusedSimpArgs false
theorem scl_len (n : Nat) : ∀ l : List UInt8, l.length ≤ n → (scl l).length ≤ l.length := by
  induction n with
  | zero =>
    intro l h
    rw [List.eq_nil_of_length_eq_zero (Nat.le_zero.1 h)]
    simp [scl_nil]
  | succ n ih =>
    intro l h
    by_cases hne : l = []
    · subst hne; simp [scl_nil]
    rw [scl_cons hne]
    have h1 := drop_lt hne
    have h2 := ih (l.drop (dec l).2) (by omega)
    simp only [List.length_cons]
    omega
theorem loose_len (l : List UInt8) : (loose l).length ≤ 4 * l.length := by
  unfold loose
  have h1 := encs_len ((scl l).map fixR)
  have h2 := scl_len l.length l (Nat.le_refl _)
  rw [List.length_map] at h1
  omega
theorem sumLen_take {xs : List Int} {k : Nat} (hk : k < xs.length) : sumLen (xs.take (k + 1)) = sumLen (xs.take k) + lenF xs[k] := by
  rw [List.take_succ_eq_append_getElem hk]
  unfold sumLen
  rw [List.map_append, List.sum_append]
  simp only [List.map_cons, List.map_nil, List.sum_cons, List.sum_nil, Int.add_zero]
theorem lenF_bd (r : Int) : 0 ≤ lenF r ∧ lenF r ≤ 4 := by
  have h1 := enc_len r
  have h2 := enc_le r
  omega
theorem sumLen_bd (xs : List Int) : 0 ≤ sumLen xs ∧ sumLen xs ≤ 4 * xs.length := by
  have := sumLen_encs xs
  have := encs_len xs
  omega
theorem all_scl {l : List UInt8} (h : okB l = true) : allB (scl l) = true := (ok_back _ l (Nat.le_refl _) h).1
theorem enc_scl {l : List UInt8} (h : okB l = true) : encs (scl l) = l := (ok_back _ l (Nat.le_refl _) h).2
set_option maxRecDepth 100000 in
set_option maxHeartbeats 4000000 in
theorem back_ao (p : Option Addr) (N cap : Nat) (s : ByteArray) (xs : List Int) (w : World) (HG : Hid (Gl w)) (hs : s.size ≤ 4000) (HI : Hid (Ints w (.slice p N cap) xs)) (HN : Hid (xs.length = N)) (hN : N ≤ 1000) (hall : allB xs = true) (hok : okB s.data.toList = true) :
    Calls Tryd.prog 6 #[.slice p N cap, .string s] w fun e w' => RetB true w e w' := by
  have hsl : s.data.toList.length = s.size := by simp
  have hxN : xs.length ≤ 1000 := by rw [HN.out]; exact hN
  obtain ⟨T, hT⟩ : ∃ T, str (encs xs) = T := ⟨_, rfl⟩
  have hTs : T.size = (encs xs).length := by rw [← hT, str_size]
  have hTl : T.data.toList = encs xs := by rw [← hT]; rfl
  have hTb : T.size ≤ 4000 := by have := encs_len xs; omega
  have HSum : Hid (sumLen xs = (T.size : Int)) := Lib.hid (by rw [sumLen_encs, hTs])
  have TX : Hid (∀ w1, Gl w1 → Below w.heap.size w w1 → Calls Tryd.prog 20 #[.slice p N cap] w1 fun e w' => e = .returned (.tuple #[.string T, .bool true]) ∧ Below w1.heap.size w1 w') := Lib.hid (fun w1 h hbl => by
    have := text_any _ xs w1 h (HI.out.below hbl) (by omega); unfold TextS at this; rwa [hall, if_pos rfl, hT] at this)
  have ST : Hid (∀ w1, Gl w1 → Calls Tryd.prog 18 #[.string T] w1 fun e w' => ∃ u, e = .returned (.tuple #[u, .bool true]) ∧ OwnI w' w1.heap.size u xs ∧ Below w1.heap.size w1 w') := Lib.hid (fun w1 h => by
    have := scal_any T w1 h (by omega); unfold ScalS at this; rwa [hTl, ok_encs hall, if_pos rfl, scl_encs hall] at this)
  have VT : Hid (∀ w1, Gl w1 → Calls Tryd.prog 23 #[.string T] w1 fun e w' => RetB true w1 e w') := Lib.hid (fun w1 h => by
    have := valid_any T w1 h (by omega); rwa [hTl, ok_encs hall] at this)
  obtain ⟨V, hV⟩ : ∃ V, str (loose s.data.toList) = V := ⟨_, rfl⟩
  have hVl : V.data.toList = loose s.data.toList := by rw [← hV]; rfl
  have hVb : V.size ≤ 16000 := by rw [← hV, str_size]; have := loose_len s.data.toList; omega
  obtain ⟨x, hx⟩ : ∃ x, wrg (prt s.data.toList) 0 = x := ⟨_, rfl⟩
  have hwo := wrg_ok (l := s.data.toList)
  rw [hx] at hwo
  have hxv : x = -1 := hwo.2 hok
  subst hxv
  have hVs : V = s := by rw [← hV, loose_ok hok]; exact str_eta s
  obtain ⟨ys, hy⟩ : ∃ ys, scl s.data.toList = ys := ⟨_, rfl⟩
  have hyl : ys.length ≤ 4000 := by rw [← hy]; have := scl_len _ s.data.toList (Nat.le_refl _); omega
  have SS : Hid (∀ w1, Gl w1 → Calls Tryd.prog 18 #[.string s] w1 fun e w' => ∃ u, e = .returned (.tuple #[u, .bool true]) ∧ OwnI w' w1.heap.size u ys ∧ Below w1.heap.size w1 w') := Lib.hid (fun w1 h => by
    have := scal_any s w1 h (by omega); unfold ScalS at this; rwa [hok, if_pos rfl, hy] at this)
  have TY : Hid (∀ v w1, Gl w1 → Ints w1 v ys → Calls Tryd.prog 20 #[v] w1 fun e w' => e = .returned (.tuple #[.string s, .bool true]) ∧ Below w1.heap.size w1 w') := Lib.hid (fun v w1 h hi => by
    have := text_any v ys w1 h hi (by omega); unfold TextS at this; rwa [← hy, all_scl hok, if_pos rfl, enc_scl hok, str_eta] at this)
  have LS : Hid (∀ w1, Gl w1 → Calls Tryd.prog 25 #[.string s] w1 fun e w' => e = .returned (.tuple #[.string V, .int .i64 (-1)]) ∧ Below w1.heap.size w1 w') := Lib.hid (fun w1 h => by
    have := loose_any s w1 h (by omega); unfold LooseS at this; rwa [hV, hx] at this)
  have LV : Hid (∀ w1, Gl w1 → Calls Tryd.prog 25 #[.string V] w1 fun e w' => e = .returned (.tuple #[.string V, .int .i64 (-1)]) ∧ Below w1.heap.size w1 w') := Lib.hid (fun w1 h => by
    have := loose_any V w1 h (by omega); unfold LooseS at this; rwa [hVl, loose_twice, hV, (wrg_ok (l := loose s.data.toList)).2 (loose_right _)] at this)
  have VS : Hid (∀ w1, Gl w1 → Calls Tryd.prog 23 #[.string s] w1 fun e w' => RetB true w1 e w') := Lib.hid (fun w1 h => by
    have := valid_any s w1 h (by omega); rwa [hok] at this)
  have VV : Hid (∀ w1, Gl w1 → Calls Tryd.prog 23 #[.string V] w1 fun e w' => RetB true w1 e w') := Lib.hid (fun w1 h => by
    have := valid_any V w1 h (by omega); rwa [hVl, loose_right] at this)
  have hVt : V.toList = s.toList := by rw [hVs]
  clear hVs hVl hV hwo hx hy hok
  have hd0 : decide ((1000 : Int) < (N : Int)) = false := by simp; omega
  have hd1 : decide ((4000 : Int) < (s.size : Int)) = false := by simp; omega
  have HT := Lib.hid hTb
  have hdN : N ≤ 1000 := hN
  clear hall hT hTl hTs
  go_enter Tryd.func6, Tryd.ntmps6
  go_wp2_with (first
    | (go_at_call 20; refine (TX.out _ HG.out (Below.refl _ _)).mono ?_; rintro e w1 ⟨rfl, hb⟩; have HB1 := Lib.hid hb; have HI1 := Lib.hid (HI.out.below hb); clear hb TX)
    | (go_at_call 18; refine (ST.out _ (HG.out.below' HB1.out)).mono ?_; rintro e w2 ⟨u1, rfl, ho, hb⟩; have HB2 : Hid (Below w.heap.size w w2) := Lib.hid (below_call HB1.out hb); have HU2 := Lib.hid (ints_of_own ho); have HI2 := Lib.hid (HI1.out.below hb); obtain ⟨p1, cap1, rfl⟩ := (ints_of_own ho).form; clear hb ho ST))
  go_loop [9, 10] (fun q9 q10 => ∃ k : Nat, k ≤ N ∧ q10 = .int .i64 k ∧ ∃ m : Int, q9 = .int .i64 m ∧ 0 ≤ m ∧ m ≤ 4000 ∧ Hid (m = sumLen (xs.take k))) (fun _ q10 => N - (intOf q10).toNat)
  case atStart => exact ⟨0, Nat.zero_le _, rfl, 0, rfl, by omega, by omega, Lib.hid rfl⟩
  case round =>
    obtain ⟨k, hk, rfl, m, rfl, hm0, hm1, HM⟩ := hrel
    by_cases hlt : k < N
    · have hk' : k < xs.length := by rw [HN.out]; exact hlt
      obtain ⟨r, hr⟩ : ∃ r, xs[k] = r := ⟨_, rfl⟩
      have hlf := lenF_bd r
      have HM2 : Hid (m + lenF r = sumLen (xs.take (k + 1))) := Lib.hid (by rw [sumLen_take hk', hr, HM.out])
      have hm2 : 0 ≤ m + lenF r ∧ m + lenF r ≤ 4000 := by
        have h1 := sumLen_bd (xs.take (k + 1))
        have h2 := HM2.out
        have h3 := List.length_take_le (k + 1) xs
        omega
      rcases HI2.out with ⟨e0, _⟩ | ⟨b, off, cp, e1, hbl, hcl⟩
      · rw [e0] at hk'; simp at hk'
      have hp : p = some ⟨b, off, none⟩ := by simp at e1; exact e1.1
      have hcell := hcl k hk'
      rw [hr] at hcell
      have HG2 : Hid (Gl w2) := Lib.hid (HG.out.below' HB2.out)
      subst hp
      clear hr hcl e1 hk'
      go_wp2_with (go_at_call 16; refine (len_any r _ HG2.out).mono ?_; rintro e w' ⟨rfl, rfl⟩)
      go_round
      case rel => exact ⟨k + 1, by omega, by go_num, _, rfl, hm2.1, hm2.2, HM2⟩
      case measure => simp [intOf]; omega
    · have hmT : m = (T.size : Int) := by
        rw [HM.out, List.take_of_length_le (by rw [HN.out]; omega)]; exact HSum.out
      subst hmT
      go_wp2_with (first
        | (go_at_call 22; refine (same_any _ _ xs xs _ HI2.out HU2.out (by omega) (by omega)).mono ?_; rintro e w3 ⟨he, hb⟩; rw [decide_eq_true (rfl : xs = xs)] at he; subst he; have HB3 : Hid (Below w.heap.size w w3) := Lib.hid (below_call HB2.out hb); clear hb)
        | (go_at_call 23; refine (VT.out _ (HG.out.below' HB3.out)).mono ?_; rintro e w4 ⟨rfl, hb⟩; have HB4 : Hid (Below w.heap.size w w4) := Lib.hid (below_call HB3.out hb); clear hb VT)
        | (go_at_call 18; refine (SS.out _ (HG.out.below' HB4.out)).mono ?_; rintro e w5 ⟨u2, rfl, ho, hb⟩; have HB5 : Hid (Below w.heap.size w w5) := Lib.hid (below_call HB4.out hb); have HU5 := Lib.hid (ints_of_own ho); obtain ⟨p2, cap2, rfl⟩ := (ints_of_own ho).form; clear hb ho SS)
        | (go_at_call 20; refine (TY.out _ _ (HG.out.below' HB5.out) HU5.out).mono ?_; rintro e w6 ⟨rfl, hb⟩; have HB6 : Hid (Below w.heap.size w w6) := Lib.hid (below_call HB5.out hb); clear hb TY)
        | (go_at_call 25; refine (LS.out _ (HG.out.below' HB6.out)).mono ?_; rintro e w7 ⟨rfl, hb⟩; have HB7 : Hid (Below w.heap.size w w7) := Lib.hid (below_call HB6.out hb); clear hb LS)
        | (go_at_call 25; refine (LV.out _ (HG.out.below' HB7.out)).mono ?_; rintro e w8 ⟨rfl, hb⟩; have HB8 : Hid (Below w.heap.size w w8) := Lib.hid (below_call HB7.out hb); clear hb LV)
        | (go_at_call 23; refine (VS.out _ (HG.out.below' HB8.out)).mono ?_; rintro e w9 ⟨rfl, hb⟩; have HB9 : Hid (Below w.heap.size w w9) := Lib.hid (below_call HB8.out hb); clear hb VS)
        | (go_at_call 23; refine (VV.out _ (HG.out.below' HB9.out)).mono ?_; rintro e w10 ⟨rfl, hb⟩; have HB10 : Hid (Below w.heap.size w w10) := Lib.hid (below_call HB9.out hb); clear hb VV)
        | (go_at_call 9; refine (wakes_any _ (HG.out.below' HB10.out)).mono ?_; rintro e w11 ⟨rfl, hb⟩; have HB11 : Hid (Below w.heap.size w w11) := Lib.hid (below_call HB10.out hb); clear hb))
      go_ret
      exact ⟨rfl, HB11.out⟩
set_option maxRecDepth 100000 in
set_option maxHeartbeats 4000000 in
theorem back_no (p : Option Addr) (N cap : Nat) (s : ByteArray) (xs : List Int) (w : World) (HG : Hid (Gl w)) (hs : s.size ≤ 4000) (HI : Hid (Ints w (.slice p N cap) xs)) (HN : Hid (xs.length = N)) (hN : N ≤ 1000) (hall : allB xs = false) (hok : okB s.data.toList = true) :
    Calls Tryd.prog 6 #[.slice p N cap, .string s] w fun e w' => RetB true w e w' := by
  have hsl : s.data.toList.length = s.size := by simp
  have hxN : xs.length ≤ 1000 := by rw [HN.out]; exact hN
  have TX : Hid (∀ w1, Gl w1 → Below w.heap.size w w1 → Calls Tryd.prog 20 #[.slice p N cap] w1 fun e w' => e = .returned (.tuple #[.string ⟨#[]⟩, .bool false]) ∧ Below w1.heap.size w1 w') := Lib.hid (fun w1 h hbl => by
    have := text_any _ xs w1 h (HI.out.below hbl) (by omega); unfold TextS at this; rw [hall] at this; exact this)
  obtain ⟨V, hV⟩ : ∃ V, str (loose s.data.toList) = V := ⟨_, rfl⟩
  have hVl : V.data.toList = loose s.data.toList := by rw [← hV]; rfl
  have hVb : V.size ≤ 16000 := by rw [← hV, str_size]; have := loose_len s.data.toList; omega
  obtain ⟨x, hx⟩ : ∃ x, wrg (prt s.data.toList) 0 = x := ⟨_, rfl⟩
  have hwo := wrg_ok (l := s.data.toList)
  rw [hx] at hwo
  have hxv : x = -1 := hwo.2 hok
  subst hxv
  have hVs : V = s := by rw [← hV, loose_ok hok]; exact str_eta s
  obtain ⟨ys, hy⟩ : ∃ ys, scl s.data.toList = ys := ⟨_, rfl⟩
  have hyl : ys.length ≤ 4000 := by rw [← hy]; have := scl_len _ s.data.toList (Nat.le_refl _); omega
  have SS : Hid (∀ w1, Gl w1 → Calls Tryd.prog 18 #[.string s] w1 fun e w' => ∃ u, e = .returned (.tuple #[u, .bool true]) ∧ OwnI w' w1.heap.size u ys ∧ Below w1.heap.size w1 w') := Lib.hid (fun w1 h => by
    have := scal_any s w1 h (by omega); unfold ScalS at this; rwa [hok, if_pos rfl, hy] at this)
  have TY : Hid (∀ v w1, Gl w1 → Ints w1 v ys → Calls Tryd.prog 20 #[v] w1 fun e w' => e = .returned (.tuple #[.string s, .bool true]) ∧ Below w1.heap.size w1 w') := Lib.hid (fun v w1 h hi => by
    have := text_any v ys w1 h hi (by omega); unfold TextS at this; rwa [← hy, all_scl hok, if_pos rfl, enc_scl hok, str_eta] at this)
  have LS : Hid (∀ w1, Gl w1 → Calls Tryd.prog 25 #[.string s] w1 fun e w' => e = .returned (.tuple #[.string V, .int .i64 (-1)]) ∧ Below w1.heap.size w1 w') := Lib.hid (fun w1 h => by
    have := loose_any s w1 h (by omega); unfold LooseS at this; rwa [hV, hx] at this)
  have LV : Hid (∀ w1, Gl w1 → Calls Tryd.prog 25 #[.string V] w1 fun e w' => e = .returned (.tuple #[.string V, .int .i64 (-1)]) ∧ Below w1.heap.size w1 w') := Lib.hid (fun w1 h => by
    have := loose_any V w1 h (by omega); unfold LooseS at this; rwa [hVl, loose_twice, hV, (wrg_ok (l := loose s.data.toList)).2 (loose_right _)] at this)
  have VS : Hid (∀ w1, Gl w1 → Calls Tryd.prog 23 #[.string s] w1 fun e w' => RetB true w1 e w') := Lib.hid (fun w1 h => by
    have := valid_any s w1 h (by omega); rwa [hok] at this)
  have VV : Hid (∀ w1, Gl w1 → Calls Tryd.prog 23 #[.string V] w1 fun e w' => RetB true w1 e w') := Lib.hid (fun w1 h => by
    have := valid_any V w1 h (by omega); rwa [hVl, loose_right] at this)
  have hVt : V.toList = s.toList := by rw [hVs]
  clear hVs hVl hV hwo hx hy hok
  have hd0 : decide ((1000 : Int) < (N : Int)) = false := by simp; omega
  have hd1 : decide ((4000 : Int) < (s.size : Int)) = false := by simp; omega
  clear hall
  go_enter Tryd.func6, Tryd.ntmps6
  go_wp2_with (first
    | (go_at_call 20; refine (TX.out _ HG.out (Below.refl _ _)).mono ?_; rintro e w1 ⟨rfl, hb⟩; have HB1 := Lib.hid hb; have HI1 := Lib.hid (HI.out.below hb); clear hb TX)
    | (go_at_call 18; refine (SS.out _ (HG.out.below' HB1.out)).mono ?_; rintro e w5 ⟨u2, rfl, ho, hb⟩; have HB5 : Hid (Below w.heap.size w w5) := Lib.hid (below_call HB1.out hb); have HU5 := Lib.hid (ints_of_own ho); obtain ⟨p2, cap2, rfl⟩ := (ints_of_own ho).form; clear hb ho SS)
    | (go_at_call 20; refine (TY.out _ _ (HG.out.below' HB5.out) HU5.out).mono ?_; rintro e w6 ⟨rfl, hb⟩; have HB6 : Hid (Below w.heap.size w w6) := Lib.hid (below_call HB5.out hb); clear hb TY)
    | (go_at_call 25; refine (LS.out _ (HG.out.below' HB6.out)).mono ?_; rintro e w7 ⟨rfl, hb⟩; have HB7 : Hid (Below w.heap.size w w7) := Lib.hid (below_call HB6.out hb); clear hb LS)
    | (go_at_call 25; refine (LV.out _ (HG.out.below' HB7.out)).mono ?_; rintro e w8 ⟨rfl, hb⟩; have HB8 : Hid (Below w.heap.size w w8) := Lib.hid (below_call HB7.out hb); clear hb LV)
    | (go_at_call 23; refine (VS.out _ (HG.out.below' HB8.out)).mono ?_; rintro e w9 ⟨rfl, hb⟩; have HB9 : Hid (Below w.heap.size w w9) := Lib.hid (below_call HB8.out hb); clear hb VS)
    | (go_at_call 23; refine (VV.out _ (HG.out.below' HB9.out)).mono ?_; rintro e w10 ⟨rfl, hb⟩; have HB10 : Hid (Below w.heap.size w w10) := Lib.hid (below_call HB9.out hb); clear hb VV)
    | (go_at_call 9; refine (wakes_any _ (HG.out.below' HB10.out)).mono ?_; rintro e w11 ⟨rfl, hb⟩; have HB11 : Hid (Below w.heap.size w w11) := Lib.hid (below_call HB10.out hb); clear hb))
  go_ret
  exact ⟨rfl, HB11.out⟩
set_option maxRecDepth 100000 in
set_option maxHeartbeats 4000000 in
theorem back_aw (p : Option Addr) (N cap : Nat) (s : ByteArray) (xs : List Int) (w : World) (HG : Hid (Gl w)) (hs : s.size ≤ 4000) (HI : Hid (Ints w (.slice p N cap) xs)) (HN : Hid (xs.length = N)) (hN : N ≤ 1000) (hall : allB xs = true) (hok : okB s.data.toList = false) :
    Calls Tryd.prog 6 #[.slice p N cap, .string s] w fun e w' => RetB true w e w' := by
  have hsl : s.data.toList.length = s.size := by simp
  have hxN : xs.length ≤ 1000 := by rw [HN.out]; exact hN
  obtain ⟨T, hT⟩ : ∃ T, str (encs xs) = T := ⟨_, rfl⟩
  have hTs : T.size = (encs xs).length := by rw [← hT, str_size]
  have hTl : T.data.toList = encs xs := by rw [← hT]; rfl
  have hTb : T.size ≤ 4000 := by have := encs_len xs; omega
  have HSum : Hid (sumLen xs = (T.size : Int)) := Lib.hid (by rw [sumLen_encs, hTs])
  have TX : Hid (∀ w1, Gl w1 → Below w.heap.size w w1 → Calls Tryd.prog 20 #[.slice p N cap] w1 fun e w' => e = .returned (.tuple #[.string T, .bool true]) ∧ Below w1.heap.size w1 w') := Lib.hid (fun w1 h hbl => by
    have := text_any _ xs w1 h (HI.out.below hbl) (by omega); unfold TextS at this; rwa [hall, if_pos rfl, hT] at this)
  have ST : Hid (∀ w1, Gl w1 → Calls Tryd.prog 18 #[.string T] w1 fun e w' => ∃ u, e = .returned (.tuple #[u, .bool true]) ∧ OwnI w' w1.heap.size u xs ∧ Below w1.heap.size w1 w') := Lib.hid (fun w1 h => by
    have := scal_any T w1 h (by omega); unfold ScalS at this; rwa [hTl, ok_encs hall, if_pos rfl, scl_encs hall] at this)
  have VT : Hid (∀ w1, Gl w1 → Calls Tryd.prog 23 #[.string T] w1 fun e w' => RetB true w1 e w') := Lib.hid (fun w1 h => by
    have := valid_any T w1 h (by omega); rwa [hTl, ok_encs hall] at this)
  obtain ⟨V, hV⟩ : ∃ V, str (loose s.data.toList) = V := ⟨_, rfl⟩
  have hVl : V.data.toList = loose s.data.toList := by rw [← hV]; rfl
  have hVb : V.size ≤ 16000 := by rw [← hV, str_size]; have := loose_len s.data.toList; omega
  obtain ⟨x, hx⟩ : ∃ x, wrg (prt s.data.toList) 0 = x := ⟨_, rfl⟩
  have hwo := wrg_ok (l := s.data.toList)
  rw [hx] at hwo
  have hxv : x ≠ -1 := fun e => by have := hwo.1 e; rw [hok] at this; cases this
  have hxb : (x == -1) = false := by simpa using hxv
  obtain ⟨ys, hy⟩ : ∃ ys : List Int, [] = ys := ⟨_, rfl⟩
  have SS : Hid (∀ w1, Gl w1 → Calls Tryd.prog 18 #[.string s] w1 fun e w' => ∃ u, e = .returned (.tuple #[u, .bool false]) ∧ OwnI w' w1.heap.size u ys ∧ Below w1.heap.size w1 w') := Lib.hid (fun w1 h => by
    have := scal_any s w1 h (by omega); unfold ScalS at this; rw [hok] at this; rw [← hy]; exact this)
  have TY : Hid (∀ v w1, Gl w1 → Ints w1 v ys → Calls Tryd.prog 20 #[v] w1 fun e w' => e = .returned (.tuple #[.string ⟨#[]⟩, .bool true]) ∧ Below w1.heap.size w1 w') := Lib.hid (fun v w1 h hi => by
    have := text_any v ys w1 h hi (by rw [← hy]; simp); unfold TextS at this; rw [← hy] at this; exact this)
  have LS : Hid (∀ w1, Gl w1 → Calls Tryd.prog 25 #[.string s] w1 fun e w' => e = .returned (.tuple #[.string V, .int .i64 x]) ∧ Below w1.heap.size w1 w') := Lib.hid (fun w1 h => by
    have := loose_any s w1 h (by omega); unfold LooseS at this; rwa [hV, hx] at this)
  have LV : Hid (∀ w1, Gl w1 → Calls Tryd.prog 25 #[.string V] w1 fun e w' => e = .returned (.tuple #[.string V, .int .i64 (-1)]) ∧ Below w1.heap.size w1 w') := Lib.hid (fun w1 h => by
    have := loose_any V w1 h (by omega); unfold LooseS at this; rwa [hVl, loose_twice, hV, (wrg_ok (l := loose s.data.toList)).2 (loose_right _)] at this)
  have VS : Hid (∀ w1, Gl w1 → Calls Tryd.prog 23 #[.string s] w1 fun e w' => RetB false w1 e w') := Lib.hid (fun w1 h => by
    have := valid_any s w1 h (by omega); rwa [hok] at this)
  have VV : Hid (∀ w1, Gl w1 → Calls Tryd.prog 23 #[.string V] w1 fun e w' => RetB true w1 e w') := Lib.hid (fun w1 h => by
    have := valid_any V w1 h (by omega); rwa [hVl, loose_right] at this)
  clear hVl hV hwo hx hy hok hxv
  have hd0 : decide ((1000 : Int) < (N : Int)) = false := by simp; omega
  have hd1 : decide ((4000 : Int) < (s.size : Int)) = false := by simp; omega
  have HT := Lib.hid hTb
  have hdN : N ≤ 1000 := hN
  clear hall hT hTl hTs
  go_enter Tryd.func6, Tryd.ntmps6
  go_wp2_with (first
    | (go_at_call 20; refine (TX.out _ HG.out (Below.refl _ _)).mono ?_; rintro e w1 ⟨rfl, hb⟩; have HB1 := Lib.hid hb; have HI1 := Lib.hid (HI.out.below hb); clear hb TX)
    | (go_at_call 18; refine (ST.out _ (HG.out.below' HB1.out)).mono ?_; rintro e w2 ⟨u1, rfl, ho, hb⟩; have HB2 : Hid (Below w.heap.size w w2) := Lib.hid (below_call HB1.out hb); have HU2 := Lib.hid (ints_of_own ho); have HI2 := Lib.hid (HI1.out.below hb); obtain ⟨p1, cap1, rfl⟩ := (ints_of_own ho).form; clear hb ho ST))
  go_loop [9, 10] (fun q9 q10 => ∃ k : Nat, k ≤ N ∧ q10 = .int .i64 k ∧ ∃ m : Int, q9 = .int .i64 m ∧ 0 ≤ m ∧ m ≤ 4000 ∧ Hid (m = sumLen (xs.take k))) (fun _ q10 => N - (intOf q10).toNat)
  case atStart => exact ⟨0, Nat.zero_le _, rfl, 0, rfl, by omega, by omega, Lib.hid rfl⟩
  case round =>
    obtain ⟨k, hk, rfl, m, rfl, hm0, hm1, HM⟩ := hrel
    by_cases hlt : k < N
    · have hk' : k < xs.length := by rw [HN.out]; exact hlt
      obtain ⟨r, hr⟩ : ∃ r, xs[k] = r := ⟨_, rfl⟩
      have hlf := lenF_bd r
      have HM2 : Hid (m + lenF r = sumLen (xs.take (k + 1))) := Lib.hid (by rw [sumLen_take hk', hr, HM.out])
      have hm2 : 0 ≤ m + lenF r ∧ m + lenF r ≤ 4000 := by
        have h1 := sumLen_bd (xs.take (k + 1))
        have h2 := HM2.out
        have h3 := List.length_take_le (k + 1) xs
        omega
      rcases HI2.out with ⟨e0, _⟩ | ⟨b, off, cp, e1, hbl, hcl⟩
      · rw [e0] at hk'; simp at hk'
      have hp : p = some ⟨b, off, none⟩ := by simp at e1; exact e1.1
      have hcell := hcl k hk'
      rw [hr] at hcell
      have HG2 : Hid (Gl w2) := Lib.hid (HG.out.below' HB2.out)
      subst hp
      clear hr hcl e1 hk'
      go_wp2_with (go_at_call 16; refine (len_any r _ HG2.out).mono ?_; rintro e w' ⟨rfl, rfl⟩)
      go_round
      case rel => exact ⟨k + 1, by omega, by go_num, _, rfl, hm2.1, hm2.2, HM2⟩
      case measure => simp [intOf]; omega
    · have hmT : m = (T.size : Int) := by
        rw [HM.out, List.take_of_length_le (by rw [HN.out]; omega)]; exact HSum.out
      subst hmT
      go_wp2_with (first
        | (go_at_call 22; refine (same_any _ _ xs xs _ HI2.out HU2.out (by omega) (by omega)).mono ?_; rintro e w3 ⟨he, hb⟩; rw [decide_eq_true (rfl : xs = xs)] at he; subst he; have HB3 : Hid (Below w.heap.size w w3) := Lib.hid (below_call HB2.out hb); clear hb)
        | (go_at_call 23; refine (VT.out _ (HG.out.below' HB3.out)).mono ?_; rintro e w4 ⟨rfl, hb⟩; have HB4 : Hid (Below w.heap.size w w4) := Lib.hid (below_call HB3.out hb); clear hb VT)
        | (go_at_call 18; refine (SS.out _ (HG.out.below' HB4.out)).mono ?_; rintro e w5 ⟨u2, rfl, ho, hb⟩; have HB5 : Hid (Below w.heap.size w w5) := Lib.hid (below_call HB4.out hb); have HU5 := Lib.hid (ints_of_own ho); obtain ⟨p2, cap2, rfl⟩ := (ints_of_own ho).form; clear hb ho SS)
        | (go_at_call 20; refine (TY.out _ _ (HG.out.below' HB5.out) HU5.out).mono ?_; rintro e w6 ⟨rfl, hb⟩; have HB6 : Hid (Below w.heap.size w w6) := Lib.hid (below_call HB5.out hb); clear hb TY)
        | (go_at_call 25; refine (LS.out _ (HG.out.below' HB6.out)).mono ?_; rintro e w7 ⟨rfl, hb⟩; have HB7 : Hid (Below w.heap.size w w7) := Lib.hid (below_call HB6.out hb); clear hb LS)
        | (go_at_call 25; refine (LV.out _ (HG.out.below' HB7.out)).mono ?_; rintro e w8 ⟨rfl, hb⟩; have HB8 : Hid (Below w.heap.size w w8) := Lib.hid (below_call HB7.out hb); clear hb LV)
        | (go_at_call 23; refine (VS.out _ (HG.out.below' HB8.out)).mono ?_; rintro e w9 ⟨rfl, hb⟩; have HB9 : Hid (Below w.heap.size w w9) := Lib.hid (below_call HB8.out hb); clear hb VS)
        | (go_at_call 23; refine (VV.out _ (HG.out.below' HB9.out)).mono ?_; rintro e w10 ⟨rfl, hb⟩; have HB10 : Hid (Below w.heap.size w w10) := Lib.hid (below_call HB9.out hb); clear hb VV)
        | (go_at_call 9; refine (wakes_any _ (HG.out.below' HB10.out)).mono ?_; rintro e w11 ⟨rfl, hb⟩; have HB11 : Hid (Below w.heap.size w w11) := Lib.hid (below_call HB10.out hb); clear hb))
      go_ret
      exact ⟨rfl, HB11.out⟩
set_option maxRecDepth 100000 in
set_option maxHeartbeats 4000000 in
theorem back_nw (p : Option Addr) (N cap : Nat) (s : ByteArray) (xs : List Int) (w : World) (HG : Hid (Gl w)) (hs : s.size ≤ 4000) (HI : Hid (Ints w (.slice p N cap) xs)) (HN : Hid (xs.length = N)) (hN : N ≤ 1000) (hall : allB xs = false) (hok : okB s.data.toList = false) :
    Calls Tryd.prog 6 #[.slice p N cap, .string s] w fun e w' => RetB true w e w' := by
  have hsl : s.data.toList.length = s.size := by simp
  have hxN : xs.length ≤ 1000 := by rw [HN.out]; exact hN
  have TX : Hid (∀ w1, Gl w1 → Below w.heap.size w w1 → Calls Tryd.prog 20 #[.slice p N cap] w1 fun e w' => e = .returned (.tuple #[.string ⟨#[]⟩, .bool false]) ∧ Below w1.heap.size w1 w') := Lib.hid (fun w1 h hbl => by
    have := text_any _ xs w1 h (HI.out.below hbl) (by omega); unfold TextS at this; rw [hall] at this; exact this)
  obtain ⟨V, hV⟩ : ∃ V, str (loose s.data.toList) = V := ⟨_, rfl⟩
  have hVl : V.data.toList = loose s.data.toList := by rw [← hV]; rfl
  have hVb : V.size ≤ 16000 := by rw [← hV, str_size]; have := loose_len s.data.toList; omega
  obtain ⟨x, hx⟩ : ∃ x, wrg (prt s.data.toList) 0 = x := ⟨_, rfl⟩
  have hwo := wrg_ok (l := s.data.toList)
  rw [hx] at hwo
  have hxv : x ≠ -1 := fun e => by have := hwo.1 e; rw [hok] at this; cases this
  have hxb : (x == -1) = false := by simpa using hxv
  obtain ⟨ys, hy⟩ : ∃ ys : List Int, [] = ys := ⟨_, rfl⟩
  have SS : Hid (∀ w1, Gl w1 → Calls Tryd.prog 18 #[.string s] w1 fun e w' => ∃ u, e = .returned (.tuple #[u, .bool false]) ∧ OwnI w' w1.heap.size u ys ∧ Below w1.heap.size w1 w') := Lib.hid (fun w1 h => by
    have := scal_any s w1 h (by omega); unfold ScalS at this; rw [hok] at this; rw [← hy]; exact this)
  have TY : Hid (∀ v w1, Gl w1 → Ints w1 v ys → Calls Tryd.prog 20 #[v] w1 fun e w' => e = .returned (.tuple #[.string ⟨#[]⟩, .bool true]) ∧ Below w1.heap.size w1 w') := Lib.hid (fun v w1 h hi => by
    have := text_any v ys w1 h hi (by rw [← hy]; simp); unfold TextS at this; rw [← hy] at this; exact this)
  have LS : Hid (∀ w1, Gl w1 → Calls Tryd.prog 25 #[.string s] w1 fun e w' => e = .returned (.tuple #[.string V, .int .i64 x]) ∧ Below w1.heap.size w1 w') := Lib.hid (fun w1 h => by
    have := loose_any s w1 h (by omega); unfold LooseS at this; rwa [hV, hx] at this)
  have LV : Hid (∀ w1, Gl w1 → Calls Tryd.prog 25 #[.string V] w1 fun e w' => e = .returned (.tuple #[.string V, .int .i64 (-1)]) ∧ Below w1.heap.size w1 w') := Lib.hid (fun w1 h => by
    have := loose_any V w1 h (by omega); unfold LooseS at this; rwa [hVl, loose_twice, hV, (wrg_ok (l := loose s.data.toList)).2 (loose_right _)] at this)
  have VS : Hid (∀ w1, Gl w1 → Calls Tryd.prog 23 #[.string s] w1 fun e w' => RetB false w1 e w') := Lib.hid (fun w1 h => by
    have := valid_any s w1 h (by omega); rwa [hok] at this)
  have VV : Hid (∀ w1, Gl w1 → Calls Tryd.prog 23 #[.string V] w1 fun e w' => RetB true w1 e w') := Lib.hid (fun w1 h => by
    have := valid_any V w1 h (by omega); rwa [hVl, loose_right] at this)
  clear hVl hV hwo hx hy hok hxv
  have hd0 : decide ((1000 : Int) < (N : Int)) = false := by simp; omega
  have hd1 : decide ((4000 : Int) < (s.size : Int)) = false := by simp; omega
  clear hall
  go_enter Tryd.func6, Tryd.ntmps6
  go_wp2_with (first
    | (go_at_call 20; refine (TX.out _ HG.out (Below.refl _ _)).mono ?_; rintro e w1 ⟨rfl, hb⟩; have HB1 := Lib.hid hb; have HI1 := Lib.hid (HI.out.below hb); clear hb TX)
    | (go_at_call 18; refine (SS.out _ (HG.out.below' HB1.out)).mono ?_; rintro e w5 ⟨u2, rfl, ho, hb⟩; have HB5 : Hid (Below w.heap.size w w5) := Lib.hid (below_call HB1.out hb); have HU5 := Lib.hid (ints_of_own ho); obtain ⟨p2, cap2, rfl⟩ := (ints_of_own ho).form; clear hb ho SS)
    | (go_at_call 20; refine (TY.out _ _ (HG.out.below' HB5.out) HU5.out).mono ?_; rintro e w6 ⟨rfl, hb⟩; have HB6 : Hid (Below w.heap.size w w6) := Lib.hid (below_call HB5.out hb); clear hb TY)
    | (go_at_call 25; refine (LS.out _ (HG.out.below' HB6.out)).mono ?_; rintro e w7 ⟨rfl, hb⟩; have HB7 : Hid (Below w.heap.size w w7) := Lib.hid (below_call HB6.out hb); clear hb LS)
    | (go_at_call 25; refine (LV.out _ (HG.out.below' HB7.out)).mono ?_; rintro e w8 ⟨rfl, hb⟩; have HB8 : Hid (Below w.heap.size w w8) := Lib.hid (below_call HB7.out hb); clear hb LV)
    | (go_at_call 23; refine (VS.out _ (HG.out.below' HB8.out)).mono ?_; rintro e w9 ⟨rfl, hb⟩; have HB9 : Hid (Below w.heap.size w w9) := Lib.hid (below_call HB8.out hb); clear hb VS)
    | (go_at_call 23; refine (VV.out _ (HG.out.below' HB9.out)).mono ?_; rintro e w10 ⟨rfl, hb⟩; have HB10 : Hid (Below w.heap.size w w10) := Lib.hid (below_call HB9.out hb); clear hb VV)
    | (go_at_call 9; refine (wakes_any _ (HG.out.below' HB10.out)).mono ?_; rintro e w11 ⟨rfl, hb⟩; have HB11 : Hid (Below w.heap.size w w11) := Lib.hid (below_call HB10.out hb); clear hb))
  go_ret
  exact ⟨rfl, HB11.out⟩
set_option maxRecDepth 100000 in
set_option maxHeartbeats 2000000 in
theorem back_walk (v : Value) (xs : List Int) (s : ByteArray) (w : World) (hg : Gl w) (hs : s.size ≤ maxLen) (hI : Ints w v xs) (hxl : xs.length ≤ maxLen) : Calls Tryd.prog 6 #[v, .string s] w fun e w' => RetB true w e w' := by
  have HG := Lib.hid hg
  have HI := Lib.hid hI
  obtain ⟨p, cap, rfl⟩ := hI.form
  clear hg hI
  unfold maxLen at hs hxl
  obtain ⟨N, HN⟩ : ∃ N, Hid (xs.length = N) := ⟨_, Lib.hid rfl⟩
  rw [HN.out] at hxl
  have HI2 : Hid (Ints w (.slice p N cap) xs) := Lib.hid (by rw [← HN.out]; exact HI.out)
  rw [HN.out]
  clear HI
  by_cases hlt2 : N ≤ 1000
  rotate_left 1
  · have hgt : 1000 < N := by omega
    have hd : decide ((1000 : Int) < (N : Int)) = true := by simp; omega
    clear hlt2
    go_enter Tryd.func6, Tryd.ntmps6
    go_wp2_with (go_at_call 9; refine (wakes_any _ HG.out).mono ?_; rintro e w1 ⟨rfl, hb1⟩; have HB1 := Lib.hid hb1; clear hb1)
    go_ret
    exact ⟨rfl, HB1.out⟩
  by_cases hlt : s.size ≤ 4000
  rotate_left 1
  · have hgt : 4000 < s.size := by omega
    have hd0 : decide ((1000 : Int) < (N : Int)) = false := by simp; omega
    have hd : decide ((4000 : Int) < (s.size : Int)) = true := by simp; omega
    clear hlt
    go_enter Tryd.func6, Tryd.ntmps6
    go_wp2_with (go_at_call 9; refine (wakes_any _ HG.out).mono ?_; rintro e w1 ⟨rfl, hb1⟩; have HB1 := Lib.hid hb1; clear hb1)
    go_ret
    exact ⟨rfl, HB1.out⟩
  cases h1 : allB xs <;> cases h2 : okB s.data.toList
  · exact back_nw p N cap s xs w HG hlt HI2 HN hlt2 h1 h2
  · exact back_no p N cap s xs w HG hlt HI2 HN hlt2 h1 h2
  · exact back_aw p N cap s xs w HG hlt HI2 HN hlt2 h1 h2
  · exact back_ao p N cap s xs w HG hlt HI2 HN hlt2 h1 h2
end Go.Proofs.YtdojejkbcogjfaaDoor
