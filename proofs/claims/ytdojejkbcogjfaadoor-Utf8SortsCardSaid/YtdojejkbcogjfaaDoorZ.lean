/- The walk of the law Utf8Parts. -/
import Derived.Test.YtdojejkbcogjfaaDoorY
import Derived.Lib.SmallJoins
import Derived.Deep.Slices
import Derived.ChangeSame
import Derived.ChangeVars
import Derived.LaidMore
import Derived.Stop.Joined
namespace Go.Proofs.YtdojejkbcogjfaaDoor
open Go.RowKit
set_option linter.unusedVariables false
set_option linter.unusedSimpArgs false
theorem wrg_le (ps : List (Int × Nat)) : ∀ (a m : Nat), (ps.map (·.2)).sum ≤ m → wrg ps a ≤ a + m := by
  induction ps with
  | nil => intro a m _; simp [wrg]; omega
  | cons p t ih =>
    intro a m h
    simp only [List.map_cons, List.sum_cons] at h
    by_cases hp : p.1 = -1
    · rw [wrg_bad hp]; omega
    · rw [wrg_good hp]
      have := ih (a + p.2) (m - p.2) (by omega)
      omega
theorem prt_sum (n : Nat) : ∀ l : List UInt8, l.length ≤ n → ((prt l).map (·.2)).sum ≤ l.length := by
  induction n with
  | zero =>
    intro l h
    rw [List.eq_nil_of_length_eq_zero (Nat.le_zero.1 h)]
    simp [prt_nil]
  | succ n ih =>
    intro l h
    by_cases hne : l = []
    · subst hne; simp [prt_nil]
    rw [prt_cons hne]
    have h1 := drop_lt hne
    have h2 := ih (l.drop (dec l).2) (by omega)
    have h3 := dec_le hne
    simp only [List.map_cons, List.sum_cons, List.length_drop] at h2 ⊢
    omega
theorem wrg_le_size (l : List UInt8) : wrg (prt l) 0 ≤ l.length := by
  have := wrg_le (prt l) 0 l.length (prt_sum _ l (Nat.le_refl _))
  omega
theorem cat_list (a b : ByteArray) : (a ++ b).data.toList = a.data.toList ++ b.data.toList := by simp
theorem str_cat (xs ys : List UInt8) : str (xs ++ ys) = str xs ++ str ys := by
  apply ByteArray.ext
  apply Array.ext'
  rw [cat_list]
  rfl
set_option maxRecDepth 100000 in
set_option maxHeartbeats 2000000 in
theorem parts_neg (a b c : ByteArray) (w : World) (HG : Hid (Gl w)) (hs : a.size + b.size + c.size ≤ 4000) (h1 : okB a.data.toList = true) (h2 : okB c.data.toList = true) (hn : wrg (prt b.data.toList) 0 < 0) : Calls Tryd.prog 7 #[.string a, .string b, .string c] w fun e w' => RetB true w e w' := by
  obtain ⟨L1, L2⟩ := loose_parts (b := b.data.toList) h1 h2
  have e3 : (a ++ b ++ c).data.toList = a.data.toList ++ b.data.toList ++ c.data.toList := by rw [cat_list, cat_list]
  rw [← e3] at L1 L2
  have esz : (a ++ b ++ c).size = a.size + b.size + c.size := by simp
  obtain ⟨M, hM⟩ : ∃ M, str (loose b.data.toList) = M := ⟨_, rfl⟩
  obtain ⟨n, hx⟩ : ∃ n, wrg (prt b.data.toList) 0 = n := ⟨_, rfl⟩
  have hL : str (loose (a ++ b ++ c).data.toList) = a ++ M ++ c := by rw [L1, str_cat, str_cat, str_eta, str_eta, hM]
  rw [hx] at hn
  have hnb : n ≤ 4000 := by
    have h := (wrg_le_size b.data.toList)
    rw [hx] at h
    have e5 : b.data.toList.length = b.size := by simp
    omega
  have hal : a.data.toList.length = a.size := by simp
  have hW : wrg (prt (a ++ b ++ c).data.toList) 0 = n := by rw [L2, hx, if_neg (by omega)]
  have VA : Hid (∀ w1, Calls Tryd.prog 24 #[.string a] w1 fun e w' => RetB true w1 e w') := Lib.hid (fun w1 => by
    have := rvalid_any a w1 (by omega); rwa [h1] at this)
  have VC : Hid (∀ w1, Calls Tryd.prog 24 #[.string c] w1 fun e w' => RetB true w1 e w') := Lib.hid (fun w1 => by
    have := rvalid_any c w1 (by omega); rwa [h2] at this)
  have LA : Hid (∀ w1, Gl w1 → Calls Tryd.prog 25 #[.string (a ++ b ++ c)] w1 fun e w' => e = .returned (.tuple #[.string (a ++ M ++ c), .int .i64 (n)]) ∧ Below w1.heap.size w1 w') := Lib.hid (fun w1 h => by
    have := loose_any (a ++ b ++ c) w1 h (by omega); unfold LooseS at this; rwa [hL, hW] at this)
  have LB : Hid (∀ w1, Gl w1 → Calls Tryd.prog 25 #[.string b] w1 fun e w' => e = .returned (.tuple #[.string M, .int .i64 n]) ∧ Below w1.heap.size w1 w') := Lib.hid (fun w1 h => by
    have := loose_any b w1 h (by omega); unfold LooseS at this; rwa [hM, hx] at this)
  have hmsz : M.size ≤ 16000 := by
    rw [← hM, str_size]; have h := loose_len b.data.toList
    have e5 : b.data.toList.length = b.size := by simp
    omega
  have hd0 : ¬ (4000 : Int) < (a.size : Int) + b.size + c.size := by omega
  have hd1 : decide ((4000 : Int) < (a.size : Int) + (b.size : Int) + (c.size : Int)) = false := by simp; omega
  clear h1 h2 L1 L2 e3 esz hM hx hL hW hal
  go_enter Tryd.func7, Tryd.ntmps7
  go_wp2_with (first
    | (go_at_call 24; refine (VA.out _).mono ?_; rintro e w1 ⟨rfl, hb1⟩; have HB1 := Lib.hid hb1; clear hb1 VA)
    | (go_at_call 24; refine (VC.out _).mono ?_; rintro e w2 ⟨rfl, hb1⟩; have HB2 : Hid (Below w.heap.size w w2) := Lib.hid (below_call HB1.out hb1); clear hb1 VC)
    | (go_at_call 25; refine (LA.out _ (HG.out.below' HB2.out)).mono ?_; rintro e w3 ⟨rfl, hb1⟩; have HB3 : Hid (Below w.heap.size w w3) := Lib.hid (below_call HB2.out hb1); clear hb1 LA)
    | (go_at_call 25; refine (LB.out _ (HG.out.below' HB3.out)).mono ?_; rintro e w4 ⟨rfl, hb1⟩; have HB4 : Hid (Below w.heap.size w w4) := Lib.hid (below_call HB3.out hb1); clear hb1 LB)
    | (go_at_call 9; refine (wakes_any _ (HG.out.below' HB4.out)).mono ?_; rintro e w5 ⟨rfl, hb1⟩; have HB5 : Hid (Below w.heap.size w w5) := Lib.hid (below_call HB4.out hb1); clear hb1))
  go_ret
  exact ⟨rfl, HB5.out⟩
set_option maxRecDepth 100000 in
set_option maxHeartbeats 2000000 in
theorem parts_pos (a b c : ByteArray) (w : World) (HG : Hid (Gl w)) (hs : a.size + b.size + c.size ≤ 4000) (h1 : okB a.data.toList = true) (h2 : okB c.data.toList = true) (hn : 0 ≤ wrg (prt b.data.toList) 0) : Calls Tryd.prog 7 #[.string a, .string b, .string c] w fun e w' => RetB true w e w' := by
  obtain ⟨L1, L2⟩ := loose_parts (b := b.data.toList) h1 h2
  have e3 : (a ++ b ++ c).data.toList = a.data.toList ++ b.data.toList ++ c.data.toList := by rw [cat_list, cat_list]
  rw [← e3] at L1 L2
  have esz : (a ++ b ++ c).size = a.size + b.size + c.size := by simp
  obtain ⟨M, hM⟩ : ∃ M, str (loose b.data.toList) = M := ⟨_, rfl⟩
  obtain ⟨n, hx⟩ : ∃ n, wrg (prt b.data.toList) 0 = n := ⟨_, rfl⟩
  have hL : str (loose (a ++ b ++ c).data.toList) = a ++ M ++ c := by rw [L1, str_cat, str_cat, str_eta, str_eta, hM]
  rw [hx] at hn
  have hnb : n ≤ 4000 := by
    have h := (wrg_le_size b.data.toList)
    rw [hx] at h
    have e5 : b.data.toList.length = b.size := by simp
    omega
  have hal : a.data.toList.length = a.size := by simp
  have hW : wrg (prt (a ++ b ++ c).data.toList) 0 = n + (a.size : Int) := by rw [L2, hx, if_pos hn, hal]
  have VA : Hid (∀ w1, Calls Tryd.prog 24 #[.string a] w1 fun e w' => RetB true w1 e w') := Lib.hid (fun w1 => by
    have := rvalid_any a w1 (by omega); rwa [h1] at this)
  have VC : Hid (∀ w1, Calls Tryd.prog 24 #[.string c] w1 fun e w' => RetB true w1 e w') := Lib.hid (fun w1 => by
    have := rvalid_any c w1 (by omega); rwa [h2] at this)
  have LA : Hid (∀ w1, Gl w1 → Calls Tryd.prog 25 #[.string (a ++ b ++ c)] w1 fun e w' => e = .returned (.tuple #[.string (a ++ M ++ c), .int .i64 (n + (a.size : Int))]) ∧ Below w1.heap.size w1 w') := Lib.hid (fun w1 h => by
    have := loose_any (a ++ b ++ c) w1 h (by omega); unfold LooseS at this; rwa [hL, hW] at this)
  have LB : Hid (∀ w1, Gl w1 → Calls Tryd.prog 25 #[.string b] w1 fun e w' => e = .returned (.tuple #[.string M, .int .i64 n]) ∧ Below w1.heap.size w1 w') := Lib.hid (fun w1 h => by
    have := loose_any b w1 h (by omega); unfold LooseS at this; rwa [hM, hx] at this)
  have hmsz : M.size ≤ 16000 := by
    rw [← hM, str_size]; have h := loose_len b.data.toList
    have e5 : b.data.toList.length = b.size := by simp
    omega
  have hd0 : ¬ (4000 : Int) < (a.size : Int) + b.size + c.size := by omega
  have hd1 : decide ((4000 : Int) < (a.size : Int) + (b.size : Int) + (c.size : Int)) = false := by simp; omega
  clear h1 h2 L1 L2 e3 esz hM hx hL hW hal
  go_enter Tryd.func7, Tryd.ntmps7
  go_wp2_with (first
    | (go_at_call 24; refine (VA.out _).mono ?_; rintro e w1 ⟨rfl, hb1⟩; have HB1 := Lib.hid hb1; clear hb1 VA)
    | (go_at_call 24; refine (VC.out _).mono ?_; rintro e w2 ⟨rfl, hb1⟩; have HB2 : Hid (Below w.heap.size w w2) := Lib.hid (below_call HB1.out hb1); clear hb1 VC)
    | (go_at_call 25; refine (LA.out _ (HG.out.below' HB2.out)).mono ?_; rintro e w3 ⟨rfl, hb1⟩; have HB3 : Hid (Below w.heap.size w w3) := Lib.hid (below_call HB2.out hb1); clear hb1 LA)
    | (go_at_call 25; refine (LB.out _ (HG.out.below' HB3.out)).mono ?_; rintro e w4 ⟨rfl, hb1⟩; have HB4 : Hid (Below w.heap.size w w4) := Lib.hid (below_call HB3.out hb1); clear hb1 LB)
    | (go_at_call 9; refine (wakes_any _ (HG.out.below' HB4.out)).mono ?_; rintro e w5 ⟨rfl, hb1⟩; have HB5 : Hid (Below w.heap.size w w5) := Lib.hid (below_call HB4.out hb1); clear hb1))
  go_ret
  exact ⟨rfl, HB5.out⟩
set_option maxRecDepth 100000 in
set_option maxHeartbeats 2000000 in
theorem parts_walk (a b c : ByteArray) (w : World) (hg : Gl w) (ha : a.size ≤ 140737488351232) (hb : b.size ≤ 140737488351232) (hc : c.size ≤ 140737488351232) : Calls Tryd.prog 7 #[.string a, .string b, .string c] w fun e w' => RetB true w e w' := by
  have HG := Lib.hid hg
  clear hg
  by_cases hs : a.size + b.size + c.size ≤ 4000
  rotate_left 1
  · have hd0 : (4000 : Int) < (a.size : Int) + b.size + c.size := by omega
    have hd1 : decide ((4000 : Int) < (a.size : Int) + (b.size : Int) + (c.size : Int)) = true := by simp; omega
    clear hs
    go_enter Tryd.func7, Tryd.ntmps7
    go_wp2_with (go_at_call 9; refine (wakes_any _ HG.out).mono ?_; rintro e w1 ⟨rfl, hb1⟩; have HB1 := Lib.hid hb1; clear hb1)
    go_ret
    exact ⟨rfl, HB1.out⟩
  have hd0 : ¬ (4000 : Int) < (a.size : Int) + b.size + c.size := by omega
  have hd1 : decide ((4000 : Int) < (a.size : Int) + (b.size : Int) + (c.size : Int)) = false := by simp; omega
  cases h1 : okB a.data.toList
  · have VA : Hid (∀ w1, Calls Tryd.prog 24 #[.string a] w1 fun e w' => RetB false w1 e w') := Lib.hid (fun w1 => by
      have := rvalid_any a w1 (by omega); rwa [h1] at this)
    clear h1
    go_enter Tryd.func7, Tryd.ntmps7
    go_wp2_with (first
      | (go_at_call 24; refine (VA.out _).mono ?_; rintro e w1 ⟨rfl, hb1⟩; have HB1 := Lib.hid hb1; clear hb1 VA)
      | (go_at_call 9; refine (wakes_any _ (HG.out.below' HB1.out)).mono ?_; rintro e w2 ⟨rfl, hb1⟩; have HB2 : Hid (Below w.heap.size w w2) := Lib.hid (below_call HB1.out hb1); clear hb1))
    go_ret
    exact ⟨rfl, HB2.out⟩
  cases h2 : okB c.data.toList
  · have VA : Hid (∀ w1, Calls Tryd.prog 24 #[.string a] w1 fun e w' => RetB true w1 e w') := Lib.hid (fun w1 => by
      have := rvalid_any a w1 (by omega); rwa [h1] at this)
    have VC : Hid (∀ w1, Calls Tryd.prog 24 #[.string c] w1 fun e w' => RetB false w1 e w') := Lib.hid (fun w1 => by
      have := rvalid_any c w1 (by omega); rwa [h2] at this)
    clear h1 h2
    go_enter Tryd.func7, Tryd.ntmps7
    go_wp2_with (first
      | (go_at_call 24; refine (VA.out _).mono ?_; rintro e w1 ⟨rfl, hb1⟩; have HB1 := Lib.hid hb1; clear hb1 VA)
      | (go_at_call 24; refine (VC.out _).mono ?_; rintro e w2 ⟨rfl, hb1⟩; have HB2 : Hid (Below w.heap.size w w2) := Lib.hid (below_call HB1.out hb1); clear hb1 VC)
      | (go_at_call 9; refine (wakes_any _ (HG.out.below' HB2.out)).mono ?_; rintro e w3 ⟨rfl, hb1⟩; have HB3 : Hid (Below w.heap.size w w3) := Lib.hid (below_call HB2.out hb1); clear hb1))
    go_ret
    exact ⟨rfl, HB3.out⟩
  by_cases hn : 0 ≤ wrg (prt b.data.toList) 0
  · exact parts_pos a b c w HG hs h1 h2 hn
  · exact parts_neg a b c w HG hs h1 h2 (by omega)
end Go.Proofs.YtdojejkbcogjfaaDoor
