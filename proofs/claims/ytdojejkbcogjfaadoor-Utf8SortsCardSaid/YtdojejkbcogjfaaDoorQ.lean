/- The order of texts and of their scalars; the walk of the law Utf8Sorts. -/
import Derived.Test.YtdojejkbcogjfaaDoorJ
import Derived.Lib.SmallJoins
import Derived.Deep.Slices
import Derived.ChangeSame
import Derived.ChangeVars
import Derived.LaidMore
import Derived.Stop.Joined
namespace Go.Proofs.YtdojejkbcogjfaaDoor
open Go.RowKit
set_option linter.unusedVariables false
set_option linter.unusedSimpArgs false
theorem bl_cons {a b : Int} (s t : List UInt8) (h0 : 0 ≤ a) (h1 : a < 256) (h2 : 0 ≤ b) (h3 : b < 256) : Op.bytesLess (by8 a :: s) (by8 b :: t) = true ↔ a < b ∨ (a = b ∧ Op.bytesLess s t = true) := by
  have e1 := by8_val h0 h1
  have e2 := by8_val h2 h3
  rw [Op.bytesLess]
  simp only [Bool.or_eq_true, decide_eq_true_eq, Bool.and_eq_true, beq_iff_eq]
  constructor
  · rintro (h | ⟨h, hs⟩)
    · left
      have := UInt8.lt_iff_toNat_lt.1 h
      omega
    · right
      have := congrArg (fun x : UInt8 => (x.toNat : Int)) h
      exact ⟨by simpa [e1, e2] using this, hs⟩
  · rintro (h | ⟨h, hs⟩)
    · left
      exact UInt8.lt_iff_toNat_lt.2 (by omega)
    · right
      exact ⟨by rw [h], hs⟩
theorem bl_pre : ∀ (p s t : List UInt8), Op.bytesLess (p ++ s) (p ++ t) = Op.bytesLess s t
  | [], s, t => rfl
  | a :: p, s, t => by
    rw [List.cons_append, List.cons_append, Op.bytesLess, bl_pre p s t]
    simp
theorem bl_anti : ∀ (s t : List UInt8), Op.bytesLess s t = true → Op.bytesLess t s = false ∧ s ≠ t
  | _, [], h => by simp [Op.bytesLess] at h
  | [], b :: t, _ => by simp [Op.bytesLess]
  | a :: s, b :: t, h => by
    simp only [Op.bytesLess, Bool.or_eq_true, decide_eq_true_eq, Bool.and_eq_true, beq_iff_eq] at h
    rcases h with h | ⟨rfl, h⟩
    · have h' := UInt8.lt_iff_toNat_lt.1 h
      refine ⟨?_, ?_⟩
      · simp only [Op.bytesLess, Bool.or_eq_false_iff, decide_eq_false_iff_not, Bool.and_eq_false_iff]
        refine ⟨?_, .inl ?_⟩
        · intro g; have := UInt8.lt_iff_toNat_lt.1 g; omega
        · simp only [beq_eq_false_iff_ne, ne_eq]
          intro g; subst g; omega
      · intro e
        cases e
        omega
    · obtain ⟨h1, h2⟩ := bl_anti s t h
      refine ⟨?_, ?_⟩
      · simp only [Op.bytesLess, h1, Bool.and_false, Bool.or_false, decide_eq_false_iff_not]
        intro g; have := UInt8.lt_iff_toNat_lt.1 g; omega
      · intro e; cases e; exact h2 rfl
theorem enc_less {x y : Int} (hx : isB x = true) (hy : isB y = true) (h : x < y) (s t : List UInt8) : Op.bytesLess (enc x ++ s) (enc y ++ t) = true := by
  rcases isB_cases hx with ⟨a, a'⟩ | ⟨a, a'⟩ | ⟨a, a', a2⟩ | ⟨a, a'⟩ <;> rcases isB_cases hy with ⟨b, b'⟩ | ⟨b, b'⟩ | ⟨b, b', b2⟩ | ⟨b, b'⟩
  · rw [enc1 hx a', enc1 hy b']; simp only [List.cons_append, List.nil_append]
    rw [bl_cons _ _ (by omega) (by omega) (by omega) (by omega)]; exact .inl h
  · rw [enc1 hx a', enc2 hy b b']; simp only [List.cons_append, List.nil_append]
    rw [bl_cons _ _ (by omega) (by omega) (by omega) (by omega)]; exact .inl (by omega)
  · rw [enc1 hx a', enc3 hy b b']; simp only [List.cons_append, List.nil_append]
    rw [bl_cons _ _ (by omega) (by omega) (by omega) (by omega)]; exact .inl (by omega)
  · rw [enc1 hx a', enc4 hy b]; simp only [List.cons_append, List.nil_append]
    rw [bl_cons _ _ (by omega) (by omega) (by omega) (by omega)]; exact .inl (by omega)
  · omega
  · rw [enc2 hx a a', enc2 hy b b']; simp only [List.cons_append, List.nil_append]
    rw [bl_cons _ _ (by omega) (by omega) (by omega) (by omega), bl_cons _ _ (by omega) (by omega) (by omega) (by omega)]
    by_cases g : x / 64 < y / 64
    · exact .inl (by omega)
    · exact .inr ⟨by omega, .inl (by omega)⟩
  · rw [enc2 hx a a', enc3 hy b b']; simp only [List.cons_append, List.nil_append]
    rw [bl_cons _ _ (by omega) (by omega) (by omega) (by omega)]; exact .inl (by omega)
  · rw [enc2 hx a a', enc4 hy b]; simp only [List.cons_append, List.nil_append]
    rw [bl_cons _ _ (by omega) (by omega) (by omega) (by omega)]; exact .inl (by omega)
  · omega
  · omega
  · rw [enc3 hx a a', enc3 hy b b']; simp only [List.cons_append, List.nil_append]
    rw [bl_cons _ _ (by omega) (by omega) (by omega) (by omega), bl_cons _ _ (by omega) (by omega) (by omega) (by omega), bl_cons _ _ (by omega) (by omega) (by omega) (by omega)]
    by_cases g : x / 4096 < y / 4096
    · exact .inl (by omega)
    · by_cases g2 : x / 64 % 64 < y / 64 % 64
      · exact .inr ⟨by omega, .inl (by omega)⟩
      · exact .inr ⟨by omega, .inr ⟨by omega, .inl (by omega)⟩⟩
  · rw [enc3 hx a a', enc4 hy b]; simp only [List.cons_append, List.nil_append]
    rw [bl_cons _ _ (by omega) (by omega) (by omega) (by omega)]; exact .inl (by omega)
  · omega
  · omega
  · omega
  · rw [enc4 hx a, enc4 hy b]; simp only [List.cons_append, List.nil_append]
    rw [bl_cons _ _ (by omega) (by omega) (by omega) (by omega), bl_cons _ _ (by omega) (by omega) (by omega) (by omega), bl_cons _ _ (by omega) (by omega) (by omega) (by omega), bl_cons _ _ (by omega) (by omega) (by omega) (by omega)]
    by_cases g : x / 262144 < y / 262144
    · exact .inl (by omega)
    · by_cases g2 : x / 4096 % 64 < y / 4096 % 64
      · exact .inr ⟨by omega, .inl (by omega)⟩
      · by_cases g3 : x / 64 % 64 < y / 64 % 64
        · exact .inr ⟨by omega, .inr ⟨by omega, .inl (by omega)⟩⟩
        · exact .inr ⟨by omega, .inr ⟨by omega, .inr ⟨by omega, .inl (by omega)⟩⟩⟩
theorem split_at {xs : List Int} {k : Nat} (h : k < xs.length) : encs xs = encs (xs.take k) ++ (enc xs[k] ++ encs (xs.drop (k + 1))) := by
  rw [← encs_cons, ← List.drop_eq_getElem_cons h, ← encs_app, List.take_append_drop]
theorem allB_at {xs : List Int} (h : allB xs = true) {k : Nat} (hk : k < xs.length) : isB xs[k] = true := by
  simp only [allB, List.all_eq_true] at h
  exact h _ (List.getElem_mem hk)
/-- Rows that part at k. -/
theorem sorts_lt {xs ys : List Int} (hx : allB xs = true) (hy : allB ys = true) {k : Nat} (h1 : k < xs.length) (h2 : k < ys.length) (he : xs.take k = ys.take k) (h : xs[k] < ys[k]) :
    Op.bytesLess (encs xs) (encs ys) = true := by
  rw [split_at h1, split_at h2, he, bl_pre]
  exact enc_less (allB_at hx h1) (allB_at hy h2) h _ _
theorem sorts_end {xs ys : List Int} (hy : allB ys = true) {k : Nat} (h1 : k = xs.length) (h2 : k < ys.length) (he : xs.take k = ys.take k) : Op.bytesLess (encs xs) (encs ys) = true := by
  have e : xs = xs.take k := (List.take_of_length_le (by omega)).symm
  rw [e, split_at h2, he]
  have := bl_pre (encs (ys.take k)) [] (enc ys[k] ++ encs (ys.drop (k + 1)))
  rw [List.append_nil] at this
  rw [this]
  have hp := enc_pos (allB_at hy h2)
  cases g : enc ys[k] ++ encs (ys.drop (k + 1)) with
  | nil =>
    have := congrArg List.length g
    simp at this
    rw [this.1] at hp; simp at hp
  | cons b t => rfl
theorem fin_below {w w1 w2 : World} (h : Below w.heap.size w w1) (hb : Below w1.heap.size w1 w2) : Below w.heap.size w w2 := h.trans (hb.mono h.size)
set_option maxRecDepth 100000 in
set_option maxHeartbeats 2000000 in
theorem sorts_n (p q : Option Addr) (N M cap cap2 : Nat) (xs ys : List Int) (w : World) (HG : Hid (Gl w)) (HI : Hid (Ints w (.slice p N cap) xs)) (HJ : Hid (Ints w (.slice q M cap2) ys)) (HN : Hid (xs.length = N)) (HM : Hid (ys.length = M)) (hN : N ≤ 500) (hM : M ≤ 500) (hx : allB xs = false)  : Calls Tryd.prog 8 #[.slice p N cap, .slice q M cap2] w fun e w' => RetB true w e w' := by
  have TA : Hid (∀ w1, Gl w1 → Below w.heap.size w w1 → Calls Tryd.prog 20 #[.slice p N cap] w1 fun e w' => e = .returned (.tuple #[.string ⟨#[]⟩, .bool false]) ∧ Below w1.heap.size w1 w') := Lib.hid (fun w1 h hbl => by
    have := text_any _ xs w1 h (HI.out.below hbl) (by rw [HN.out]; omega); unfold TextS at this; rw [hx] at this; exact this)
  obtain ⟨b, hb⟩ : ∃ b, allB ys = b := ⟨_, rfl⟩
  obtain ⟨Y, hY⟩ : ∃ Y, str (if b = true then encs ys else []) = Y := ⟨_, rfl⟩
  have TB : Hid (∀ w1, Gl w1 → Below w.heap.size w w1 → Calls Tryd.prog 20 #[.slice q M cap2] w1 fun e w' => e = .returned (.tuple #[.string Y, .bool b]) ∧ Below w1.heap.size w1 w') := Lib.hid (fun w1 h hbl => by
    have := text_any _ ys w1 h (HJ.out.below hbl) (by rw [HM.out]; omega); unfold TextS at this; rwa [hb, hY] at this)
  clear hx hb hY
  have hd0 : decide ((500 : Int) < (N : Int)) = false := by simp; omega
  have hd1 : decide ((500 : Int) < (M : Int)) = false := by simp; omega
  go_enter Tryd.func8, Tryd.ntmps8
  go_wp2_with (first
    | (go_at_call 20; refine (TA.out _ HG.out (Below.refl _ _)).mono ?_; rintro e w1 ⟨rfl, hb⟩; have HB1 := Lib.hid hb; have HI1 := Lib.hid (HI.out.below hb); have HJ1 := Lib.hid (HJ.out.below hb); clear hb TA)
    | (go_at_call 20; refine (TB.out _ (HG.out.below' HB1.out) HB1.out).mono ?_; rintro e w2 ⟨rfl, hb⟩; have HB2 : Hid (Below w.heap.size w w2) := Lib.hid (below_call HB1.out hb); have HI2 := Lib.hid (HI1.out.below hb); have HJ2 := Lib.hid (HJ1.out.below hb); clear hb TB)
    | (go_at_call 9; refine (wakes_any _ (HG.out.below' HB2.out)).mono ?_; rintro e w3 ⟨rfl, hb⟩; have HB3 : Hid (Below w.heap.size w w3) := Lib.hid (below_call HB2.out hb); clear hb))
  go_ret
  exact ⟨rfl, HB3.out⟩
set_option maxRecDepth 100000 in
set_option maxHeartbeats 2000000 in
theorem sorts_yn (p q : Option Addr) (N M cap cap2 : Nat) (xs ys : List Int) (w : World) (HG : Hid (Gl w)) (HI : Hid (Ints w (.slice p N cap) xs)) (HJ : Hid (Ints w (.slice q M cap2) ys)) (HN : Hid (xs.length = N)) (HM : Hid (ys.length = M)) (hN : N ≤ 500) (hM : M ≤ 500) (hx : allB xs = true) (hy : allB ys = false) : Calls Tryd.prog 8 #[.slice p N cap, .slice q M cap2] w fun e w' => RetB true w e w' := by
  obtain ⟨X, hX⟩ : ∃ X, str (encs xs) = X := ⟨_, rfl⟩
  have TA : Hid (∀ w1, Gl w1 → Below w.heap.size w w1 → Calls Tryd.prog 20 #[.slice p N cap] w1 fun e w' => e = .returned (.tuple #[.string X, .bool true]) ∧ Below w1.heap.size w1 w') := Lib.hid (fun w1 h hbl => by
    have := text_any _ xs w1 h (HI.out.below hbl) (by rw [HN.out]; omega); unfold TextS at this; rwa [hx, if_pos rfl, hX] at this)
  have TB : Hid (∀ w1, Gl w1 → Below w.heap.size w w1 → Calls Tryd.prog 20 #[.slice q M cap2] w1 fun e w' => e = .returned (.tuple #[.string ⟨#[]⟩, .bool false]) ∧ Below w1.heap.size w1 w') := Lib.hid (fun w1 h hbl => by
    have := text_any _ ys w1 h (HJ.out.below hbl) (by rw [HM.out]; omega); unfold TextS at this; rw [hy] at this; exact this)
  clear hx hy hX
  have hd0 : decide ((500 : Int) < (N : Int)) = false := by simp; omega
  have hd1 : decide ((500 : Int) < (M : Int)) = false := by simp; omega
  go_enter Tryd.func8, Tryd.ntmps8
  go_wp2_with (first
    | (go_at_call 20; refine (TA.out _ HG.out (Below.refl _ _)).mono ?_; rintro e w1 ⟨rfl, hb⟩; have HB1 := Lib.hid hb; have HI1 := Lib.hid (HI.out.below hb); have HJ1 := Lib.hid (HJ.out.below hb); clear hb TA)
    | (go_at_call 20; refine (TB.out _ (HG.out.below' HB1.out) HB1.out).mono ?_; rintro e w2 ⟨rfl, hb⟩; have HB2 : Hid (Below w.heap.size w w2) := Lib.hid (below_call HB1.out hb); have HI2 := Lib.hid (HI1.out.below hb); have HJ2 := Lib.hid (HJ1.out.below hb); clear hb TB)
    | (go_at_call 9; refine (wakes_any _ (HG.out.below' HB2.out)).mono ?_; rintro e w3 ⟨rfl, hb⟩; have HB3 : Hid (Below w.heap.size w w3) := Lib.hid (below_call HB2.out hb); clear hb))
  go_ret
  exact ⟨rfl, HB3.out⟩
theorem ints_cell {w : World} {p : Option Addr} {n cap : Nat} {xs : List Int} (h : Ints w (.slice p n cap) xs) {k : Nat} (hk : k < xs.length) : ∃ b off, p = some ⟨b, off, none⟩ ∧ w.cell? ⟨b, off + k, none⟩ = some (.int .i64 xs[k]) := by
  rcases h with ⟨e, _⟩ | ⟨b, off, cp, e, _, hc⟩
  · subst e; simp at hk
  · simp at e; exact ⟨b, off, e.1, hc k hk⟩
set_option maxRecDepth 100000 in
set_option maxHeartbeats 4000000 in
theorem sorts_yy (p q : Option Addr) (N M cap cap2 : Nat) (xs ys : List Int) (w : World) (HG : Hid (Gl w)) (HI : Hid (Ints w (.slice p N cap) xs)) (HJ : Hid (Ints w (.slice q M cap2) ys)) (HN : Hid (xs.length = N)) (HM : Hid (ys.length = M)) (hN : N ≤ 500) (hM : M ≤ 500) (hx : allB xs = true) (hy : allB ys = true) : Calls Tryd.prog 8 #[.slice p N cap, .slice q M cap2] w fun e w' => RetB true w e w' := by
  obtain ⟨X, hX⟩ : ∃ X, str (encs xs) = X := ⟨_, rfl⟩
  obtain ⟨Y, hY⟩ : ∃ X, str (encs ys) = X := ⟨_, rfl⟩
  have HXl : Hid (X.toList = encs xs) := Lib.hid (by rw [Lib.toList_data, ← hX]; rfl)
  have HYl : Hid (Y.toList = encs ys) := Lib.hid (by rw [Lib.toList_data, ← hY]; rfl)
  have TA : Hid (∀ w1, Gl w1 → Below w.heap.size w w1 → Calls Tryd.prog 20 #[.slice p N cap] w1 fun e w' => e = .returned (.tuple #[.string X, .bool true]) ∧ Below w1.heap.size w1 w') := Lib.hid (fun w1 h hbl => by
    have := text_any _ xs w1 h (HI.out.below hbl) (by rw [HN.out]; omega); unfold TextS at this; rwa [hx, if_pos rfl, hX] at this)
  have TB : Hid (∀ w1, Gl w1 → Below w.heap.size w w1 → Calls Tryd.prog 20 #[.slice q M cap2] w1 fun e w' => e = .returned (.tuple #[.string Y, .bool true]) ∧ Below w1.heap.size w1 w') := Lib.hid (fun w1 h hbl => by
    have := text_any _ ys w1 h (HJ.out.below hbl) (by rw [HM.out]; omega); unfold TextS at this; rwa [hy, if_pos rfl, hY] at this)
  have HX := Lib.hid hx
  have HY := Lib.hid hy
  clear hx hy hX hY
  have hd0 : decide ((500 : Int) < (N : Int)) = false := by simp; omega
  have hd1 : decide ((500 : Int) < (M : Int)) = false := by simp; omega
  go_enter Tryd.func8, Tryd.ntmps8
  go_wp2_with (first
    | (go_at_call 20; refine (TA.out _ HG.out (Below.refl _ _)).mono ?_; rintro e w1 ⟨rfl, hb⟩; have HB1 := Lib.hid hb; have HI1 := Lib.hid (HI.out.below hb); have HJ1 := Lib.hid (HJ.out.below hb); clear hb TA)
    | (go_at_call 20; refine (TB.out _ (HG.out.below' HB1.out) HB1.out).mono ?_; rintro e w2 ⟨rfl, hb⟩; have HB2 : Hid (Below w.heap.size w w2) := Lib.hid (below_call HB1.out hb); have HI2 := Lib.hid (HI1.out.below hb); have HJ2 := Lib.hid (HJ1.out.below hb); clear hb TB))
  go_loopg [9] (N + 1) (fun g q9 wr => ∃ (k : Nat), k + g = N + 1 ∧ q9 = .int .i64 k ∧ k ≤ N ∧ k ≤ M ∧ Hid (xs.take k = ys.take k) ∧ ∃ d, Hid (wr = w2.drewN d))
  case atStart => exact ⟨0, by omega, rfl, by omega, by omega, Lib.hid rfl, 0, Lib.hid rfl⟩
  case round =>
    obtain ⟨k, hkg, rfl, hkN, hkM, HT, d, HD⟩ := hrel
    have HGr : Hid (Gl wr) := Lib.hid (by rw [HD.out]; exact (HG.out.below' HB2.out).drewN d)
    have HBr : Hid (Below w.heap.size w wr) := Lib.hid (by rw [HD.out]; exact below_draws HB2.out d)
    have hk0 : (0 : Int) ≤ (k : Int) := by omega
    by_cases h1 : k < N
    rotate_left 1
    · have hd2 : decide (k < N) = false := by simpa using h1
      have hkn : k = N := by omega
      by_cases h2 : k < M
      · have hk2 : (k : Int) < (M : Int) := by omega
        have hL : Op.bytesLess X.toList Y.toList = true := by rw [HXl.out, HYl.out]; exact sorts_end HY.out (by rw [HN.out]; exact hkn) (by rw [HM.out]; exact h2) HT.out
        have hE : ¬ X.toList = Y.toList := (bl_anti _ _ hL).2
        have hEb : (X.toList == Y.toList) = false := by simpa using hE
        have g1 : ((k : Int) == (N : Int)) = true := by simp; omega
        have g2 : ((k : Int) == (M : Int)) = false := by simp; omega
        have g3 : decide (k = N) = true := by simpa using hkn
        have g4 : decide (k = M) = false := by simp; omega
        have g5 : (k == N) = true := by simpa using hkn
        have g6 : (k == M) = false := by simp; omega
        clear hkn h1 h2 HT HI2 HJ2
        go_wp2_with fail
        go_quiet (fail)
        go_wp2_with fail
        go_quiet (fail)
        go_wp2_with (go_at_call 9; refine (wakes_any _ (HGr.out.drewN _)).mono ?_; rintro e w3 ⟨rfl, hb⟩; have HB3 : Hid (Below w.heap.size w w3) := Lib.hid (fin_below (below_draws HBr.out _) hb); clear hb)
        go_ret
        exact ⟨rfl, HB3.out⟩
      · have hkm : k = M := by omega
        have hd3 : decide (k < M) = false := by simpa using h2
        have hXY : X.toList = Y.toList := by
          have e1 := List.take_of_length_le (show xs.length ≤ k by rw [HN.out]; omega)
          have e2 := List.take_of_length_le (show ys.length ≤ k by rw [HM.out]; omega)
          rw [HXl.out, HYl.out, ← e1, ← e2, HT.out]
        have hL : Op.bytesLess Y.toList Y.toList = false := by
          cases g : Op.bytesLess Y.toList Y.toList
          · rfl
          · exact absurd rfl (bl_anti _ _ g).2
        have g1 : ((k : Int) == (N : Int)) = true := by simp; omega
        have g2 : ((k : Int) == (M : Int)) = true := by simp; omega
        have g5 : (k == N) = true := by simpa using hkn
        have g6 : (k == M) = true := by simpa using hkm
        clear hkn hkm h1 h2 HT HI2 HJ2
        go_wp2_with fail
        go_quiet (fail)
        go_wp2_with fail
        go_quiet (fail)
        go_wp2_with (go_at_call 9; refine (wakes_any _ (HGr.out.drewN _)).mono ?_; rintro e w3 ⟨rfl, hb⟩; have HB3 : Hid (Below w.heap.size w w3) := Lib.hid (fin_below (below_draws HBr.out _) hb); clear hb)
        go_ret
        exact ⟨rfl, HB3.out⟩
    have hk1 : (k : Int) < (N : Int) := by omega
    by_cases h2 : k < M
    rotate_left 1
    · have hd3 : decide (k < M) = false := by simpa using h2
      have hkm : k = M := by omega
      have hL' : Op.bytesLess Y.toList X.toList = true := by rw [HXl.out, HYl.out]; exact sorts_end HX.out (by rw [HM.out]; exact hkm) (by rw [HN.out]; exact h1) HT.out.symm
      have hL : Op.bytesLess X.toList Y.toList = false := (bl_anti _ _ hL').1
      have hE : ¬ X.toList = Y.toList := fun e => (bl_anti _ _ hL').2 e.symm
      have hEb : (X.toList == Y.toList) = false := by simpa using hE
      have g1 : ((k : Int) == (N : Int)) = false := by simp; omega
      have g5 : (k == N) = false := by simp; omega
      have g2 : ((k : Int) == (M : Int)) = true := by simp; omega
      have g6 : (k == M) = true := by simpa using hkm
      clear hkm h1 h2 HT HI2 HJ2 hL'
      go_wp2_with fail
      go_quiet (fail)
      go_wp2_with fail
      go_quiet (fail)
      go_wp2_with (go_at_call 9; refine (wakes_any _ (HGr.out.drewN _)).mono ?_; rintro e w3 ⟨rfl, hb⟩; have HB3 : Hid (Below w.heap.size w w3) := Lib.hid (fin_below (below_draws HBr.out _) hb); clear hb)
      go_ret
      exact ⟨rfl, HB3.out⟩
    have hk2 : (k : Int) < (M : Int) := by omega
    have hx1 : k < xs.length := by rw [HN.out]; exact h1
    have hy1 : k < ys.length := by rw [HM.out]; exact h2
    obtain ⟨x, hxv⟩ : ∃ r, xs[k] = r := ⟨_, rfl⟩
    obtain ⟨y, hyv⟩ : ∃ r, ys[k] = r := ⟨_, rfl⟩
    obtain ⟨b1, o1, hp, c1⟩ := ints_cell HI2.out hx1
    obtain ⟨b2, o2, hq, c2⟩ := ints_cell HJ2.out hy1
    rw [hxv] at c1
    rw [hyv] at c2
    have cx : wr.cell? ⟨b1, o1 + k, none⟩ = some (.int .i64 x) := by rw [HD.out]; exact c1
    have cy : wr.cell? ⟨b2, o2 + k, none⟩ = some (.int .i64 y) := by rw [HD.out]; exact c2
    subst hp hq
    by_cases hxy : x = y
    · have HT2 : Hid (xs.take (k + 1) = ys.take (k + 1)) := Lib.hid (by
        rw [List.take_succ_eq_append_getElem hx1, List.take_succ_eq_append_getElem hy1, HT.out, hxv, hyv, hxy])
      have hde : (x == y) = true := by simpa using hxy
      clear hxy hxv hyv hx1 hy1 c1 c2 HI2 HJ2
      go_wp2_with fail
      go_quiet (fail)
      go_wp2_with fail
      go_roundg (gk - 1)
      case measure => omega
      case rel => exact ⟨k + 1, by omega, by go_num, by omega, by omega, HT2, _, Lib.hid (by rw [HD.out]; exact drewN_add _ _ _)⟩
    · have hde : (x == y) = false := by simpa using hxy
      have g1 : ((k : Int) == (N : Int)) = false := by simp; omega
      have g5 : (k == N) = false := by simp; omega
      by_cases hlt : x < y
      · have hL : Op.bytesLess X.toList Y.toList = true := by rw [HXl.out, HYl.out]; exact sorts_lt HX.out HY.out hx1 hy1 HT.out (by rw [hxv, hyv]; exact hlt)
        have hE : ¬ X.toList = Y.toList := (bl_anti _ _ hL).2
        have hEb : (X.toList == Y.toList) = false := by simpa using hE
        have hdl : decide (x < y) = true := by simpa using hlt
        clear hxy hxv hyv hx1 hy1 c1 c2 HI2 HJ2 h1 h2 HT
        go_wp2_with fail
        go_quiet (fail)
        go_wp2_with fail
        go_quiet (fail)
        go_wp2_with (go_at_call 9; refine (wakes_any _ (HGr.out.drewN _)).mono ?_; rintro e w3 ⟨rfl, hb⟩; have HB3 : Hid (Below w.heap.size w w3) := Lib.hid (fin_below (below_draws HBr.out _) hb); clear hb)
        go_ret
        exact ⟨rfl, HB3.out⟩
      · have hL' : Op.bytesLess Y.toList X.toList = true := by rw [HXl.out, HYl.out]; exact sorts_lt HY.out HX.out hy1 hx1 HT.out.symm (by rw [hxv, hyv]; omega)
        have hL : Op.bytesLess X.toList Y.toList = false := (bl_anti _ _ hL').1
        have hE : ¬ X.toList = Y.toList := fun e => (bl_anti _ _ hL').2 e.symm
        have hEb : (X.toList == Y.toList) = false := by simpa using hE
        have hdl : decide (x < y) = false := by simpa using hlt
        clear hxy hxv hyv hx1 hy1 c1 c2 HI2 HJ2 h1 h2 HT hL'
        go_wp2_with fail
        go_quiet (fail)
        go_wp2_with fail
        go_quiet (fail)
        go_wp2_with (go_at_call 9; refine (wakes_any _ (HGr.out.drewN _)).mono ?_; rintro e w3 ⟨rfl, hb⟩; have HB3 : Hid (Below w.heap.size w w3) := Lib.hid (fin_below (below_draws HBr.out _) hb); clear hb)
        go_ret
        exact ⟨rfl, HB3.out⟩
set_option maxRecDepth 100000 in
set_option maxHeartbeats 2000000 in
theorem sorts_walk (v u : Value) (xs ys : List Int) (w : World) (hg : Gl w) (hI : Ints w v xs) (hJ : Ints w u ys) (hxl : xs.length ≤ maxLen) (hyl : ys.length ≤ maxLen) : Calls Tryd.prog 8 #[v, u] w fun e w' => RetB true w e w' := by
  have HG := Lib.hid hg
  have HI := Lib.hid hI
  have HJ := Lib.hid hJ
  obtain ⟨p, cap, rfl⟩ := hI.form
  obtain ⟨q, cap2, rfl⟩ := hJ.form
  clear hg hI hJ
  unfold maxLen at hxl hyl
  obtain ⟨N, HN⟩ : ∃ N, Hid (xs.length = N) := ⟨_, Lib.hid rfl⟩
  obtain ⟨M, HM⟩ : ∃ N, Hid (ys.length = N) := ⟨_, Lib.hid rfl⟩
  rw [HN.out] at hxl
  rw [HM.out] at hyl
  have HI2 : Hid (Ints w (.slice p N cap) xs) := Lib.hid (by rw [← HN.out]; exact HI.out)
  have HJ2 : Hid (Ints w (.slice q M cap2) ys) := Lib.hid (by rw [← HM.out]; exact HJ.out)
  rw [HN.out, HM.out]
  clear HI HJ
  by_cases hlt2 : N ≤ 500
  rotate_left 1
  · have hgt : 500 < N := by omega
    have hd : decide ((500 : Int) < (N : Int)) = true := by simp; omega
    clear hlt2
    go_enter Tryd.func8, Tryd.ntmps8
    go_wp2_with (go_at_call 9; refine (wakes_any _ HG.out).mono ?_; rintro e w1 ⟨rfl, hb1⟩; have HB1 := Lib.hid hb1; clear hb1)
    go_ret
    exact ⟨rfl, HB1.out⟩
  by_cases hlt : M ≤ 500
  rotate_left 1
  · have hgt : 500 < M := by omega
    have hd0 : decide ((500 : Int) < (N : Int)) = false := by simp; omega
    have hd : decide ((500 : Int) < (M : Int)) = true := by simp; omega
    clear hlt
    go_enter Tryd.func8, Tryd.ntmps8
    go_wp2_with (go_at_call 9; refine (wakes_any _ HG.out).mono ?_; rintro e w1 ⟨rfl, hb1⟩; have HB1 := Lib.hid hb1; clear hb1)
    go_ret
    exact ⟨rfl, HB1.out⟩
  cases h1 : allB xs
  · exact sorts_n p q N M cap cap2 xs ys w HG HI2 HJ2 HN HM hlt2 hlt h1
  cases h2 : allB ys
  · exact sorts_yn p q N M cap cap2 xs ys w HG HI2 HJ2 HN HM hlt2 hlt h1 h2
  · exact sorts_yy p q N M cap cap2 xs ys w HG HI2 HJ2 HN HM hlt2 hlt h1 h2
end Go.Proofs.YtdojejkbcogjfaaDoor
