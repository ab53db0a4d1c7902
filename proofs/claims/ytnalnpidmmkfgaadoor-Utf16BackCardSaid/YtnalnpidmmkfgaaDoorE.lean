/- The contracts of what reads a unit and a scalar of UTF-16: utf16.unit, read, the document's own unit, high, low. -/
import Derived.Test.YtnalnpidmmkfgaaDoorC
import Derived.Test.YtnalnpidmmkfgaaDoorU
namespace Go.Proofs.YtnalnpidmmkfgaaDoor
open Go.RowKit
set_option linter.unusedVariables false
set_option linter.unusedSimpArgs false
theorem or8 (x y : Int) (hx₀ : 0 ≤ x) (hx : x % 256 = 0) (hx₁ : x < 1099511627776) (h₀ : 0 ≤ y) (h₁ : y < 256) : bits .or .i64 x y = x + y :=
  bits_join .i64 40 (by decide) wraps_i64 8 x y hx₀ hx (by omega) h₀ (by omega) (by omega)
theorem or10 (x y : Int) (hx₀ : 0 ≤ x) (hx : x % 1024 = 0) (hx₁ : x < 1099511627776) (h₀ : 0 ≤ y) (h₁ : y < 1024) : bits .or .i64 x y = x + y :=
  bits_join .i64 40 (by decide) wraps_i64 10 x y hx₀ hx (by omega) h₀ (by omega) (by omega)
theorem and10 (x : Int) (h₀ : 0 ≤ x) (h₁ : x < 1099511627776) : bits .and .i64 x 1023 = x % 1024 :=
  (bits_mask .i64 40 (by decide) wraps_i64 10 (by decide) x h₀ (by omega)).trans (by omega)
/-- Nothing but draws. -/
def Drew (w w' : World) : Prop := ∃ n, w' = w.drewN n
theorem Drew.refl (w : World) : Drew w w := ⟨0, rfl⟩
theorem Drew.trans {a b c : World} (h : Drew a b) (k : Drew b c) : Drew a c := by
  obtain ⟨n, rfl⟩ := h; obtain ⟨m, rfl⟩ := k
  exact ⟨n + m, by simp [World.drewN, Nat.add_assoc]⟩
theorem Drew.below {w w' : World} (h : Drew w w') (B : Nat) : Below B w w' := by
  obtain ⟨n, rfl⟩ := h; exact ⟨rfl, rfl, rfl, Nat.le_refl _, fun _ _ => rfl⟩
theorem Drew.heap {w w' : World} (h : Drew w w') : w'.heap = w.heap := by obtain ⟨n, rfl⟩ := h; rfl
def UnitS (s : ByteArray) (a : Nat) (big : Bool) (u : Int) (w : World) (e : Ending) (w' : World) : Prop := e = .returned (.int .i64 u) ∧ Drew w w'
theorem unit_any (s : ByteArray) (a : Nat) (big : Bool) (w : World) (h : a + 1 < s.size) (hs : s.size ≤ 100000) :
    Calls Tryd.prog 40 #[.string s, .int .i64 a, .bool big] w fun e w' => UnitS s a big (un big s[a] s[a + 1]) w e w' := by
  have hb1 := u8_lt s[a]
  have hb2 := u8_lt s[a + 1]
  have i0 : (0 : Int) ≤ (a : Int) := by omega
  have i1 : (a : Int) < (s.size : Int) := by omega
  have i2 : (0 : Int) ≤ (a : Int) + 1 := by omega
  have i3 : (a : Int) + 1 < (s.size : Int) := by omega
  cases big
  · have HE : Hid (∀ n, UnitS s a false (un false s[a] s[a + 1]) w (.returned (.int .i64 ((s[a + 1].toNat : Int) * 256 + (s[a].toNat : Int)))) (w.drewN n)) := Lib.hid (fun n => ⟨rfl, ⟨n, rfl⟩⟩)
    have ho : bits .or .i64 ((s[a + 1].toNat : Int) * 256) (s[a].toNat : Int) = (s[a + 1].toNat : Int) * 256 + (s[a].toNat : Int) := or8 _ _ (by omega) (by omega) (by omega) (by omega) (by omega)
    go_enter Tryd.func40, Tryd.ntmps40
    go_wp2_with fail
    go_quiet (fail)
    go_wp2_with fail
    go_ret
    exact HE.out _
  · have HE : Hid (∀ n, UnitS s a true (un true s[a] s[a + 1]) w (.returned (.int .i64 ((s[a].toNat : Int) * 256 + (s[a + 1].toNat : Int)))) (w.drewN n)) := Lib.hid (fun n => ⟨rfl, ⟨n, rfl⟩⟩)
    have ho : bits .or .i64 ((s[a].toNat : Int) * 256) (s[a + 1].toNat : Int) = (s[a].toNat : Int) * 256 + (s[a + 1].toNat : Int) := or8 _ _ (by omega) (by omega) (by omega) (by omega) (by omega)
    go_enter Tryd.func40, Tryd.ntmps40
    go_wp2_with fail
    go_quiet (fail)
    go_wp2_with fail
    go_ret
    exact HE.out _
theorem runit_any (s : ByteArray) (a : Nat) (big : Bool) (w : World) (h : a + 1 < s.size) (hs : s.size ≤ 100000) :
    Calls Tryd.prog 22 #[.string s, .int .i64 a, .bool big] w fun e w' => UnitS s a big (un big s[a] s[a + 1]) w e w' := by
  have hb1 := u8_lt s[a]
  have hb2 := u8_lt s[a + 1]
  have i0 : (0 : Int) ≤ (a : Int) := by omega
  have i1 : (a : Int) < (s.size : Int) := by omega
  have i2 : (0 : Int) ≤ (a : Int) + 1 := by omega
  have i3 : (a : Int) + 1 < (s.size : Int) := by omega
  cases big
  · have HE : Hid (∀ n, UnitS s a false (un false s[a] s[a + 1]) w (.returned (.int .i64 ((s[a + 1].toNat : Int) * 256 + (s[a].toNat : Int)))) (w.drewN n)) := Lib.hid (fun n => ⟨rfl, ⟨n, rfl⟩⟩)
    go_enter Tryd.func22, Tryd.ntmps22
    go_wp2_with fail
    go_quiet (fail)
    go_wp2_with fail
    go_ret
    exact HE.out _
  · have HE : Hid (∀ n, UnitS s a true (un true s[a] s[a + 1]) w (.returned (.int .i64 ((s[a].toNat : Int) * 256 + (s[a + 1].toNat : Int)))) (w.drewN n)) := Lib.hid (fun n => ⟨rfl, ⟨n, rfl⟩⟩)
    go_enter Tryd.func22, Tryd.ntmps22
    go_wp2_with fail
    go_quiet (fail)
    go_wp2_with fail
    go_ret
    exact HE.out _
theorem rhigh_any (u : Int) (w : World) : Calls Tryd.prog 23 #[.int .i64 u] w fun e w' => e = .returned (.bool (hiB u)) ∧ w = w' := by
  by_cases h0 : 55296 ≤ u
  · have hd : decide (55296 ≤ u) = true := by simpa using h0
    have HE : Hid (∀ b, b = decide (u ≤ 56319) → Ending.returned (.bool b) = .returned (.bool (hiB u)) ∧ w = w) := Lib.hid (fun b h => ⟨ret_bool (by rw [h]; unfold hiB; simp [h0]), rfl⟩)
    go_enter Tryd.func23, Tryd.ntmps23
    go_wp2_with fail
    go_ret
    exact ⟨(HE.out _ (by first | rfl | simp)).1, rfl⟩
  · have hd : decide (55296 ≤ u) = false := by simpa using h0
    have HE : Hid (Ending.returned (.bool false) = .returned (.bool (hiB u)) ∧ w = w) := Lib.hid ⟨ret_bool (by unfold hiB; simp [h0]), rfl⟩
    go_enter Tryd.func23, Tryd.ntmps23
    go_wp2_with fail
    go_ret
    exact ⟨HE.out.1, rfl⟩
theorem rlow_any (u : Int) (w : World) : Calls Tryd.prog 24 #[.int .i64 u] w fun e w' => e = .returned (.bool (loB u)) ∧ w = w' := by
  by_cases h0 : 56320 ≤ u
  · have hd : decide (56320 ≤ u) = true := by simpa using h0
    have HE : Hid (∀ b, b = decide (u ≤ 57343) → Ending.returned (.bool b) = .returned (.bool (loB u)) ∧ w = w) := Lib.hid (fun b h => ⟨ret_bool (by rw [h]; unfold loB; simp [h0]), rfl⟩)
    go_enter Tryd.func24, Tryd.ntmps24
    go_wp2_with fail
    go_ret
    exact ⟨(HE.out _ (by first | rfl | simp)).1, rfl⟩
  · have hd : decide (56320 ≤ u) = false := by simpa using h0
    have HE : Hid (Ending.returned (.bool false) = .returned (.bool (loB u)) ∧ w = w) := Lib.hid ⟨ret_bool (by unfold loB; simp [h0]), rfl⟩
    go_enter Tryd.func24, Tryd.ntmps24
    go_wp2_with fail
    go_ret
    exact ⟨HE.out.1, rfl⟩
theorem drop_two (s : ByteArray) (a : Nat) (h : a + 1 < s.size) : s.data.toList.drop a = s[a] :: s[a + 1] :: s.data.toList.drop (a + 2) := by
  have hl : s.data.toList.length = s.size := by simp
  rw [List.drop_eq_getElem_cons (by omega), List.drop_eq_getElem_cons (i := a + 1) (by omega)]
  rfl
theorem drop_last (s : ByteArray) (a : Nat) (h : a + 1 = s.size) : s.data.toList.drop a = [s[a]] := by
  have hl : s.data.toList.length = s.size := by simp
  rw [List.drop_eq_getElem_cons (by omega), List.drop_eq_nil_of_le (by omega)]
  rfl
def Rd16S (s : ByteArray) (a : Nat) (big : Bool) (w : World) (e : Ending) (w' : World) : Prop :=
  e = .returned (.tuple #[.int .i64 (d16 big (s.data.toList.drop a)).1, .int .i64 ((d16 big (s.data.toList.drop a)).2 : Int)]) ∧ Drew w w'
theorem rd16_of {s : ByteArray} {a : Nat} {big : Bool} {w w' : World} {r : Int} {n : Nat} (h : d16 big (s.data.toList.drop a) = (r, n)) (hd : Drew w w') : Rd16S s a big w (.returned (.tuple #[.int .i64 r, .int .i64 (n : Int)])) w' := by
  unfold Rd16S; rw [h]; exact ⟨rfl, hd⟩
set_option maxHeartbeats 1600000 in
theorem read16_any (s : ByteArray) (a : Nat) (big : Bool) (w : World) (h : a < s.size) (hs : s.size ≤ 100000) :
    Calls Tryd.prog 33 #[.string s, .int .i64 a, .bool big] w fun e w' => Rd16S s a big w e w' := by
  by_cases h1 : a + 1 = s.size
  · have HE : Hid (Rd16S s a big w (.returned (.tuple #[.int .i64 (-1), .int .i64 1])) w) := Lib.hid (rd16_of (n := 1) (by rw [drop_last s a h1]; rfl) (Drew.refl w))
    have hd0 : ((a : Int) + 1 == (s.size : Int)) = true := by simp; omega
    go_enter Tryd.func33, Tryd.ntmps33
    go_wp2_with fail
    go_ret2
    exact HE.out
  have h2 : a + 1 < s.size := by omega
  have hd0 : ((a : Int) + 1 == (s.size : Int)) = false := by simp; omega
  have HX := Lib.hid (drop_two s a h2)
  have hlt := un_lt big s[a] s[a + 1]
  have hU : ∀ w1, Calls Tryd.prog 40 #[.string s, .int .i64 a, .bool big] w1 fun e w' => UnitS s a big (un big s[a] s[a + 1]) w1 e w' := fun w1 => unit_any s a big w1 h2 hs
  obtain ⟨u, hu⟩ : ∃ u, un big s[a] s[a + 1] = u := ⟨_, rfl⟩
  rw [hu] at hlt
  simp only [hu] at hU
  have HU := Lib.hid hU
  have HQ := Lib.hid hu
  clear hU hu
  by_cases hlo : loB u = true
  · have hE : ∀ w1, Drew w w1 → Rd16S s a big w (.returned (.tuple #[.int .i64 (-1), .int .i64 2])) w1 := fun w1 hd => rd16_of (n := 2) (by rw [HX.out]; exact d16_lo (by rw [HQ.out]; exact hlo) _) hd
    have HE := Lib.hid hE
    have hc := loB_iff.1 hlo
    have ht : (u / 1024 == 55) = true := by simp; omega
    clear hE hlo hc
    go_enter Tryd.func33, Tryd.ntmps33
    go_wp2_with (go_at_call 40; refine (HU.out _).mono ?_; rintro e w1 ⟨rfl, hd1⟩; have HD1 := Lib.hid hd1; clear hd1 HU)
    go_ret2
    exact HE.out _ HD1.out
  have hlo : loB u = false := by simpa using hlo
  have hnl := loB_no.1 hlo
  have ht : (u / 1024 == 55) = false := by simp; omega
  by_cases hhi : hiB u = true
  rotate_left 1
  · have hhi : hiB u = false := by simpa using hhi
    have hnh := hiB_no.1 hhi
    have hE : ∀ w1, Drew w w1 → Rd16S s a big w (.returned (.tuple #[.int .i64 u, .int .i64 2])) w1 := fun w1 hd => rd16_of (n := 2) (by rw [HX.out, ← HQ.out]; exact d16_un (by rw [HQ.out]; exact hlo) (by rw [HQ.out]; exact hhi) _) hd
    have HE := Lib.hid hE
    have ht2 : (u / 1024 == 54) = false := by simp; omega
    clear hE hlo hhi hnl hnh
    go_enter Tryd.func33, Tryd.ntmps33
    go_wp2_with (go_at_call 40; refine (HU.out _).mono ?_; rintro e w1 ⟨rfl, hd1⟩; have HD1 := Lib.hid hd1; clear hd1 HU)
    go_ret2
    exact HE.out _ HD1.out
  have hnh := hiB_iff.1 hhi
  have ht2 : (u / 1024 == 54) = true := by simp; omega
  by_cases h3 : a + 3 < s.size
  rotate_left 1
  · have hE : ∀ w1, Drew w w1 → Rd16S s a big w (.returned (.tuple #[.int .i64 (-1), .int .i64 2])) w1 := fun w1 hd => rd16_of (n := 2) (by rw [HX.out]; exact d16_hi0 (by rw [HQ.out]; exact hhi) (by simp; omega)) hd
    have HE := Lib.hid hE
    have ht3 : decide ((s.size : Int) ≤ (a : Int) + 3) = true := by simp; omega
    clear hE hlo hhi hnl hnh
    go_enter Tryd.func33, Tryd.ntmps33
    go_wp2_with (go_at_call 40; refine (HU.out _).mono ?_; rintro e w1 ⟨rfl, hd1⟩; have HD1 := Lib.hid hd1; clear hd1 HU)
    go_ret2
    exact HE.out _ HD1.out
  have ht3 : decide ((s.size : Int) ≤ (a : Int) + 3) = false := by simp; omega
  have HX2 := Lib.hid (drop_two s (a + 2) h3)
  have hlt2 := un_lt big s[a + 2] s[a + 3]
  have hU2 : ∀ w1, Calls Tryd.prog 40 #[.string s, .int .i64 ((a : Int) + 2), .bool big] w1 fun e w' => UnitS s (a + 2) big (un big s[a + 2] s[a + 3]) w1 e w' := fun w1 => unit_any s (a + 2) big w1 h3 hs
  obtain ⟨v, hv⟩ : ∃ u, un big s[a + 2] s[a + 3] = u := ⟨_, rfl⟩
  rw [hv] at hlt2
  simp only [hv] at hU2
  have HU2 := Lib.hid hU2
  have HQ2 := Lib.hid hv
  clear hU2 hv
  by_cases hlo2 : loB v = true
  · have hc := loB_iff.1 hlo2
    have hE : ∀ w1, Drew w w1 → Rd16S s a big w (.returned (.tuple #[.int .i64 (65536 + u % 1024 * 1024 + v % 1024), .int .i64 4])) w1 := fun w1 hd => rd16_of (n := 4) (by
      rw [HX.out, HX2.out, d16_hi2 (by rw [HQ.out]; exact hhi) (by rw [HQ2.out]; exact hlo2), HQ.out, HQ2.out]
      congr 1; omega) hd
    have HE := Lib.hid hE
    have ht4 : (v / 1024 != 55) = false := by simp; omega
    have ho : bits .or .i64 (65536 + u % 1024 * 1024) (v % 1024) = 65536 + u % 1024 * 1024 + v % 1024 := or10 _ _ (by omega) (by omega) (by omega) (by omega) (by omega)
    have ha1 : bits .and .i64 u 1023 = u % 1024 := and10 _ (by omega) (by omega)
    have ha2 : bits .and .i64 v 1023 = v % 1024 := and10 _ (by omega) (by omega)
    clear hE hlo hhi hlo2 hc hnl hnh
    go_enter Tryd.func33, Tryd.ntmps33
    go_wp2_with (first
      | (go_at_call 40; refine (HU.out _).mono ?_; rintro e w1 ⟨rfl, hd1⟩; have HD1 := Lib.hid hd1; clear hd1 HU)
      | (go_at_call 40; refine (HU2.out _).mono ?_; rintro e w2 ⟨rfl, hd2⟩; have HD2 : Hid (Drew w w2) := Lib.hid (HD1.out.trans hd2); clear hd2 HU2))
    go_ret2
    exact HE.out _ HD2.out
  · have hlo2 : loB v = false := by simpa using hlo2
    have hc := loB_no.1 hlo2
    have hE : ∀ w1, Drew w w1 → Rd16S s a big w (.returned (.tuple #[.int .i64 (-1), .int .i64 2])) w1 := fun w1 hd => rd16_of (n := 2) (by
      rw [HX.out, HX2.out, d16_hi1 (by rw [HQ.out]; exact hhi) (by rw [HQ2.out]; exact hlo2)]) hd
    have HE := Lib.hid hE
    have ht4 : (v / 1024 != 55) = true := by simp; omega
    clear hE hlo hhi hlo2 hc hnl hnh
    go_enter Tryd.func33, Tryd.ntmps33
    go_wp2_with (first
      | (go_at_call 40; refine (HU.out _).mono ?_; rintro e w1 ⟨rfl, hd1⟩; have HD1 := Lib.hid hd1; clear hd1 HU)
      | (go_at_call 40; refine (HU2.out _).mono ?_; rintro e w2 ⟨rfl, hd2⟩; have HD2 : Hid (Drew w w2) := Lib.hid (HD1.out.trans hd2); clear hd2 HU2))
    go_ret2
    exact HE.out _ HD2.out
end Go.Proofs.YtnalnpidmmkfgaaDoor
