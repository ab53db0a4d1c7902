/- The contracts of the document's own answers: Is, Len, Put, lead, part, Next. -/
import Derived.Test.YtehehmpepkgbeaaDoorBB
namespace Go.Proofs.YtehehmpepkgbeaaDoor
open Go.RowKit
set_option linter.unusedVariables false
set_option linter.unusedSimpArgs false
theorem ris_any (r : Int) (w : World) :
    Calls Tryd.prog 46 #[.int .i64 r] w fun e w' => e = .returned (.bool (isB r)) ∧ w = w' := by
  by_cases h0 : 0 ≤ r
  rotate_left 1
  · have hb : Hid (false = isB r) := Lib.hid (by symm; rw [isB_no]; omega)
    have hd : decide (0 ≤ r) = false := by simpa using h0
    go_enter Tryd.func46, Tryd.ntmps46
    go_wp2
    go_ret
    exact ⟨ret_bool hb.out, rfl⟩
  by_cases h1 : r ≤ 1114111
  rotate_left 1
  · have hb : Hid (false = isB r) := Lib.hid (by symm; rw [isB_no]; omega)
    have hd : decide (r ≤ 1114111) = false := by simpa using h1
    go_enter Tryd.func46, Tryd.ntmps46
    go_wp2
    go_ret
    exact ⟨ret_bool hb.out, rfl⟩
  by_cases h2 : r < 55296
  · have hb : Hid (true = isB r) := Lib.hid (by symm; rw [isB_iff]; omega)
    go_enter Tryd.func46, Tryd.ntmps46
    go_wp2
    go_ret
    exact ⟨ret_bool hb.out, rfl⟩
  · have hb : Hid (decide (57343 < r) = isB r) := Lib.hid (by rw [Bool.eq_iff_iff, isB_iff, decide_eq_true_eq]; omega)
    have hd : decide (r < 55296) = false := by simpa using h2
    go_enter Tryd.func46, Tryd.ntmps46
    go_wp2
    go_ret
    exact ⟨ret_bool hb.out, rfl⟩
theorem rlen_any (r : Int) (w : World) :
    Calls Tryd.prog 40 #[.int .i64 r] w fun e w' => e = .returned (.int .i64 (lenF r)) ∧ w = w' := by
  have hi := ris_any r w
  cases h : isB r
  · rw [h] at hi
    have Hi := Lib.hid hi
    rw [lenF0 h]
    clear h hi
    go_enter Tryd.func40, Tryd.ntmps40
    go_wp2_with (go_at_call 46; refine Hi.out.mono ?_; rintro e w' ⟨rfl, rfl⟩)
    go_ret
    exact ⟨rfl, rfl⟩
  · rw [h] at hi
    have Hi := Lib.hid hi
    rcases isB_cases h with ⟨a, b⟩ | ⟨a, b⟩ | ⟨a, b, _⟩ | ⟨a, b⟩
    · rw [lenF1 h b]
      clear h hi
      go_enter Tryd.func40, Tryd.ntmps40
      go_wp2_with (go_at_call 46; refine Hi.out.mono ?_; rintro e w' ⟨rfl, rfl⟩)
      go_ret
      exact ⟨rfl, rfl⟩
    · rw [lenF2 h a b]
      clear h hi
      go_enter Tryd.func40, Tryd.ntmps40
      go_wp2_with (go_at_call 46; refine Hi.out.mono ?_; rintro e w' ⟨rfl, rfl⟩)
      go_ret
      exact ⟨rfl, rfl⟩
    · rw [lenF3 h a b]
      clear h hi
      go_enter Tryd.func40, Tryd.ntmps40
      go_wp2_with (go_at_call 46; refine Hi.out.mono ?_; rintro e w' ⟨rfl, rfl⟩)
      go_ret
      exact ⟨rfl, rfl⟩
    · rw [lenF4 h a]
      clear h hi
      go_enter Tryd.func40, Tryd.ntmps40
      go_wp2_with (go_at_call 46; refine Hi.out.mono ?_; rintro e w' ⟨rfl, rfl⟩)
      go_ret
      exact ⟨rfl, rfl⟩
theorem and6 (x : Int) (h0 : 0 ≤ x) (h1 : x < 1099511627776) : bits .and .i64 x 63 = x % 64 := bits_mask .i64 40 (by decide) wraps_i64 6 (by decide) x h0 (by omega)
theorem orc (i : Nat) (hi : i ≤ 40) (x y : Int) (hx₀ : 0 ≤ x) (hx : x % 2 ^ i = 0) (hx₁ : x < 2 ^ 40) (h₀ : 0 ≤ y) (h₁ : y < 2 ^ i) (h₂ : y < 2 ^ 40) : bits .or .i64 x y = x + y :=
  bits_join .i64 40 (by decide) wraps_i64 i x y hx₀ hx hx₁ h₀ h₁ h₂
theorem conv_new (w : World) (cs : Array Value) (xs : List UInt8) (h : cs = (xs.map u8v).toArray) (hn : 1 ≤ xs.length) (n : Nat) (he : n = xs.length) : (convert 29 9 (.slice (some ⟨w.heap.size, 0, none⟩) n n)).run Tryd.prog (w.alloc (.cells cs 5)) = .ok (.string (str xs)) (w.alloc (.cells cs 5)) := by
  subst h he
  have := run_convert_bytes_back (P := Tryd.prog) (w.alloc (.cells (xs.map u8v).toArray 5)) 29 9 5 ⟨w.heap.size, 0, none⟩ xs.length xs Tryd.underlying29 Tryd.underlying5 Tryd.underlying9 (by
    intro j hj
    have hadd : (⟨w.heap.size, 0, none⟩ : Addr).add j = ⟨w.heap.size, j, none⟩ := by unfold Addr.add; split <;> simp_all
    rw [hadd, World.cell?_alloc_mark]
    simp [hj, u8v])
  exact this
theorem rput_1 (r : Int) (w : World) (h : isB r = true) (h0 : 0 ≤ r) (h1 : r < 128) : Calls Tryd.prog 30 #[.int .i64 r] w fun e w' => PutS w r e w' := by
  have hl := rlen_any r w
  rw [lenF1 h h1] at hl
  have Hl := Lib.hid hl
  have hw0 : IntKind.u8.wrap r = r := by rw [IntKind.wrap_u8]; omega
  have hconv := conv_new w #[.int .u8 (r)] (enc r) (by
    rw [enc1 h h1]
    simp only [List.map_cons, List.map_nil, u8v]
    rw [by8_val (by omega) (by omega)]) (enc_pos h) 1 (by rw [enc1 h h1]; rfl)
  have HE : Hid (PutS w r (.returned (.tuple #[.string (str (enc r)), .bool true])) (w.alloc (.cells #[.int .u8 (r)] 5))) := Lib.hid (by
    unfold PutS; rw [h]; exact ⟨rfl, (Below.refl _ _).alloc (Nat.le_refl _) _⟩)
  clear h hl
  go_enter Tryd.func30, Tryd.ntmps30
  go_wp2_with (go_at_call 40; refine Hl.out.mono ?_; rintro e w' ⟨rfl, rfl⟩)
  go_ret2
  exact HE.out
theorem rput_2 (r : Int) (w : World) (h : isB r = true) (h0 : 128 ≤ r) (h1 : r < 2048) : Calls Tryd.prog 30 #[.int .i64 r] w fun e w' => PutS w r e w' := by
  have hl := rlen_any r w
  rw [lenF2 h h0 h1] at hl
  have Hl := Lib.hid hl
  have ho0 : bits .or .i64 192 (r / 64) = 192 + r / 64 := orc 5 (by omega) 192 _ (by omega) (by omega) (by omega) (by omega) (by omega) (by omega)
  have hw0 : IntKind.u8.wrap (192 + r / 64) = 192 + r / 64 := by rw [IntKind.wrap_u8]; omega
  have ha1 : bits .and .i64 r 63 = r % 64 := and6 _ (by omega) (by omega)
  have ho1 : bits .or .i64 128 (r % 64) = 128 + r % 64 := orc 6 (by omega) 128 _ (by omega) (by omega) (by omega) (by omega) (by omega) (by omega)
  have hw1 : IntKind.u8.wrap (128 + r % 64) = 128 + r % 64 := by rw [IntKind.wrap_u8]; omega
  have hconv := conv_new w #[.int .u8 (192 + r / 64), .int .u8 (128 + r % 64)] (enc r) (by
    rw [enc2 h h0 h1]
    simp only [List.map_cons, List.map_nil, u8v]
    rw [by8_val (by omega) (by omega), by8_val (by omega) (by omega)]) (enc_pos h) 2 (by rw [enc2 h h0 h1]; rfl)
  have HE : Hid (PutS w r (.returned (.tuple #[.string (str (enc r)), .bool true])) (w.alloc (.cells #[.int .u8 (192 + r / 64), .int .u8 (128 + r % 64)] 5))) := Lib.hid (by
    unfold PutS; rw [h]; exact ⟨rfl, (Below.refl _ _).alloc (Nat.le_refl _) _⟩)
  clear h hl
  go_enter Tryd.func30, Tryd.ntmps30
  go_wp2_with (go_at_call 40; refine Hl.out.mono ?_; rintro e w' ⟨rfl, rfl⟩)
  go_ret2
  exact HE.out
theorem rput_3 (r : Int) (w : World) (h : isB r = true) (h0 : 2048 ≤ r) (h1 : r < 65536) : Calls Tryd.prog 30 #[.int .i64 r] w fun e w' => PutS w r e w' := by
  have hl := rlen_any r w
  rw [lenF3 h h0 h1] at hl
  have Hl := Lib.hid hl
  have ho0 : bits .or .i64 224 (r / 4096) = 224 + r / 4096 := orc 4 (by omega) 224 _ (by omega) (by omega) (by omega) (by omega) (by omega) (by omega)
  have hw0 : IntKind.u8.wrap (224 + r / 4096) = 224 + r / 4096 := by rw [IntKind.wrap_u8]; omega
  have ha1 : bits .and .i64 (r / 64) 63 = r / 64 % 64 := and6 _ (by omega) (by omega)
  have ho1 : bits .or .i64 128 (r / 64 % 64) = 128 + r / 64 % 64 := orc 6 (by omega) 128 _ (by omega) (by omega) (by omega) (by omega) (by omega) (by omega)
  have hw1 : IntKind.u8.wrap (128 + r / 64 % 64) = 128 + r / 64 % 64 := by rw [IntKind.wrap_u8]; omega
  have ha2 : bits .and .i64 r 63 = r % 64 := and6 _ (by omega) (by omega)
  have ho2 : bits .or .i64 128 (r % 64) = 128 + r % 64 := orc 6 (by omega) 128 _ (by omega) (by omega) (by omega) (by omega) (by omega) (by omega)
  have hw2 : IntKind.u8.wrap (128 + r % 64) = 128 + r % 64 := by rw [IntKind.wrap_u8]; omega
  have hconv := conv_new w #[.int .u8 (224 + r / 4096), .int .u8 (128 + r / 64 % 64), .int .u8 (128 + r % 64)] (enc r) (by
    rw [enc3 h h0 h1]
    simp only [List.map_cons, List.map_nil, u8v]
    rw [by8_val (by omega) (by omega), by8_val (by omega) (by omega), by8_val (by omega) (by omega)]) (enc_pos h) 3 (by rw [enc3 h h0 h1]; rfl)
  have HE : Hid (PutS w r (.returned (.tuple #[.string (str (enc r)), .bool true])) (w.alloc (.cells #[.int .u8 (224 + r / 4096), .int .u8 (128 + r / 64 % 64), .int .u8 (128 + r % 64)] 5))) := Lib.hid (by
    unfold PutS; rw [h]; exact ⟨rfl, (Below.refl _ _).alloc (Nat.le_refl _) _⟩)
  clear h hl
  go_enter Tryd.func30, Tryd.ntmps30
  go_wp2_with (go_at_call 40; refine Hl.out.mono ?_; rintro e w' ⟨rfl, rfl⟩)
  go_ret2
  exact HE.out
theorem rput_4 (r : Int) (w : World) (h : isB r = true) (h0 : 65536 ≤ r) (h1 : r ≤ 1114111) : Calls Tryd.prog 30 #[.int .i64 r] w fun e w' => PutS w r e w' := by
  have hl := rlen_any r w
  rw [lenF4 h h0] at hl
  have Hl := Lib.hid hl
  have ho0 : bits .or .i64 240 (r / 262144) = 240 + r / 262144 := orc 3 (by omega) 240 _ (by omega) (by omega) (by omega) (by omega) (by omega) (by omega)
  have hw0 : IntKind.u8.wrap (240 + r / 262144) = 240 + r / 262144 := by rw [IntKind.wrap_u8]; omega
  have ha1 : bits .and .i64 (r / 4096) 63 = r / 4096 % 64 := and6 _ (by omega) (by omega)
  have ho1 : bits .or .i64 128 (r / 4096 % 64) = 128 + r / 4096 % 64 := orc 6 (by omega) 128 _ (by omega) (by omega) (by omega) (by omega) (by omega) (by omega)
  have hw1 : IntKind.u8.wrap (128 + r / 4096 % 64) = 128 + r / 4096 % 64 := by rw [IntKind.wrap_u8]; omega
  have ha2 : bits .and .i64 (r / 64) 63 = r / 64 % 64 := and6 _ (by omega) (by omega)
  have ho2 : bits .or .i64 128 (r / 64 % 64) = 128 + r / 64 % 64 := orc 6 (by omega) 128 _ (by omega) (by omega) (by omega) (by omega) (by omega) (by omega)
  have hw2 : IntKind.u8.wrap (128 + r / 64 % 64) = 128 + r / 64 % 64 := by rw [IntKind.wrap_u8]; omega
  have ha3 : bits .and .i64 r 63 = r % 64 := and6 _ (by omega) (by omega)
  have ho3 : bits .or .i64 128 (r % 64) = 128 + r % 64 := orc 6 (by omega) 128 _ (by omega) (by omega) (by omega) (by omega) (by omega) (by omega)
  have hw3 : IntKind.u8.wrap (128 + r % 64) = 128 + r % 64 := by rw [IntKind.wrap_u8]; omega
  have hconv := conv_new w #[.int .u8 (240 + r / 262144), .int .u8 (128 + r / 4096 % 64), .int .u8 (128 + r / 64 % 64), .int .u8 (128 + r % 64)] (enc r) (by
    rw [enc4 h h0]
    simp only [List.map_cons, List.map_nil, u8v]
    rw [by8_val (by omega) (by omega), by8_val (by omega) (by omega), by8_val (by omega) (by omega), by8_val (by omega) (by omega)]) (enc_pos h) 4 (by rw [enc4 h h0]; rfl)
  have HE : Hid (PutS w r (.returned (.tuple #[.string (str (enc r)), .bool true])) (w.alloc (.cells #[.int .u8 (240 + r / 262144), .int .u8 (128 + r / 4096 % 64), .int .u8 (128 + r / 64 % 64), .int .u8 (128 + r % 64)] 5))) := Lib.hid (by
    unfold PutS; rw [h]; exact ⟨rfl, (Below.refl _ _).alloc (Nat.le_refl _) _⟩)
  clear h hl
  go_enter Tryd.func30, Tryd.ntmps30
  go_wp2_with (go_at_call 40; refine Hl.out.mono ?_; rintro e w' ⟨rfl, rfl⟩)
  go_ret2
  exact HE.out
theorem rput_any (r : Int) (w : World) : Calls Tryd.prog 30 #[.int .i64 r] w fun e w' => PutS w r e w' := by
  cases h : isB r
  · have hl := rlen_any r w
    rw [lenF0 h] at hl
    have Hl := Lib.hid hl
    have HE : Hid (PutS w r (.returned (.tuple #[.string ⟨#[]⟩, .bool false])) w) := Lib.hid (by
      unfold PutS; rw [enc0 h, h]; exact ⟨rfl, Below.refl _ _⟩)
    clear h hl
    go_enter Tryd.func30, Tryd.ntmps30
    go_wp2_with (go_at_call 40; refine Hl.out.mono ?_; rintro e w' ⟨rfl, rfl⟩)
    go_ret2
    exact HE.out
  · rcases isB_cases h with ⟨a, b⟩ | ⟨a, b⟩ | ⟨a, b, _⟩ | ⟨a, b⟩
    · exact rput_1 r w h a b
    · exact rput_2 r w h a b
    · exact rput_3 r w h a b
    · exact rput_4 r w h a b
set_option maxRecDepth 100000 in
theorem lead_a (c : Nat) (w : World) (h : c < 128) : Calls Tryd.prog 51 #[.int .u8 c] w fun e w' => e = .returned (.tuple #[.int .i64 0, .int .u8 0, .int .u8 0]) ∧ w = w' := by
  go_enter Tryd.func51, Tryd.ntmps51
  go_wp2_with fail
  go_ret3
  exact ⟨rfl, rfl⟩
set_option maxRecDepth 100000 in
theorem lead_b (c : Nat) (w : World) (h0 : 128 ≤ c) (h1 : c < 194) : Calls Tryd.prog 51 #[.int .u8 c] w fun e w' => e = .returned (.tuple #[.int .i64 (-1), .int .u8 0, .int .u8 0]) ∧ w = w' := by
  have e1 : decide (194 ≤ c) = false := by simp; omega
  have e2 : decide (224 < c) = false := by simp; omega
  have e3 : decide (240 < c) = false := by simp; omega
  have e4 : decide ((194 : Int) ≤ c) = false := by simp; omega
  have e5 : decide ((224 : Int) < c) = false := by simp; omega
  have e6 : decide ((240 : Int) < c) = false := by simp; omega
  go_enter Tryd.func51, Tryd.ntmps51
  go_wp2_with fail
  go_ret3
  exact ⟨rfl, rfl⟩
set_option maxRecDepth 100000 in
theorem lead_c (c : Nat) (w : World) (h0 : 245 ≤ c) (h1 : c < 256) : Calls Tryd.prog 51 #[.int .u8 c] w fun e w' => e = .returned (.tuple #[.int .i64 (-1), .int .u8 0, .int .u8 0]) ∧ w = w' := by
  have e1 : decide ((c : Int) < 224) = false := by simp; omega
  have e2 : decide ((c : Int) < 240) = false := by simp; omega
  have e3 : decide ((c : Int) < 244) = false := by simp; omega
  go_enter Tryd.func51, Tryd.ntmps51
  go_wp2_with fail
  go_ret3
  exact ⟨rfl, rfl⟩
set_option maxRecDepth 100000 in
theorem lead_d (c : Nat) (w : World) (h0 : 194 ≤ c) (h1 : c < 224) : Calls Tryd.prog 51 #[.int .u8 c] w fun e w' => e = .returned (.tuple #[.int .i64 1, .int .u8 128, .int .u8 191]) ∧ w = w' := by
  go_enter Tryd.func51, Tryd.ntmps51
  go_wp2_with fail
  go_ret3
  exact ⟨rfl, rfl⟩
set_option maxRecDepth 100000 in
theorem lead_e (c : Nat) (w : World) (h : c = 224) : Calls Tryd.prog 51 #[.int .u8 c] w fun e w' => e = .returned (.tuple #[.int .i64 2, .int .u8 160, .int .u8 191]) ∧ w = w' := by
  subst h
  go_enter Tryd.func51, Tryd.ntmps51
  go_wp2_with fail
  go_ret3
  exact ⟨rfl, rfl⟩
set_option maxRecDepth 100000 in
theorem lead_f (c : Nat) (w : World) (h : c = 237) : Calls Tryd.prog 51 #[.int .u8 c] w fun e w' => e = .returned (.tuple #[.int .i64 2, .int .u8 128, .int .u8 159]) ∧ w = w' := by
  subst h
  go_enter Tryd.func51, Tryd.ntmps51
  go_wp2_with fail
  go_ret3
  exact ⟨rfl, rfl⟩
set_option maxRecDepth 100000 in
theorem lead_g (c : Nat) (w : World) (h0 : 225 ≤ c) (h1 : c < 240) (h2 : c ≠ 237) : Calls Tryd.prog 51 #[.int .u8 c] w fun e w' => e = .returned (.tuple #[.int .i64 2, .int .u8 128, .int .u8 191]) ∧ w = w' := by
  have e1 : decide ((c : Int) < 224) = false := by simp; omega
  go_enter Tryd.func51, Tryd.ntmps51
  go_wp2_with fail
  go_ret3
  exact ⟨rfl, rfl⟩
set_option maxRecDepth 100000 in
theorem lead_h (c : Nat) (w : World) (h : c = 240) : Calls Tryd.prog 51 #[.int .u8 c] w fun e w' => e = .returned (.tuple #[.int .i64 3, .int .u8 144, .int .u8 191]) ∧ w = w' := by
  subst h
  go_enter Tryd.func51, Tryd.ntmps51
  go_wp2_with fail
  go_ret3
  exact ⟨rfl, rfl⟩
set_option maxRecDepth 100000 in
theorem lead_i (c : Nat) (w : World) (h0 : 241 ≤ c) (h1 : c < 244) : Calls Tryd.prog 51 #[.int .u8 c] w fun e w' => e = .returned (.tuple #[.int .i64 3, .int .u8 128, .int .u8 191]) ∧ w = w' := by
  have e1 : decide ((c : Int) < 224) = false := by simp; omega
  have e2 : decide ((c : Int) < 240) = false := by simp; omega
  go_enter Tryd.func51, Tryd.ntmps51
  go_wp2_with fail
  go_ret3
  exact ⟨rfl, rfl⟩
set_option maxRecDepth 100000 in
theorem lead_j (c : Nat) (w : World) (h : c = 244) : Calls Tryd.prog 51 #[.int .u8 c] w fun e w' => e = .returned (.tuple #[.int .i64 3, .int .u8 128, .int .u8 143]) ∧ w = w' := by
  subst h
  go_enter Tryd.func51, Tryd.ntmps51
  go_wp2_with fail
  go_ret3
  exact ⟨rfl, rfl⟩
end Go.Proofs.YtehehmpepkgbeaaDoor
