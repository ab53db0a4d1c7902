/- Joined: BD, BP. -/
import Derived.BigQuiet
import Derived.Deep.AppendLies
import Derived.Deep.DeepCutAuto
import Derived.Deep.LoopGhost
import Derived.Deep.QuietTactic
import Derived.Deep.RegionHeld3
import Derived.Laws.AppendOwn
import Derived.Laws.BytesArg
import Derived.Laws.IdiomStrings
import Derived.Lib.Hide
import Derived.LoopN
import Derived.Maps.AppendAt
import Derived.OpenShut
import Derived.Outline
import Derived.ProofKit
import Derived.StillTailTactics
import Derived.Test.YtppabkllconkjaaGreatDoorRows
import Derived.WalkKit
import Derived.WalkMore
import Derived.Test.YtppabkllconkjaaGreatDoorK01
/- The contracts of the document's own answers: Is, Len, Put, lead, part, Next. -/
namespace Go.Proofs.YtppabkllconkjaaGreatDoor.U
open Go.RowKit
set_option linter.unusedVariables false
set_option linter.unusedSimpArgs false
set_option maxRecDepth 100000
theorem ris_any (r : Int) (w : World) :
    Calls Tryz.prog 166 #[.int .i64 r] w fun e w' => e = .returned (.bool (isB r)) ∧ w = w' := by
  by_cases h0 : 0 ≤ r
  rotate_left 1
  · have hb : Hid (false = isB r) := Lib.hid (by symm; rw [isB_no]; omega)
    have hd : decide (0 ≤ r) = false := by simpa using h0
    go_enter Tryz.func166, Tryz.ntmps166
    go_wp2
    go_ret
    exact ⟨ret_bool hb.out, rfl⟩
  by_cases h1 : r ≤ 1114111
  rotate_left 1
  · have hb : Hid (false = isB r) := Lib.hid (by symm; rw [isB_no]; omega)
    have hd : decide (r ≤ 1114111) = false := by simpa using h1
    go_enter Tryz.func166, Tryz.ntmps166
    go_wp2
    go_ret
    exact ⟨ret_bool hb.out, rfl⟩
  by_cases h2 : r < 55296
  · have hb : Hid (true = isB r) := Lib.hid (by symm; rw [isB_iff]; omega)
    go_enter Tryz.func166, Tryz.ntmps166
    go_wp2
    go_ret
    exact ⟨ret_bool hb.out, rfl⟩
  · have hb : Hid (decide (57343 < r) = isB r) := Lib.hid (by rw [Bool.eq_iff_iff, isB_iff, decide_eq_true_eq]; omega)
    have hd : decide (r < 55296) = false := by simpa using h2
    go_enter Tryz.func166, Tryz.ntmps166
    go_wp2
    go_ret
    exact ⟨ret_bool hb.out, rfl⟩
theorem rlen_any (r : Int) (w : World) :
    Calls Tryz.prog 136 #[.int .i64 r] w fun e w' => e = .returned (.int .i64 (lenF r)) ∧ w = w' := by
  have hi := ris_any r w
  cases h : isB r
  · rw [h] at hi
    have Hi := Lib.hid hi
    rw [lenF0 h]
    clear h hi
    go_enter Tryz.func136, Tryz.ntmps136
    go_wp2_with (go_at_call 166; refine Hi.out.mono ?_; rintro e w' ⟨rfl, rfl⟩)
    go_ret
    exact ⟨rfl, rfl⟩
  · rw [h] at hi
    have Hi := Lib.hid hi
    rcases isB_cases h with ⟨a, b⟩ | ⟨a, b⟩ | ⟨a, b, _⟩ | ⟨a, b⟩
    · rw [lenF1 h b]
      clear h hi
      go_enter Tryz.func136, Tryz.ntmps136
      go_wp2_with (go_at_call 166; refine Hi.out.mono ?_; rintro e w' ⟨rfl, rfl⟩)
      go_ret
      exact ⟨rfl, rfl⟩
    · rw [lenF2 h a b]
      clear h hi
      go_enter Tryz.func136, Tryz.ntmps136
      go_wp2_with (go_at_call 166; refine Hi.out.mono ?_; rintro e w' ⟨rfl, rfl⟩)
      go_ret
      exact ⟨rfl, rfl⟩
    · rw [lenF3 h a b]
      clear h hi
      go_enter Tryz.func136, Tryz.ntmps136
      go_wp2_with (go_at_call 166; refine Hi.out.mono ?_; rintro e w' ⟨rfl, rfl⟩)
      go_ret
      exact ⟨rfl, rfl⟩
    · rw [lenF4 h a]
      clear h hi
      go_enter Tryz.func136, Tryz.ntmps136
      go_wp2_with (go_at_call 166; refine Hi.out.mono ?_; rintro e w' ⟨rfl, rfl⟩)
      go_ret
      exact ⟨rfl, rfl⟩
theorem and6 (x : Int) (h0 : 0 ≤ x) (h1 : x < 1099511627776) : bits .and .i64 x 63 = x % 64 := bits_mask .i64 40 (by decide) wraps_i64 6 (by decide) x h0 (by omega)
theorem orc (i : Nat) (hi : i ≤ 40) (x y : Int) (hx₀ : 0 ≤ x) (hx : x % 2 ^ i = 0) (hx₁ : x < 2 ^ 40) (h₀ : 0 ≤ y) (h₁ : y < 2 ^ i) (h₂ : y < 2 ^ 40) : bits .or .i64 x y = x + y :=
  bits_join .i64 40 (by decide) wraps_i64 i x y hx₀ hx hx₁ h₀ h₁ h₂
theorem conv_new (w : World) (cs : Array Value) (xs : List UInt8) (h : cs = (xs.map u8v).toArray) (hn : 1 ≤ xs.length) (n : Nat) (he : n = xs.length) : (convert 99 9 (.slice (some ⟨w.heap.size, 0, none⟩) n n)).run Tryz.prog (w.alloc (.cells cs 5)) = .ok (.string (str xs)) (w.alloc (.cells cs 5)) := by
  subst h he
  have := run_convert_bytes_back (P := Tryz.prog) (w.alloc (.cells (xs.map u8v).toArray 5)) 99 9 5 ⟨w.heap.size, 0, none⟩ xs.length xs Tryz.underlying99 Tryz.underlying5 Tryz.underlying9 (by
    intro j hj
    have hadd : (⟨w.heap.size, 0, none⟩ : Addr).add j = ⟨w.heap.size, j, none⟩ := by unfold Addr.add; split <;> simp_all
    rw [hadd, World.cell?_alloc_mark]
    simp [hj, u8v])
  exact this
theorem rput_1 (r : Int) (w : World) (h : isB r = true) (h0 : 0 ≤ r) (h1 : r < 128) : Calls Tryz.prog 102 #[.int .i64 r] w fun e w' => PutS w r e w' := by
  have hl := rlen_any r w
  rw [lenF1 h h1] at hl
  have Hl := Lib.hid hl
  have hw0 : IntKind.u8.wrap r = r := by rw [IntKind.wrap_u8]; omega
  have hconv := conv_new w #[.int .u8 (r)] (enc r) (by
    rw [enc1 h h1]
    simp only [List.map_cons, List.map_nil, u8v]
    rw [by8_val (by omega) (by omega)]) (enc_pos h) 1 (by rw [enc1 h h1]; rfl)
  have HE : Hid (PutS w r (.returned (.tuple #[.string (str (enc r)), .bool true])) (w.alloc (.cells #[.int .u8 (r)] 5))) := Lib.hid (by
    unfold PutS; rw [h]; exact ⟨rfl, (Below.refl _ _).alloc (Nat.le_refl _) _⟩)
  clear h hl
  go_enter Tryz.func102, Tryz.ntmps102
  go_wp2_with (go_at_call 136; refine Hl.out.mono ?_; rintro e w' ⟨rfl, rfl⟩)
  go_ret2
  exact HE.out
theorem rput_2 (r : Int) (w : World) (h : isB r = true) (h0 : 128 ≤ r) (h1 : r < 2048) : Calls Tryz.prog 102 #[.int .i64 r] w fun e w' => PutS w r e w' := by
  have hl := rlen_any r w
  rw [lenF2 h h0 h1] at hl
  have Hl := Lib.hid hl
  have ho0 : bits .or .i64 192 (r / 64) = 192 + r / 64 := orc 5 (by omega) 192 _ (by omega) (by omega) (by omega) (by omega) (by omega) (by omega)
  have hw0 : IntKind.u8.wrap (192 + r / 64) = 192 + r / 64 := by rw [IntKind.wrap_u8]; omega
  have ha1 : bits .and .i64 r 63 = r % 64 := and6 _ (by omega) (by omega)
  have ho1 : bits .or .i64 128 (r % 64) = 128 + r % 64 := orc 6 (by omega) 128 _ (by omega) (by omega) (by omega) (by omega) (by omega) (by omega)
  have hw1 : IntKind.u8.wrap (128 + r % 64) = 128 + r % 64 := by rw [IntKind.wrap_u8]; omega
  have hconv := conv_new w #[.int .u8 (192 + r / 64), .int .u8 (128 + r % 64)] (enc r) (by
    rw [enc2 h h0 h1]
    simp only [List.map_cons, List.map_nil, u8v]
    rw [by8_val (by omega) (by omega), by8_val (by omega) (by omega)]) (enc_pos h) 2 (by rw [enc2 h h0 h1]; rfl)
  have HE : Hid (PutS w r (.returned (.tuple #[.string (str (enc r)), .bool true])) (w.alloc (.cells #[.int .u8 (192 + r / 64), .int .u8 (128 + r % 64)] 5))) := Lib.hid (by
    unfold PutS; rw [h]; exact ⟨rfl, (Below.refl _ _).alloc (Nat.le_refl _) _⟩)
  clear h hl
  go_enter Tryz.func102, Tryz.ntmps102
  go_wp2_with (go_at_call 136; refine Hl.out.mono ?_; rintro e w' ⟨rfl, rfl⟩)
  go_ret2
  exact HE.out
theorem rput_3 (r : Int) (w : World) (h : isB r = true) (h0 : 2048 ≤ r) (h1 : r < 65536) : Calls Tryz.prog 102 #[.int .i64 r] w fun e w' => PutS w r e w' := by
  have hl := rlen_any r w
  rw [lenF3 h h0 h1] at hl
  have Hl := Lib.hid hl
  have ho0 : bits .or .i64 224 (r / 4096) = 224 + r / 4096 := orc 4 (by omega) 224 _ (by omega) (by omega) (by omega) (by omega) (by omega) (by omega)
  have hw0 : IntKind.u8.wrap (224 + r / 4096) = 224 + r / 4096 := by rw [IntKind.wrap_u8]; omega
  have ha1 : bits .and .i64 (r / 64) 63 = r / 64 % 64 := and6 _ (by omega) (by omega)
  have ho1 : bits .or .i64 128 (r / 64 % 64) = 128 + r / 64 % 64 := orc 6 (by omega) 128 _ (by omega) (by omega) (by omega) (by omega) (by omega) (by omega)
  have hw1 : IntKind.u8.wrap (128 + r / 64 % 64) = 128 + r / 64 % 64 := by rw [IntKind.wrap_u8]; omega
  have ha2 : bits .and .i64 r 63 = r % 64 := and6 _ (by omega) (by omega)
  have ho2 : bits .or .i64 128 (r % 64) = 128 + r % 64 := orc 6 (by omega) 128 _ (by omega) (by omega) (by omega) (by omega) (by omega) (by omega)
  have hw2 : IntKind.u8.wrap (128 + r % 64) = 128 + r % 64 := by rw [IntKind.wrap_u8]; omega
  have hconv := conv_new w #[.int .u8 (224 + r / 4096), .int .u8 (128 + r / 64 % 64), .int .u8 (128 + r % 64)] (enc r) (by
    rw [enc3 h h0 h1]
    simp only [List.map_cons, List.map_nil, u8v]
    rw [by8_val (by omega) (by omega), by8_val (by omega) (by omega), by8_val (by omega) (by omega)]) (enc_pos h) 3 (by rw [enc3 h h0 h1]; rfl)
  have HE : Hid (PutS w r (.returned (.tuple #[.string (str (enc r)), .bool true])) (w.alloc (.cells #[.int .u8 (224 + r / 4096), .int .u8 (128 + r / 64 % 64), .int .u8 (128 + r % 64)] 5))) := Lib.hid (by
    unfold PutS; rw [h]; exact ⟨rfl, (Below.refl _ _).alloc (Nat.le_refl _) _⟩)
  clear h hl
  go_enter Tryz.func102, Tryz.ntmps102
  go_wp2_with (go_at_call 136; refine Hl.out.mono ?_; rintro e w' ⟨rfl, rfl⟩)
  go_ret2
  exact HE.out
theorem rput_4 (r : Int) (w : World) (h : isB r = true) (h0 : 65536 ≤ r) (h1 : r ≤ 1114111) : Calls Tryz.prog 102 #[.int .i64 r] w fun e w' => PutS w r e w' := by
  have hl := rlen_any r w
  rw [lenF4 h h0] at hl
  have Hl := Lib.hid hl
  have ho0 : bits .or .i64 240 (r / 262144) = 240 + r / 262144 := orc 3 (by omega) 240 _ (by omega) (by omega) (by omega) (by omega) (by omega) (by omega)
  have hw0 : IntKind.u8.wrap (240 + r / 262144) = 240 + r / 262144 := by rw [IntKind.wrap_u8]; omega
  have ha1 : bits .and .i64 (r / 4096) 63 = r / 4096 % 64 := and6 _ (by omega) (by omega)
  have ho1 : bits .or .i64 128 (r / 4096 % 64) = 128 + r / 4096 % 64 := orc 6 (by omega) 128 _ (by omega) (by omega) (by omega) (by omega) (by omega) (by omega)
  have hw1 : IntKind.u8.wrap (128 + r / 4096 % 64) = 128 + r / 4096 % 64 := by rw [IntKind.wrap_u8]; omega
  have ha2 : bits .and .i64 (r / 64) 63 = r / 64 % 64 := and6 _ (by omega) (by omega)
  have ho2 : bits .or .i64 128 (r / 64 % 64) = 128 + r / 64 % 64 := orc 6 (by omega) 128 _ (by omega) (by omega) (by omega) (by omega) (by omega) (by omega)
  have hw2 : IntKind.u8.wrap (128 + r / 64 % 64) = 128 + r / 64 % 64 := by rw [IntKind.wrap_u8]; omega
  have ha3 : bits .and .i64 r 63 = r % 64 := and6 _ (by omega) (by omega)
  have ho3 : bits .or .i64 128 (r % 64) = 128 + r % 64 := orc 6 (by omega) 128 _ (by omega) (by omega) (by omega) (by omega) (by omega) (by omega)
  have hw3 : IntKind.u8.wrap (128 + r % 64) = 128 + r % 64 := by rw [IntKind.wrap_u8]; omega
  have hconv := conv_new w #[.int .u8 (240 + r / 262144), .int .u8 (128 + r / 4096 % 64), .int .u8 (128 + r / 64 % 64), .int .u8 (128 + r % 64)] (enc r) (by
    rw [enc4 h h0]
    simp only [List.map_cons, List.map_nil, u8v]
    rw [by8_val (by omega) (by omega), by8_val (by omega) (by omega), by8_val (by omega) (by omega), by8_val (by omega) (by omega)]) (enc_pos h) 4 (by rw [enc4 h h0]; rfl)
  have HE : Hid (PutS w r (.returned (.tuple #[.string (str (enc r)), .bool true])) (w.alloc (.cells #[.int .u8 (240 + r / 262144), .int .u8 (128 + r / 4096 % 64), .int .u8 (128 + r / 64 % 64), .int .u8 (128 + r % 64)] 5))) := Lib.hid (by
    unfold PutS; rw [h]; exact ⟨rfl, (Below.refl _ _).alloc (Nat.le_refl _) _⟩)
  clear h hl
  go_enter Tryz.func102, Tryz.ntmps102
  go_wp2_with (go_at_call 136; refine Hl.out.mono ?_; rintro e w' ⟨rfl, rfl⟩)
  go_ret2
  exact HE.out
theorem rput_any (r : Int) (w : World) : Calls Tryz.prog 102 #[.int .i64 r] w fun e w' => PutS w r e w' := by
  cases h : isB r
  · have hl := rlen_any r w
    rw [lenF0 h] at hl
    have Hl := Lib.hid hl
    have HE : Hid (PutS w r (.returned (.tuple #[.string ⟨#[]⟩, .bool false])) w) := Lib.hid (by
      unfold PutS; rw [enc0 h, h]; exact ⟨rfl, Below.refl _ _⟩)
    clear h hl
    go_enter Tryz.func102, Tryz.ntmps102
    go_wp2_with (go_at_call 136; refine Hl.out.mono ?_; rintro e w' ⟨rfl, rfl⟩)
    go_ret2
    exact HE.out
  · rcases isB_cases h with ⟨a, b⟩ | ⟨a, b⟩ | ⟨a, b, _⟩ | ⟨a, b⟩
    · exact rput_1 r w h a b
    · exact rput_2 r w h a b
    · exact rput_3 r w h a b
    · exact rput_4 r w h a b
set_option maxRecDepth 100000 in
theorem lead_a (c : Nat) (w : World) (h : c < 128) : Calls Tryz.prog 101 #[.int .u8 c] w fun e w' => e = .returned (.tuple #[.int .i64 0, .int .u8 0, .int .u8 0]) ∧ w = w' := by
  go_enter Tryz.func101, Tryz.ntmps101
  go_wp2_with fail
  go_ret3
  exact ⟨rfl, rfl⟩
set_option maxRecDepth 100000 in
theorem lead_b (c : Nat) (w : World) (h0 : 128 ≤ c) (h1 : c < 194) : Calls Tryz.prog 101 #[.int .u8 c] w fun e w' => e = .returned (.tuple #[.int .i64 (-1), .int .u8 0, .int .u8 0]) ∧ w = w' := by
  have e1 : decide (194 ≤ c) = false := by simp; omega
  have e2 : decide (224 < c) = false := by simp; omega
  have e3 : decide (240 < c) = false := by simp; omega
  have e4 : decide ((194 : Int) ≤ c) = false := by simp; omega
  have e5 : decide ((224 : Int) < c) = false := by simp; omega
  have e6 : decide ((240 : Int) < c) = false := by simp; omega
  go_enter Tryz.func101, Tryz.ntmps101
  go_wp2_with fail
  go_ret3
  exact ⟨rfl, rfl⟩
set_option maxRecDepth 100000 in
theorem lead_c (c : Nat) (w : World) (h0 : 245 ≤ c) (h1 : c < 256) : Calls Tryz.prog 101 #[.int .u8 c] w fun e w' => e = .returned (.tuple #[.int .i64 (-1), .int .u8 0, .int .u8 0]) ∧ w = w' := by
  have e1 : decide ((c : Int) < 224) = false := by simp; omega
  have e2 : decide ((c : Int) < 240) = false := by simp; omega
  have e3 : decide ((c : Int) < 244) = false := by simp; omega
  go_enter Tryz.func101, Tryz.ntmps101
  go_wp2_with fail
  go_ret3
  exact ⟨rfl, rfl⟩
set_option maxRecDepth 100000 in
theorem lead_d (c : Nat) (w : World) (h0 : 194 ≤ c) (h1 : c < 224) : Calls Tryz.prog 101 #[.int .u8 c] w fun e w' => e = .returned (.tuple #[.int .i64 1, .int .u8 128, .int .u8 191]) ∧ w = w' := by
  go_enter Tryz.func101, Tryz.ntmps101
  go_wp2_with fail
  go_ret3
  exact ⟨rfl, rfl⟩
set_option maxRecDepth 100000 in
theorem lead_e (c : Nat) (w : World) (h : c = 224) : Calls Tryz.prog 101 #[.int .u8 c] w fun e w' => e = .returned (.tuple #[.int .i64 2, .int .u8 160, .int .u8 191]) ∧ w = w' := by
  subst h
  go_enter Tryz.func101, Tryz.ntmps101
  go_wp2_with fail
  go_ret3
  exact ⟨rfl, rfl⟩
set_option maxRecDepth 100000 in
theorem lead_f (c : Nat) (w : World) (h : c = 237) : Calls Tryz.prog 101 #[.int .u8 c] w fun e w' => e = .returned (.tuple #[.int .i64 2, .int .u8 128, .int .u8 159]) ∧ w = w' := by
  subst h
  go_enter Tryz.func101, Tryz.ntmps101
  go_wp2_with fail
  go_ret3
  exact ⟨rfl, rfl⟩
set_option maxRecDepth 100000 in
theorem lead_g (c : Nat) (w : World) (h0 : 225 ≤ c) (h1 : c < 240) (h2 : c ≠ 237) : Calls Tryz.prog 101 #[.int .u8 c] w fun e w' => e = .returned (.tuple #[.int .i64 2, .int .u8 128, .int .u8 191]) ∧ w = w' := by
  have e1 : decide ((c : Int) < 224) = false := by simp; omega
  go_enter Tryz.func101, Tryz.ntmps101
  go_wp2_with fail
  go_ret3
  exact ⟨rfl, rfl⟩
set_option maxRecDepth 100000 in
theorem lead_h (c : Nat) (w : World) (h : c = 240) : Calls Tryz.prog 101 #[.int .u8 c] w fun e w' => e = .returned (.tuple #[.int .i64 3, .int .u8 144, .int .u8 191]) ∧ w = w' := by
  subst h
  go_enter Tryz.func101, Tryz.ntmps101
  go_wp2_with fail
  go_ret3
  exact ⟨rfl, rfl⟩
set_option maxRecDepth 100000 in
theorem lead_i (c : Nat) (w : World) (h0 : 241 ≤ c) (h1 : c < 244) : Calls Tryz.prog 101 #[.int .u8 c] w fun e w' => e = .returned (.tuple #[.int .i64 3, .int .u8 128, .int .u8 191]) ∧ w = w' := by
  have e1 : decide ((c : Int) < 224) = false := by simp; omega
  have e2 : decide ((c : Int) < 240) = false := by simp; omega
  go_enter Tryz.func101, Tryz.ntmps101
  go_wp2_with fail
  go_ret3
  exact ⟨rfl, rfl⟩
set_option maxRecDepth 100000 in
theorem lead_j (c : Nat) (w : World) (h : c = 244) : Calls Tryz.prog 101 #[.int .u8 c] w fun e w' => e = .returned (.tuple #[.int .i64 3, .int .u8 128, .int .u8 143]) ∧ w = w' := by
  subst h
  go_enter Tryz.func101, Tryz.ntmps101
  go_wp2_with fail
  go_ret3
  exact ⟨rfl, rfl⟩
end Go.Proofs.YtppabkllconkjaaGreatDoor.U
/- The contracts of the document's own part and Next. -/
namespace Go.Proofs.YtppabkllconkjaaGreatDoor.U
open Go.RowKit
set_option linter.unusedVariables false
set_option linter.unusedSimpArgs false
set_option maxRecDepth 100000
theorem and_7 (x : Int) (h0 : 0 ≤ x) (h1 : x < 128) : bits .and .i64 x 127 = x := (bits_mask .i64 40 (by decide) wraps_i64 7 (by decide) x h0 (by omega)).trans (by omega)
theorem and_5 (x : Int) (h0 : 192 ≤ x) (h1 : x < 224) : bits .and .i64 x 31 = x - 192 := (bits_mask .i64 40 (by decide) wraps_i64 5 (by decide) x (by omega) (by omega)).trans (by omega)
theorem and_4 (x : Int) (h0 : 224 ≤ x) (h1 : x < 240) : bits .and .i64 x 15 = x - 224 := (bits_mask .i64 40 (by decide) wraps_i64 4 (by decide) x (by omega) (by omega)).trans (by omega)
theorem and_3 (x : Int) (h0 : 240 ≤ x) (h1 : x < 248) : bits .and .i64 x 7 = x - 240 := (bits_mask .i64 40 (by decide) wraps_i64 3 (by decide) x (by omega) (by omega)).trans (by omega)
/-- What the document's part tells: the scalar (or 0), how many bytes, whether it is one. -/
def PartS (w : World) (R : Int × Nat) (e : Ending) (w' : World) : Prop :=
  e = .returned (.tuple #[.int .i64 (if R.1 = -1 then 0 else R.1), .int .i64 R.2, .bool (R.1 != -1)]) ∧ w = w'
theorem part_bad (w : World) (R : Int × Nat) (i : Nat) (h : R = (-1, i)) : PartS w R (.returned (.tuple #[.int .i64 0, .int .i64 i, .bool false])) w := by
  subst h; exact ⟨rfl, rfl⟩
theorem part_good (w : World) (R : Int × Nat) (i : Nat) (r : Int) (h : R = (r, i)) (hr : 0 ≤ r) : PartS w R (.returned (.tuple #[.int .i64 r, .int .i64 i, .bool true])) w := by
  subst h
  have : r ≠ -1 := by omega
  refine ⟨?_, rfl⟩
  simp [this]
def bdR (i : Nat) (r : Int) : Prop := 0 ≤ r ∧ (i = 1 ∧ r < 128 ∨ i = 2 ∧ r < 8192 ∨ i = 3 ∧ r < 524288 ∨ i = 4 ∧ r < 33554432)
theorem drop_one (s : ByteArray) (a : Nat) (h : a < s.size) : s.data.toList.drop a = s[a] :: (s.data.toList.drop a).drop 1 := by
  have := drop_in s a 0 h
  simpa using this
set_option maxRecDepth 100000 in
set_option maxHeartbeats 1600000 in
theorem part_a (s : ByteArray) (a : Nat) (w : World) (c : Nat) (HC : Hid (∀ h : a < s.size, s[a].toNat = c)) (hs : s.size ≤ 100000) (hlt : a < s.size) (h : c < 128) :
    Calls Tryz.prog 63 #[.string s, .int .i64 a] w fun e w' => PartS w (dec (s.data.toList.drop a)) e w' := by
  obtain ⟨l, HL⟩ : ∃ l, Hid (s.data.toList.drop a = l) := ⟨_, Lib.hid rfl⟩
  have DI : Hid (∀ k, (h : a + k < s.size) → l.drop k = s[a + k] :: l.drop (k + 1)) := Lib.hid (by intro k h; rw [← HL.out]; exact drop_in s a k h)
  have DO : Hid (∀ k, ¬ a + k < s.size → l.drop k = []) := Lib.hid (by intro k h; rw [← HL.out]; exact drop_out s a k h)
  have D1 : Hid (l = s[a] :: l.drop 1) := Lib.hid (by rw [← HL.out]; exact drop_one s a hlt)
  rw [HL.out]
  obtain ⟨R, HR⟩ : ∃ R, Hid (dec l = R) := ⟨_, Lib.hid rfl⟩
  have H0 : Hid (goD 0 (l.drop 1) 1 (ldR c) (ldLo c) (ldHi c) = R) := Lib.hid (by
    rw [← HR.out]
    conv => rhs; rw [D1.out]
    simp only [dec]
    rw [HC.out hlt]
    have e : ldN c = 0 := by unfold ldN; rw [if_pos (by omega)] 
    rw [e]
    rfl)
  have hl := lead_a c w h
  have Hl := Lib.hid hl
  rw [HR.out]
  clear HL HR D1 hl
  have hcc : s[a].toNat = c := HC.out hlt
  have hmask : bits .and .i64 (c : Int) 127 = ldR c := (and_7 _ (by omega) (by omega)).trans (by unfold ldR; rw [if_pos (by omega)])
  have hr0 : Hid (bdR 1 (ldR c)) := Lib.hid (by unfold ldR bdR; rw [if_pos (by omega)]; omega)
  have hlh : Hid (1 ≤ 0 → ldLo c = 0 ∧ ldHi c = 0) := Lib.hid (by omega)
  skip
  go_enter Tryz.func63, Tryz.ntmps63
  go_wp2_with (go_at_call 101; refine Hl.out.mono ?_; rintro e w' ⟨rfl, rfl⟩)
  go_loopg [4, 5, 6, 8, 9, 11, 12] (0 + 1) (fun g q4 q5 q6 q8 q9 q11 q12 wr => ∃ (i : Nat) (r lo hi : Int), i + g = 0 + 2 ∧ w = wr ∧ 1 ≤ i ∧ i ≤ 0 + 1 ∧ q4 = .int .i64 0 ∧ q5 = .int .i64 0 ∧ q6 = .bool false ∧ q8 = .int .u8 lo ∧ q9 = .int .u8 hi ∧ q11 = .int .i64 r ∧ q12 = .int .i64 i ∧ bdR i r ∧ (i ≤ 0 → 128 ≤ lo ∧ hi ≤ 191) ∧ goD (0 + 1 - i) (l.drop i) i r lo hi = R)
  case atStart => exact ⟨1, ldR c, 0, 0, by omega, rfl, by omega, by omega, rfl, rfl, rfl, rfl, rfl, rfl, rfl, hr0.out, by omega, by
    have := H0.out
    first
      | (rw [(hlh.out (by omega)).1, (hlh.out (by omega)).2] at this; exact this)
      | (simp only [goD] at this ⊢; exact this)⟩
  case round =>
    obtain ⟨i, r, lo, hi, hig, rfl, hi1, hi2, rfl, rfl, rfl, rfl, rfl, rfl, rfl, hbd, hlohi, hgo⟩ := hrel
    have HB := Lib.hid hbd
    have HD := Lib.hid hgo
    have HLH := Lib.hid hlohi
    clear hgo hlohi
    have hr0 := hbd.1
    have hr1 : r < 33554432 := by unfold bdR at hbd; omega
    clear hbd
    by_cases hie : i = 0 + 1
    · have hres := part_good w R i r (by rw [← HD.out, hie, Nat.sub_self]; rfl) hr0
      subst hie
      have HE := Lib.hid hres
      clear hres
      go_wp2_with fail
      go_ret3
      exact HE.out
    exact absurd hi2 (by omega)
set_option maxRecDepth 100000 in
set_option maxHeartbeats 1600000 in
theorem part_d (s : ByteArray) (a : Nat) (w : World) (c : Nat) (HC : Hid (∀ h : a < s.size, s[a].toNat = c)) (hs : s.size ≤ 100000) (hlt : a < s.size) (h0 : 194 ≤ c) (h1 : c < 224) :
    Calls Tryz.prog 63 #[.string s, .int .i64 a] w fun e w' => PartS w (dec (s.data.toList.drop a)) e w' := by
  obtain ⟨l, HL⟩ : ∃ l, Hid (s.data.toList.drop a = l) := ⟨_, Lib.hid rfl⟩
  have DI : Hid (∀ k, (h : a + k < s.size) → l.drop k = s[a + k] :: l.drop (k + 1)) := Lib.hid (by intro k h; rw [← HL.out]; exact drop_in s a k h)
  have DO : Hid (∀ k, ¬ a + k < s.size → l.drop k = []) := Lib.hid (by intro k h; rw [← HL.out]; exact drop_out s a k h)
  have D1 : Hid (l = s[a] :: l.drop 1) := Lib.hid (by rw [← HL.out]; exact drop_one s a hlt)
  rw [HL.out]
  obtain ⟨R, HR⟩ : ∃ R, Hid (dec l = R) := ⟨_, Lib.hid rfl⟩
  have H0 : Hid (goD 1 (l.drop 1) 1 (ldR c) (ldLo c) (ldHi c) = R) := Lib.hid (by
    rw [← HR.out]
    conv => rhs; rw [D1.out]
    simp only [dec]
    rw [HC.out hlt]
    have e : ldN c = 1 := by unfold ldN; rw [if_neg (by omega), if_neg (by omega), if_pos (by omega)] 
    rw [e]
    rfl)
  have hl := lead_d c w h0 h1
  have Hl := Lib.hid hl
  rw [HR.out]
  clear HL HR D1 hl
  have hcc : s[a].toNat = c := HC.out hlt
  have hmask : bits .and .i64 (c : Int) 31 = ldR c := (and_5 _ (by omega) (by omega)).trans (by unfold ldR; rw [if_neg (by omega), if_pos (by omega)])
  have hr0 : Hid (bdR 1 (ldR c)) := Lib.hid (by unfold ldR bdR; rw [if_neg (by omega), if_pos (by omega)]; omega)
  have hlh : Hid (1 ≤ 1 → ldLo c = 128 ∧ ldHi c = 191) := Lib.hid (by intro _; unfold ldLo ldHi; exact ⟨by (repeat' split) <;> omega, by (repeat' split) <;> omega⟩)
  skip
  go_enter Tryz.func63, Tryz.ntmps63
  go_wp2_with (go_at_call 101; refine Hl.out.mono ?_; rintro e w' ⟨rfl, rfl⟩)
  go_loopg [4, 5, 6, 8, 9, 11, 12] (1 + 1) (fun g q4 q5 q6 q8 q9 q11 q12 wr => ∃ (i : Nat) (r lo hi : Int), i + g = 1 + 2 ∧ w = wr ∧ 1 ≤ i ∧ i ≤ 1 + 1 ∧ q4 = .int .i64 0 ∧ q5 = .int .i64 0 ∧ q6 = .bool false ∧ q8 = .int .u8 lo ∧ q9 = .int .u8 hi ∧ q11 = .int .i64 r ∧ q12 = .int .i64 i ∧ bdR i r ∧ (i ≤ 1 → 128 ≤ lo ∧ hi ≤ 191) ∧ goD (1 + 1 - i) (l.drop i) i r lo hi = R)
  case atStart => exact ⟨1, ldR c, 128, 191, by omega, rfl, by omega, by omega, rfl, rfl, rfl, rfl, rfl, rfl, rfl, hr0.out, by omega, by
    have := H0.out
    first
      | (rw [(hlh.out (by omega)).1, (hlh.out (by omega)).2] at this; exact this)
      | (simp only [goD] at this ⊢; exact this)⟩
  case round =>
    obtain ⟨i, r, lo, hi, hig, rfl, hi1, hi2, rfl, rfl, rfl, rfl, rfl, rfl, rfl, hbd, hlohi, hgo⟩ := hrel
    have HB := Lib.hid hbd
    have HD := Lib.hid hgo
    have HLH := Lib.hid hlohi
    clear hgo hlohi
    have hr0 := hbd.1
    have hr1 : r < 33554432 := by unfold bdR at hbd; omega
    clear hbd
    by_cases hie : i = 1 + 1
    · have hres := part_good w R i r (by rw [← HD.out, hie, Nat.sub_self]; rfl) hr0
      subst hie
      have HE := Lib.hid hres
      clear hres
      go_wp2_with fail
      go_ret3
      exact HE.out
    have him : i ≤ 1 := by omega
    obtain ⟨hlo, hhi⟩ := HLH.out him
    clear hie
    by_cases hin : a + i < s.size
    rotate_left 1
    · have HE := Lib.hid (part_bad w R i (by
        rw [← HD.out, DO.out i hin, show 1 + 1 - i = (1 - i) + 1 by omega]; rfl))
      have hin2 : decide (s.size ≤ a + i) = true := by simp; omega
      have hin3 : decide ((s.size : Int) ≤ (a : Int) + (i : Int)) = true := by simp; omega
      have hin4 : (s.size : Int) ≤ (a : Int) + (i : Int) := by omega
      clear hin hlo hhi
      go_wp2_with fail
      go_ret3
      exact HE.out
    have hb := s[a + i].toNat_lt
    have hstep : Hid (goD (1 + 1 - i) (l.drop i) i r lo hi = if lo ≤ (s[a + i].toNat : Int) ∧ (s[a + i].toNat : Int) ≤ hi then goD (1 - i) (l.drop (i + 1)) (i + 1) (r * 64 + ((s[a + i].toNat : Int) - 128)) 128 191 else (-1, i)) := Lib.hid (by
      conv => lhs; rw [DI.out i hin, show 1 + 1 - i = (1 - i) + 1 by omega]
      rfl)
    have hn1 : decide ((s.size : Int) ≤ (a : Int) + (i : Int)) = false := by simp; omega
    by_cases hbl : (s[a + i].toNat : Int) < lo
    · have HE := Lib.hid (part_bad w R i (by rw [← HD.out, hstep.out, if_neg (by omega)]))
      have hd1 : decide ((s[a + i].toNat : Int) < lo) = true := by simpa using hbl
      clear hlo hhi
      go_wp2_with fail
      go_ret3
      exact HE.out
    have hd1 : decide ((s[a + i].toNat : Int) < lo) = false := by simpa using hbl
    by_cases hbh : hi < (s[a + i].toNat : Int)
    · have HE := Lib.hid (part_bad w R i (by rw [← HD.out, hstep.out, if_neg (by omega)]))
      have hd2 : decide (hi < (s[a + i].toNat : Int)) = true := by simpa using hbh
      clear hlo hhi
      go_wp2_with fail
      go_ret3
      exact HE.out
    have hd2 : decide (hi < (s[a + i].toNat : Int)) = false := by simpa using hbh
    have hm1 : bits .and .u8 (s[a + i].toNat : Int) 63 = (s[a + i].toNat : Int) - 128 := (u8_and63 _ (by omega) (by omega)).trans (by omega)
    have hor : bits .or .i64 (r * 64) ((s[a + i].toNat : Int) - 128) = r * 64 + ((s[a + i].toNat : Int) - 128) := or6 _ _ (by omega) (by omega) (by omega) (by omega) (by omega)
    have hb1 : 128 ≤ (s[a + i].toNat : Int) := by omega
    have hb2 : (s[a + i].toNat : Int) ≤ 191 := by omega
    have HN : Hid (goD (1 - i) (l.drop (i + 1)) (i + 1) (r * 64 + ((s[a + i].toNat : Int) - 128)) 128 191 = R) := Lib.hid (by rw [← HD.out, hstep.out, if_pos (by omega)])
    have HB2 : Hid (bdR (i + 1) (r * 64 + ((s[a + i].toNat : Int) - 128))) := Lib.hid (by have := HB.out; unfold bdR at this ⊢; omega)
    clear hbl hbh hlo hhi
    go_wp2_with fail
    go_roundg (gk - 1)
    case measure => omega
    case rel => exact ⟨i + 1, _, 128, 191, by omega, rfl, by omega, by omega, rfl, rfl, rfl, rfl, rfl, rfl, by go_num, HB2.out, by omega, by
      rw [show 1 + 1 - (i + 1) = 1 - i by omega]; exact HN.out⟩
set_option maxRecDepth 100000 in
set_option maxHeartbeats 1600000 in
theorem part_e (s : ByteArray) (a : Nat) (w : World) (c : Nat) (HC : Hid (∀ h : a < s.size, s[a].toNat = c)) (hs : s.size ≤ 100000) (hlt : a < s.size) (h : c = 224) :
    Calls Tryz.prog 63 #[.string s, .int .i64 a] w fun e w' => PartS w (dec (s.data.toList.drop a)) e w' := by
  obtain ⟨l, HL⟩ : ∃ l, Hid (s.data.toList.drop a = l) := ⟨_, Lib.hid rfl⟩
  have DI : Hid (∀ k, (h : a + k < s.size) → l.drop k = s[a + k] :: l.drop (k + 1)) := Lib.hid (by intro k h; rw [← HL.out]; exact drop_in s a k h)
  have DO : Hid (∀ k, ¬ a + k < s.size → l.drop k = []) := Lib.hid (by intro k h; rw [← HL.out]; exact drop_out s a k h)
  have D1 : Hid (l = s[a] :: l.drop 1) := Lib.hid (by rw [← HL.out]; exact drop_one s a hlt)
  rw [HL.out]
  obtain ⟨R, HR⟩ : ∃ R, Hid (dec l = R) := ⟨_, Lib.hid rfl⟩
  have H0 : Hid (goD 2 (l.drop 1) 1 (ldR c) (ldLo c) (ldHi c) = R) := Lib.hid (by
    rw [← HR.out]
    conv => rhs; rw [D1.out]
    simp only [dec]
    rw [HC.out hlt]
    have e : ldN c = 2 := by unfold ldN; rw [if_neg (by omega), if_neg (by omega), if_neg (by omega), if_pos (by omega)] 
    rw [e]
    rfl)
  have hl := lead_e c w h
  have Hl := Lib.hid hl
  rw [HR.out]
  clear HL HR D1 hl
  have hcc : s[a].toNat = c := HC.out hlt
  have hmask : bits .and .i64 (c : Int) 15 = ldR c := (and_4 _ (by omega) (by omega)).trans (by unfold ldR; rw [if_neg (by omega), if_neg (by omega), if_pos (by omega)])
  have hr0 : Hid (bdR 1 (ldR c)) := Lib.hid (by unfold ldR bdR; rw [if_neg (by omega), if_neg (by omega), if_pos (by omega)]; omega)
  have hlh : Hid (1 ≤ 2 → ldLo c = 160 ∧ ldHi c = 191) := Lib.hid (by intro _; unfold ldLo ldHi; exact ⟨by (repeat' split) <;> omega, by (repeat' split) <;> omega⟩)
  have hc256 : c < 256 := by omega
  clear h
  go_enter Tryz.func63, Tryz.ntmps63
  go_wp2_with (go_at_call 101; refine Hl.out.mono ?_; rintro e w' ⟨rfl, rfl⟩)
  go_loopg [4, 5, 6, 8, 9, 11, 12] (2 + 1) (fun g q4 q5 q6 q8 q9 q11 q12 wr => ∃ (i : Nat) (r lo hi : Int), i + g = 2 + 2 ∧ w = wr ∧ 1 ≤ i ∧ i ≤ 2 + 1 ∧ q4 = .int .i64 0 ∧ q5 = .int .i64 0 ∧ q6 = .bool false ∧ q8 = .int .u8 lo ∧ q9 = .int .u8 hi ∧ q11 = .int .i64 r ∧ q12 = .int .i64 i ∧ bdR i r ∧ (i ≤ 2 → 128 ≤ lo ∧ hi ≤ 191) ∧ goD (2 + 1 - i) (l.drop i) i r lo hi = R)
  case atStart => exact ⟨1, ldR c, 160, 191, by omega, rfl, by omega, by omega, rfl, rfl, rfl, rfl, rfl, rfl, rfl, hr0.out, by omega, by
    have := H0.out
    first
      | (rw [(hlh.out (by omega)).1, (hlh.out (by omega)).2] at this; exact this)
      | (simp only [goD] at this ⊢; exact this)⟩
  case round =>
    obtain ⟨i, r, lo, hi, hig, rfl, hi1, hi2, rfl, rfl, rfl, rfl, rfl, rfl, rfl, hbd, hlohi, hgo⟩ := hrel
    have HB := Lib.hid hbd
    have HD := Lib.hid hgo
    have HLH := Lib.hid hlohi
    clear hgo hlohi
    have hr0 := hbd.1
    have hr1 : r < 33554432 := by unfold bdR at hbd; omega
    clear hbd
    by_cases hie : i = 2 + 1
    · have hres := part_good w R i r (by rw [← HD.out, hie, Nat.sub_self]; rfl) hr0
      subst hie
      have HE := Lib.hid hres
      clear hres
      go_wp2_with fail
      go_ret3
      exact HE.out
    have him : i ≤ 2 := by omega
    obtain ⟨hlo, hhi⟩ := HLH.out him
    clear hie
    by_cases hin : a + i < s.size
    rotate_left 1
    · have HE := Lib.hid (part_bad w R i (by
        rw [← HD.out, DO.out i hin, show 2 + 1 - i = (2 - i) + 1 by omega]; rfl))
      have hin2 : decide (s.size ≤ a + i) = true := by simp; omega
      have hin3 : decide ((s.size : Int) ≤ (a : Int) + (i : Int)) = true := by simp; omega
      have hin4 : (s.size : Int) ≤ (a : Int) + (i : Int) := by omega
      clear hin hlo hhi
      go_wp2_with fail
      go_ret3
      exact HE.out
    have hb := s[a + i].toNat_lt
    have hstep : Hid (goD (2 + 1 - i) (l.drop i) i r lo hi = if lo ≤ (s[a + i].toNat : Int) ∧ (s[a + i].toNat : Int) ≤ hi then goD (2 - i) (l.drop (i + 1)) (i + 1) (r * 64 + ((s[a + i].toNat : Int) - 128)) 128 191 else (-1, i)) := Lib.hid (by
      conv => lhs; rw [DI.out i hin, show 2 + 1 - i = (2 - i) + 1 by omega]
      rfl)
    have hn1 : decide ((s.size : Int) ≤ (a : Int) + (i : Int)) = false := by simp; omega
    by_cases hbl : (s[a + i].toNat : Int) < lo
    · have HE := Lib.hid (part_bad w R i (by rw [← HD.out, hstep.out, if_neg (by omega)]))
      have hd1 : decide ((s[a + i].toNat : Int) < lo) = true := by simpa using hbl
      clear hlo hhi
      go_wp2_with fail
      go_ret3
      exact HE.out
    have hd1 : decide ((s[a + i].toNat : Int) < lo) = false := by simpa using hbl
    by_cases hbh : hi < (s[a + i].toNat : Int)
    · have HE := Lib.hid (part_bad w R i (by rw [← HD.out, hstep.out, if_neg (by omega)]))
      have hd2 : decide (hi < (s[a + i].toNat : Int)) = true := by simpa using hbh
      clear hlo hhi
      go_wp2_with fail
      go_ret3
      exact HE.out
    have hd2 : decide (hi < (s[a + i].toNat : Int)) = false := by simpa using hbh
    have hm1 : bits .and .u8 (s[a + i].toNat : Int) 63 = (s[a + i].toNat : Int) - 128 := (u8_and63 _ (by omega) (by omega)).trans (by omega)
    have hor : bits .or .i64 (r * 64) ((s[a + i].toNat : Int) - 128) = r * 64 + ((s[a + i].toNat : Int) - 128) := or6 _ _ (by omega) (by omega) (by omega) (by omega) (by omega)
    have hb1 : 128 ≤ (s[a + i].toNat : Int) := by omega
    have hb2 : (s[a + i].toNat : Int) ≤ 191 := by omega
    have HN : Hid (goD (2 - i) (l.drop (i + 1)) (i + 1) (r * 64 + ((s[a + i].toNat : Int) - 128)) 128 191 = R) := Lib.hid (by rw [← HD.out, hstep.out, if_pos (by omega)])
    have HB2 : Hid (bdR (i + 1) (r * 64 + ((s[a + i].toNat : Int) - 128))) := Lib.hid (by have := HB.out; unfold bdR at this ⊢; omega)
    clear hbl hbh hlo hhi
    go_wp2_with fail
    go_roundg (gk - 1)
    case measure => omega
    case rel => exact ⟨i + 1, _, 128, 191, by omega, rfl, by omega, by omega, rfl, rfl, rfl, rfl, rfl, rfl, by go_num, HB2.out, by omega, by
      rw [show 2 + 1 - (i + 1) = 2 - i by omega]; exact HN.out⟩
set_option maxRecDepth 100000 in
set_option maxHeartbeats 1600000 in
theorem part_f (s : ByteArray) (a : Nat) (w : World) (c : Nat) (HC : Hid (∀ h : a < s.size, s[a].toNat = c)) (hs : s.size ≤ 100000) (hlt : a < s.size) (h : c = 237) :
    Calls Tryz.prog 63 #[.string s, .int .i64 a] w fun e w' => PartS w (dec (s.data.toList.drop a)) e w' := by
  obtain ⟨l, HL⟩ : ∃ l, Hid (s.data.toList.drop a = l) := ⟨_, Lib.hid rfl⟩
  have DI : Hid (∀ k, (h : a + k < s.size) → l.drop k = s[a + k] :: l.drop (k + 1)) := Lib.hid (by intro k h; rw [← HL.out]; exact drop_in s a k h)
  have DO : Hid (∀ k, ¬ a + k < s.size → l.drop k = []) := Lib.hid (by intro k h; rw [← HL.out]; exact drop_out s a k h)
  have D1 : Hid (l = s[a] :: l.drop 1) := Lib.hid (by rw [← HL.out]; exact drop_one s a hlt)
  rw [HL.out]
  obtain ⟨R, HR⟩ : ∃ R, Hid (dec l = R) := ⟨_, Lib.hid rfl⟩
  have H0 : Hid (goD 2 (l.drop 1) 1 (ldR c) (ldLo c) (ldHi c) = R) := Lib.hid (by
    rw [← HR.out]
    conv => rhs; rw [D1.out]
    simp only [dec]
    rw [HC.out hlt]
    have e : ldN c = 2 := by unfold ldN; rw [if_neg (by omega), if_neg (by omega), if_neg (by omega), if_pos (by omega)] 
    rw [e]
    rfl)
  have hl := lead_f c w h
  have Hl := Lib.hid hl
  rw [HR.out]
  clear HL HR D1 hl
  have hcc : s[a].toNat = c := HC.out hlt
  have hmask : bits .and .i64 (c : Int) 15 = ldR c := (and_4 _ (by omega) (by omega)).trans (by unfold ldR; rw [if_neg (by omega), if_neg (by omega), if_pos (by omega)])
  have hr0 : Hid (bdR 1 (ldR c)) := Lib.hid (by unfold ldR bdR; rw [if_neg (by omega), if_neg (by omega), if_pos (by omega)]; omega)
  have hlh : Hid (1 ≤ 2 → ldLo c = 128 ∧ ldHi c = 159) := Lib.hid (by intro _; unfold ldLo ldHi; exact ⟨by (repeat' split) <;> omega, by (repeat' split) <;> omega⟩)
  have hc256 : c < 256 := by omega
  clear h
  go_enter Tryz.func63, Tryz.ntmps63
  go_wp2_with (go_at_call 101; refine Hl.out.mono ?_; rintro e w' ⟨rfl, rfl⟩)
  go_loopg [4, 5, 6, 8, 9, 11, 12] (2 + 1) (fun g q4 q5 q6 q8 q9 q11 q12 wr => ∃ (i : Nat) (r lo hi : Int), i + g = 2 + 2 ∧ w = wr ∧ 1 ≤ i ∧ i ≤ 2 + 1 ∧ q4 = .int .i64 0 ∧ q5 = .int .i64 0 ∧ q6 = .bool false ∧ q8 = .int .u8 lo ∧ q9 = .int .u8 hi ∧ q11 = .int .i64 r ∧ q12 = .int .i64 i ∧ bdR i r ∧ (i ≤ 2 → 128 ≤ lo ∧ hi ≤ 191) ∧ goD (2 + 1 - i) (l.drop i) i r lo hi = R)
  case atStart => exact ⟨1, ldR c, 128, 159, by omega, rfl, by omega, by omega, rfl, rfl, rfl, rfl, rfl, rfl, rfl, hr0.out, by omega, by
    have := H0.out
    first
      | (rw [(hlh.out (by omega)).1, (hlh.out (by omega)).2] at this; exact this)
      | (simp only [goD] at this ⊢; exact this)⟩
  case round =>
    obtain ⟨i, r, lo, hi, hig, rfl, hi1, hi2, rfl, rfl, rfl, rfl, rfl, rfl, rfl, hbd, hlohi, hgo⟩ := hrel
    have HB := Lib.hid hbd
    have HD := Lib.hid hgo
    have HLH := Lib.hid hlohi
    clear hgo hlohi
    have hr0 := hbd.1
    have hr1 : r < 33554432 := by unfold bdR at hbd; omega
    clear hbd
    by_cases hie : i = 2 + 1
    · have hres := part_good w R i r (by rw [← HD.out, hie, Nat.sub_self]; rfl) hr0
      subst hie
      have HE := Lib.hid hres
      clear hres
      go_wp2_with fail
      go_ret3
      exact HE.out
    have him : i ≤ 2 := by omega
    obtain ⟨hlo, hhi⟩ := HLH.out him
    clear hie
    by_cases hin : a + i < s.size
    rotate_left 1
    · have HE := Lib.hid (part_bad w R i (by
        rw [← HD.out, DO.out i hin, show 2 + 1 - i = (2 - i) + 1 by omega]; rfl))
      have hin2 : decide (s.size ≤ a + i) = true := by simp; omega
      have hin3 : decide ((s.size : Int) ≤ (a : Int) + (i : Int)) = true := by simp; omega
      have hin4 : (s.size : Int) ≤ (a : Int) + (i : Int) := by omega
      clear hin hlo hhi
      go_wp2_with fail
      go_ret3
      exact HE.out
    have hb := s[a + i].toNat_lt
    have hstep : Hid (goD (2 + 1 - i) (l.drop i) i r lo hi = if lo ≤ (s[a + i].toNat : Int) ∧ (s[a + i].toNat : Int) ≤ hi then goD (2 - i) (l.drop (i + 1)) (i + 1) (r * 64 + ((s[a + i].toNat : Int) - 128)) 128 191 else (-1, i)) := Lib.hid (by
      conv => lhs; rw [DI.out i hin, show 2 + 1 - i = (2 - i) + 1 by omega]
      rfl)
    have hn1 : decide ((s.size : Int) ≤ (a : Int) + (i : Int)) = false := by simp; omega
    by_cases hbl : (s[a + i].toNat : Int) < lo
    · have HE := Lib.hid (part_bad w R i (by rw [← HD.out, hstep.out, if_neg (by omega)]))
      have hd1 : decide ((s[a + i].toNat : Int) < lo) = true := by simpa using hbl
      clear hlo hhi
      go_wp2_with fail
      go_ret3
      exact HE.out
    have hd1 : decide ((s[a + i].toNat : Int) < lo) = false := by simpa using hbl
    by_cases hbh : hi < (s[a + i].toNat : Int)
    · have HE := Lib.hid (part_bad w R i (by rw [← HD.out, hstep.out, if_neg (by omega)]))
      have hd2 : decide (hi < (s[a + i].toNat : Int)) = true := by simpa using hbh
      clear hlo hhi
      go_wp2_with fail
      go_ret3
      exact HE.out
    have hd2 : decide (hi < (s[a + i].toNat : Int)) = false := by simpa using hbh
    have hm1 : bits .and .u8 (s[a + i].toNat : Int) 63 = (s[a + i].toNat : Int) - 128 := (u8_and63 _ (by omega) (by omega)).trans (by omega)
    have hor : bits .or .i64 (r * 64) ((s[a + i].toNat : Int) - 128) = r * 64 + ((s[a + i].toNat : Int) - 128) := or6 _ _ (by omega) (by omega) (by omega) (by omega) (by omega)
    have hb1 : 128 ≤ (s[a + i].toNat : Int) := by omega
    have hb2 : (s[a + i].toNat : Int) ≤ 191 := by omega
    have HN : Hid (goD (2 - i) (l.drop (i + 1)) (i + 1) (r * 64 + ((s[a + i].toNat : Int) - 128)) 128 191 = R) := Lib.hid (by rw [← HD.out, hstep.out, if_pos (by omega)])
    have HB2 : Hid (bdR (i + 1) (r * 64 + ((s[a + i].toNat : Int) - 128))) := Lib.hid (by have := HB.out; unfold bdR at this ⊢; omega)
    clear hbl hbh hlo hhi
    go_wp2_with fail
    go_roundg (gk - 1)
    case measure => omega
    case rel => exact ⟨i + 1, _, 128, 191, by omega, rfl, by omega, by omega, rfl, rfl, rfl, rfl, rfl, rfl, by go_num, HB2.out, by omega, by
      rw [show 2 + 1 - (i + 1) = 2 - i by omega]; exact HN.out⟩
set_option maxRecDepth 100000 in
set_option maxHeartbeats 1600000 in
theorem part_g (s : ByteArray) (a : Nat) (w : World) (c : Nat) (HC : Hid (∀ h : a < s.size, s[a].toNat = c)) (hs : s.size ≤ 100000) (hlt : a < s.size) (h0 : 225 ≤ c) (h1 : c < 240) (h2 : c ≠ 237) :
    Calls Tryz.prog 63 #[.string s, .int .i64 a] w fun e w' => PartS w (dec (s.data.toList.drop a)) e w' := by
  obtain ⟨l, HL⟩ : ∃ l, Hid (s.data.toList.drop a = l) := ⟨_, Lib.hid rfl⟩
  have DI : Hid (∀ k, (h : a + k < s.size) → l.drop k = s[a + k] :: l.drop (k + 1)) := Lib.hid (by intro k h; rw [← HL.out]; exact drop_in s a k h)
  have DO : Hid (∀ k, ¬ a + k < s.size → l.drop k = []) := Lib.hid (by intro k h; rw [← HL.out]; exact drop_out s a k h)
  have D1 : Hid (l = s[a] :: l.drop 1) := Lib.hid (by rw [← HL.out]; exact drop_one s a hlt)
  rw [HL.out]
  obtain ⟨R, HR⟩ : ∃ R, Hid (dec l = R) := ⟨_, Lib.hid rfl⟩
  have H0 : Hid (goD 2 (l.drop 1) 1 (ldR c) (ldLo c) (ldHi c) = R) := Lib.hid (by
    rw [← HR.out]
    conv => rhs; rw [D1.out]
    simp only [dec]
    rw [HC.out hlt]
    have e : ldN c = 2 := by unfold ldN; rw [if_neg (by omega), if_neg (by omega), if_neg (by omega), if_pos (by omega)] 
    rw [e]
    rfl)
  have hl := lead_g c w h0 h1 h2
  have Hl := Lib.hid hl
  rw [HR.out]
  clear HL HR D1 hl
  have hcc : s[a].toNat = c := HC.out hlt
  have hmask : bits .and .i64 (c : Int) 15 = ldR c := (and_4 _ (by omega) (by omega)).trans (by unfold ldR; rw [if_neg (by omega), if_neg (by omega), if_pos (by omega)])
  have hr0 : Hid (bdR 1 (ldR c)) := Lib.hid (by unfold ldR bdR; rw [if_neg (by omega), if_neg (by omega), if_pos (by omega)]; omega)
  have hlh : Hid (1 ≤ 2 → ldLo c = 128 ∧ ldHi c = 191) := Lib.hid (by intro _; unfold ldLo ldHi; exact ⟨by (repeat' split) <;> omega, by (repeat' split) <;> omega⟩)
  skip
  go_enter Tryz.func63, Tryz.ntmps63
  go_wp2_with (go_at_call 101; refine Hl.out.mono ?_; rintro e w' ⟨rfl, rfl⟩)
  go_loopg [4, 5, 6, 8, 9, 11, 12] (2 + 1) (fun g q4 q5 q6 q8 q9 q11 q12 wr => ∃ (i : Nat) (r lo hi : Int), i + g = 2 + 2 ∧ w = wr ∧ 1 ≤ i ∧ i ≤ 2 + 1 ∧ q4 = .int .i64 0 ∧ q5 = .int .i64 0 ∧ q6 = .bool false ∧ q8 = .int .u8 lo ∧ q9 = .int .u8 hi ∧ q11 = .int .i64 r ∧ q12 = .int .i64 i ∧ bdR i r ∧ (i ≤ 2 → 128 ≤ lo ∧ hi ≤ 191) ∧ goD (2 + 1 - i) (l.drop i) i r lo hi = R)
  case atStart => exact ⟨1, ldR c, 128, 191, by omega, rfl, by omega, by omega, rfl, rfl, rfl, rfl, rfl, rfl, rfl, hr0.out, by omega, by
    have := H0.out
    first
      | (rw [(hlh.out (by omega)).1, (hlh.out (by omega)).2] at this; exact this)
      | (simp only [goD] at this ⊢; exact this)⟩
  case round =>
    obtain ⟨i, r, lo, hi, hig, rfl, hi1, hi2, rfl, rfl, rfl, rfl, rfl, rfl, rfl, hbd, hlohi, hgo⟩ := hrel
    have HB := Lib.hid hbd
    have HD := Lib.hid hgo
    have HLH := Lib.hid hlohi
    clear hgo hlohi
    have hr0 := hbd.1
    have hr1 : r < 33554432 := by unfold bdR at hbd; omega
    clear hbd
    by_cases hie : i = 2 + 1
    · have hres := part_good w R i r (by rw [← HD.out, hie, Nat.sub_self]; rfl) hr0
      subst hie
      have HE := Lib.hid hres
      clear hres
      go_wp2_with fail
      go_ret3
      exact HE.out
    have him : i ≤ 2 := by omega
    obtain ⟨hlo, hhi⟩ := HLH.out him
    clear hie
    by_cases hin : a + i < s.size
    rotate_left 1
    · have HE := Lib.hid (part_bad w R i (by
        rw [← HD.out, DO.out i hin, show 2 + 1 - i = (2 - i) + 1 by omega]; rfl))
      have hin2 : decide (s.size ≤ a + i) = true := by simp; omega
      have hin3 : decide ((s.size : Int) ≤ (a : Int) + (i : Int)) = true := by simp; omega
      have hin4 : (s.size : Int) ≤ (a : Int) + (i : Int) := by omega
      clear hin hlo hhi
      go_wp2_with fail
      go_ret3
      exact HE.out
    have hb := s[a + i].toNat_lt
    have hstep : Hid (goD (2 + 1 - i) (l.drop i) i r lo hi = if lo ≤ (s[a + i].toNat : Int) ∧ (s[a + i].toNat : Int) ≤ hi then goD (2 - i) (l.drop (i + 1)) (i + 1) (r * 64 + ((s[a + i].toNat : Int) - 128)) 128 191 else (-1, i)) := Lib.hid (by
      conv => lhs; rw [DI.out i hin, show 2 + 1 - i = (2 - i) + 1 by omega]
      rfl)
    have hn1 : decide ((s.size : Int) ≤ (a : Int) + (i : Int)) = false := by simp; omega
    by_cases hbl : (s[a + i].toNat : Int) < lo
    · have HE := Lib.hid (part_bad w R i (by rw [← HD.out, hstep.out, if_neg (by omega)]))
      have hd1 : decide ((s[a + i].toNat : Int) < lo) = true := by simpa using hbl
      clear hlo hhi
      go_wp2_with fail
      go_ret3
      exact HE.out
    have hd1 : decide ((s[a + i].toNat : Int) < lo) = false := by simpa using hbl
    by_cases hbh : hi < (s[a + i].toNat : Int)
    · have HE := Lib.hid (part_bad w R i (by rw [← HD.out, hstep.out, if_neg (by omega)]))
      have hd2 : decide (hi < (s[a + i].toNat : Int)) = true := by simpa using hbh
      clear hlo hhi
      go_wp2_with fail
      go_ret3
      exact HE.out
    have hd2 : decide (hi < (s[a + i].toNat : Int)) = false := by simpa using hbh
    have hm1 : bits .and .u8 (s[a + i].toNat : Int) 63 = (s[a + i].toNat : Int) - 128 := (u8_and63 _ (by omega) (by omega)).trans (by omega)
    have hor : bits .or .i64 (r * 64) ((s[a + i].toNat : Int) - 128) = r * 64 + ((s[a + i].toNat : Int) - 128) := or6 _ _ (by omega) (by omega) (by omega) (by omega) (by omega)
    have hb1 : 128 ≤ (s[a + i].toNat : Int) := by omega
    have hb2 : (s[a + i].toNat : Int) ≤ 191 := by omega
    have HN : Hid (goD (2 - i) (l.drop (i + 1)) (i + 1) (r * 64 + ((s[a + i].toNat : Int) - 128)) 128 191 = R) := Lib.hid (by rw [← HD.out, hstep.out, if_pos (by omega)])
    have HB2 : Hid (bdR (i + 1) (r * 64 + ((s[a + i].toNat : Int) - 128))) := Lib.hid (by have := HB.out; unfold bdR at this ⊢; omega)
    clear hbl hbh hlo hhi
    go_wp2_with fail
    go_roundg (gk - 1)
    case measure => omega
    case rel => exact ⟨i + 1, _, 128, 191, by omega, rfl, by omega, by omega, rfl, rfl, rfl, rfl, rfl, rfl, by go_num, HB2.out, by omega, by
      rw [show 2 + 1 - (i + 1) = 2 - i by omega]; exact HN.out⟩
set_option maxRecDepth 100000 in
set_option maxHeartbeats 1600000 in
theorem part_h (s : ByteArray) (a : Nat) (w : World) (c : Nat) (HC : Hid (∀ h : a < s.size, s[a].toNat = c)) (hs : s.size ≤ 100000) (hlt : a < s.size) (h : c = 240) :
    Calls Tryz.prog 63 #[.string s, .int .i64 a] w fun e w' => PartS w (dec (s.data.toList.drop a)) e w' := by
  obtain ⟨l, HL⟩ : ∃ l, Hid (s.data.toList.drop a = l) := ⟨_, Lib.hid rfl⟩
  have DI : Hid (∀ k, (h : a + k < s.size) → l.drop k = s[a + k] :: l.drop (k + 1)) := Lib.hid (by intro k h; rw [← HL.out]; exact drop_in s a k h)
  have DO : Hid (∀ k, ¬ a + k < s.size → l.drop k = []) := Lib.hid (by intro k h; rw [← HL.out]; exact drop_out s a k h)
  have D1 : Hid (l = s[a] :: l.drop 1) := Lib.hid (by rw [← HL.out]; exact drop_one s a hlt)
  rw [HL.out]
  obtain ⟨R, HR⟩ : ∃ R, Hid (dec l = R) := ⟨_, Lib.hid rfl⟩
  have H0 : Hid (goD 3 (l.drop 1) 1 (ldR c) (ldLo c) (ldHi c) = R) := Lib.hid (by
    rw [← HR.out]
    conv => rhs; rw [D1.out]
    simp only [dec]
    rw [HC.out hlt]
    have e : ldN c = 3 := by unfold ldN; rw [if_neg (by omega), if_neg (by omega), if_neg (by omega), if_neg (by omega), if_pos (by omega)] 
    rw [e]
    rfl)
  have hl := lead_h c w h
  have Hl := Lib.hid hl
  rw [HR.out]
  clear HL HR D1 hl
  have hcc : s[a].toNat = c := HC.out hlt
  have hmask : bits .and .i64 (c : Int) 7 = ldR c := (and_3 _ (by omega) (by omega)).trans (by unfold ldR; rw [if_neg (by omega), if_neg (by omega), if_neg (by omega)])
  have hr0 : Hid (bdR 1 (ldR c)) := Lib.hid (by unfold ldR bdR; rw [if_neg (by omega), if_neg (by omega), if_neg (by omega)]; omega)
  have hlh : Hid (1 ≤ 3 → ldLo c = 144 ∧ ldHi c = 191) := Lib.hid (by intro _; unfold ldLo ldHi; exact ⟨by (repeat' split) <;> omega, by (repeat' split) <;> omega⟩)
  have hc256 : c < 256 := by omega
  clear h
  go_enter Tryz.func63, Tryz.ntmps63
  go_wp2_with (go_at_call 101; refine Hl.out.mono ?_; rintro e w' ⟨rfl, rfl⟩)
  go_loopg [4, 5, 6, 8, 9, 11, 12] (3 + 1) (fun g q4 q5 q6 q8 q9 q11 q12 wr => ∃ (i : Nat) (r lo hi : Int), i + g = 3 + 2 ∧ w = wr ∧ 1 ≤ i ∧ i ≤ 3 + 1 ∧ q4 = .int .i64 0 ∧ q5 = .int .i64 0 ∧ q6 = .bool false ∧ q8 = .int .u8 lo ∧ q9 = .int .u8 hi ∧ q11 = .int .i64 r ∧ q12 = .int .i64 i ∧ bdR i r ∧ (i ≤ 3 → 128 ≤ lo ∧ hi ≤ 191) ∧ goD (3 + 1 - i) (l.drop i) i r lo hi = R)
  case atStart => exact ⟨1, ldR c, 144, 191, by omega, rfl, by omega, by omega, rfl, rfl, rfl, rfl, rfl, rfl, rfl, hr0.out, by omega, by
    have := H0.out
    first
      | (rw [(hlh.out (by omega)).1, (hlh.out (by omega)).2] at this; exact this)
      | (simp only [goD] at this ⊢; exact this)⟩
  case round =>
    obtain ⟨i, r, lo, hi, hig, rfl, hi1, hi2, rfl, rfl, rfl, rfl, rfl, rfl, rfl, hbd, hlohi, hgo⟩ := hrel
    have HB := Lib.hid hbd
    have HD := Lib.hid hgo
    have HLH := Lib.hid hlohi
    clear hgo hlohi
    have hr0 := hbd.1
    have hr1 : r < 33554432 := by unfold bdR at hbd; omega
    clear hbd
    by_cases hie : i = 3 + 1
    · have hres := part_good w R i r (by rw [← HD.out, hie, Nat.sub_self]; rfl) hr0
      subst hie
      have HE := Lib.hid hres
      clear hres
      go_wp2_with fail
      go_ret3
      exact HE.out
    have him : i ≤ 3 := by omega
    obtain ⟨hlo, hhi⟩ := HLH.out him
    clear hie
    by_cases hin : a + i < s.size
    rotate_left 1
    · have HE := Lib.hid (part_bad w R i (by
        rw [← HD.out, DO.out i hin, show 3 + 1 - i = (3 - i) + 1 by omega]; rfl))
      have hin2 : decide (s.size ≤ a + i) = true := by simp; omega
      have hin3 : decide ((s.size : Int) ≤ (a : Int) + (i : Int)) = true := by simp; omega
      have hin4 : (s.size : Int) ≤ (a : Int) + (i : Int) := by omega
      clear hin hlo hhi
      go_wp2_with fail
      go_ret3
      exact HE.out
    have hb := s[a + i].toNat_lt
    have hstep : Hid (goD (3 + 1 - i) (l.drop i) i r lo hi = if lo ≤ (s[a + i].toNat : Int) ∧ (s[a + i].toNat : Int) ≤ hi then goD (3 - i) (l.drop (i + 1)) (i + 1) (r * 64 + ((s[a + i].toNat : Int) - 128)) 128 191 else (-1, i)) := Lib.hid (by
      conv => lhs; rw [DI.out i hin, show 3 + 1 - i = (3 - i) + 1 by omega]
      rfl)
    have hn1 : decide ((s.size : Int) ≤ (a : Int) + (i : Int)) = false := by simp; omega
    by_cases hbl : (s[a + i].toNat : Int) < lo
    · have HE := Lib.hid (part_bad w R i (by rw [← HD.out, hstep.out, if_neg (by omega)]))
      have hd1 : decide ((s[a + i].toNat : Int) < lo) = true := by simpa using hbl
      clear hlo hhi
      go_wp2_with fail
      go_ret3
      exact HE.out
    have hd1 : decide ((s[a + i].toNat : Int) < lo) = false := by simpa using hbl
    by_cases hbh : hi < (s[a + i].toNat : Int)
    · have HE := Lib.hid (part_bad w R i (by rw [← HD.out, hstep.out, if_neg (by omega)]))
      have hd2 : decide (hi < (s[a + i].toNat : Int)) = true := by simpa using hbh
      clear hlo hhi
      go_wp2_with fail
      go_ret3
      exact HE.out
    have hd2 : decide (hi < (s[a + i].toNat : Int)) = false := by simpa using hbh
    have hm1 : bits .and .u8 (s[a + i].toNat : Int) 63 = (s[a + i].toNat : Int) - 128 := (u8_and63 _ (by omega) (by omega)).trans (by omega)
    have hor : bits .or .i64 (r * 64) ((s[a + i].toNat : Int) - 128) = r * 64 + ((s[a + i].toNat : Int) - 128) := or6 _ _ (by omega) (by omega) (by omega) (by omega) (by omega)
    have hb1 : 128 ≤ (s[a + i].toNat : Int) := by omega
    have hb2 : (s[a + i].toNat : Int) ≤ 191 := by omega
    have HN : Hid (goD (3 - i) (l.drop (i + 1)) (i + 1) (r * 64 + ((s[a + i].toNat : Int) - 128)) 128 191 = R) := Lib.hid (by rw [← HD.out, hstep.out, if_pos (by omega)])
    have HB2 : Hid (bdR (i + 1) (r * 64 + ((s[a + i].toNat : Int) - 128))) := Lib.hid (by have := HB.out; unfold bdR at this ⊢; omega)
    clear hbl hbh hlo hhi
    go_wp2_with fail
    go_roundg (gk - 1)
    case measure => omega
    case rel => exact ⟨i + 1, _, 128, 191, by omega, rfl, by omega, by omega, rfl, rfl, rfl, rfl, rfl, rfl, by go_num, HB2.out, by omega, by
      rw [show 3 + 1 - (i + 1) = 3 - i by omega]; exact HN.out⟩
set_option maxRecDepth 100000 in
set_option maxHeartbeats 1600000 in
theorem part_i (s : ByteArray) (a : Nat) (w : World) (c : Nat) (HC : Hid (∀ h : a < s.size, s[a].toNat = c)) (hs : s.size ≤ 100000) (hlt : a < s.size) (h0 : 241 ≤ c) (h1 : c < 244) :
    Calls Tryz.prog 63 #[.string s, .int .i64 a] w fun e w' => PartS w (dec (s.data.toList.drop a)) e w' := by
  obtain ⟨l, HL⟩ : ∃ l, Hid (s.data.toList.drop a = l) := ⟨_, Lib.hid rfl⟩
  have DI : Hid (∀ k, (h : a + k < s.size) → l.drop k = s[a + k] :: l.drop (k + 1)) := Lib.hid (by intro k h; rw [← HL.out]; exact drop_in s a k h)
  have DO : Hid (∀ k, ¬ a + k < s.size → l.drop k = []) := Lib.hid (by intro k h; rw [← HL.out]; exact drop_out s a k h)
  have D1 : Hid (l = s[a] :: l.drop 1) := Lib.hid (by rw [← HL.out]; exact drop_one s a hlt)
  rw [HL.out]
  obtain ⟨R, HR⟩ : ∃ R, Hid (dec l = R) := ⟨_, Lib.hid rfl⟩
  have H0 : Hid (goD 3 (l.drop 1) 1 (ldR c) (ldLo c) (ldHi c) = R) := Lib.hid (by
    rw [← HR.out]
    conv => rhs; rw [D1.out]
    simp only [dec]
    rw [HC.out hlt]
    have e : ldN c = 3 := by unfold ldN; rw [if_neg (by omega), if_neg (by omega), if_neg (by omega), if_neg (by omega), if_pos (by omega)] 
    rw [e]
    rfl)
  have hl := lead_i c w h0 h1
  have Hl := Lib.hid hl
  rw [HR.out]
  clear HL HR D1 hl
  have hcc : s[a].toNat = c := HC.out hlt
  have hmask : bits .and .i64 (c : Int) 7 = ldR c := (and_3 _ (by omega) (by omega)).trans (by unfold ldR; rw [if_neg (by omega), if_neg (by omega), if_neg (by omega)])
  have hr0 : Hid (bdR 1 (ldR c)) := Lib.hid (by unfold ldR bdR; rw [if_neg (by omega), if_neg (by omega), if_neg (by omega)]; omega)
  have hlh : Hid (1 ≤ 3 → ldLo c = 128 ∧ ldHi c = 191) := Lib.hid (by intro _; unfold ldLo ldHi; exact ⟨by (repeat' split) <;> omega, by (repeat' split) <;> omega⟩)
  skip
  go_enter Tryz.func63, Tryz.ntmps63
  go_wp2_with (go_at_call 101; refine Hl.out.mono ?_; rintro e w' ⟨rfl, rfl⟩)
  go_loopg [4, 5, 6, 8, 9, 11, 12] (3 + 1) (fun g q4 q5 q6 q8 q9 q11 q12 wr => ∃ (i : Nat) (r lo hi : Int), i + g = 3 + 2 ∧ w = wr ∧ 1 ≤ i ∧ i ≤ 3 + 1 ∧ q4 = .int .i64 0 ∧ q5 = .int .i64 0 ∧ q6 = .bool false ∧ q8 = .int .u8 lo ∧ q9 = .int .u8 hi ∧ q11 = .int .i64 r ∧ q12 = .int .i64 i ∧ bdR i r ∧ (i ≤ 3 → 128 ≤ lo ∧ hi ≤ 191) ∧ goD (3 + 1 - i) (l.drop i) i r lo hi = R)
  case atStart => exact ⟨1, ldR c, 128, 191, by omega, rfl, by omega, by omega, rfl, rfl, rfl, rfl, rfl, rfl, rfl, hr0.out, by omega, by
    have := H0.out
    first
      | (rw [(hlh.out (by omega)).1, (hlh.out (by omega)).2] at this; exact this)
      | (simp only [goD] at this ⊢; exact this)⟩
  case round =>
    obtain ⟨i, r, lo, hi, hig, rfl, hi1, hi2, rfl, rfl, rfl, rfl, rfl, rfl, rfl, hbd, hlohi, hgo⟩ := hrel
    have HB := Lib.hid hbd
    have HD := Lib.hid hgo
    have HLH := Lib.hid hlohi
    clear hgo hlohi
    have hr0 := hbd.1
    have hr1 : r < 33554432 := by unfold bdR at hbd; omega
    clear hbd
    by_cases hie : i = 3 + 1
    · have hres := part_good w R i r (by rw [← HD.out, hie, Nat.sub_self]; rfl) hr0
      subst hie
      have HE := Lib.hid hres
      clear hres
      go_wp2_with fail
      go_ret3
      exact HE.out
    have him : i ≤ 3 := by omega
    obtain ⟨hlo, hhi⟩ := HLH.out him
    clear hie
    by_cases hin : a + i < s.size
    rotate_left 1
    · have HE := Lib.hid (part_bad w R i (by
        rw [← HD.out, DO.out i hin, show 3 + 1 - i = (3 - i) + 1 by omega]; rfl))
      have hin2 : decide (s.size ≤ a + i) = true := by simp; omega
      have hin3 : decide ((s.size : Int) ≤ (a : Int) + (i : Int)) = true := by simp; omega
      have hin4 : (s.size : Int) ≤ (a : Int) + (i : Int) := by omega
      clear hin hlo hhi
      go_wp2_with fail
      go_ret3
      exact HE.out
    have hb := s[a + i].toNat_lt
    have hstep : Hid (goD (3 + 1 - i) (l.drop i) i r lo hi = if lo ≤ (s[a + i].toNat : Int) ∧ (s[a + i].toNat : Int) ≤ hi then goD (3 - i) (l.drop (i + 1)) (i + 1) (r * 64 + ((s[a + i].toNat : Int) - 128)) 128 191 else (-1, i)) := Lib.hid (by
      conv => lhs; rw [DI.out i hin, show 3 + 1 - i = (3 - i) + 1 by omega]
      rfl)
    have hn1 : decide ((s.size : Int) ≤ (a : Int) + (i : Int)) = false := by simp; omega
    by_cases hbl : (s[a + i].toNat : Int) < lo
    · have HE := Lib.hid (part_bad w R i (by rw [← HD.out, hstep.out, if_neg (by omega)]))
      have hd1 : decide ((s[a + i].toNat : Int) < lo) = true := by simpa using hbl
      clear hlo hhi
      go_wp2_with fail
      go_ret3
      exact HE.out
    have hd1 : decide ((s[a + i].toNat : Int) < lo) = false := by simpa using hbl
    by_cases hbh : hi < (s[a + i].toNat : Int)
    · have HE := Lib.hid (part_bad w R i (by rw [← HD.out, hstep.out, if_neg (by omega)]))
      have hd2 : decide (hi < (s[a + i].toNat : Int)) = true := by simpa using hbh
      clear hlo hhi
      go_wp2_with fail
      go_ret3
      exact HE.out
    have hd2 : decide (hi < (s[a + i].toNat : Int)) = false := by simpa using hbh
    have hm1 : bits .and .u8 (s[a + i].toNat : Int) 63 = (s[a + i].toNat : Int) - 128 := (u8_and63 _ (by omega) (by omega)).trans (by omega)
    have hor : bits .or .i64 (r * 64) ((s[a + i].toNat : Int) - 128) = r * 64 + ((s[a + i].toNat : Int) - 128) := or6 _ _ (by omega) (by omega) (by omega) (by omega) (by omega)
    have hb1 : 128 ≤ (s[a + i].toNat : Int) := by omega
    have hb2 : (s[a + i].toNat : Int) ≤ 191 := by omega
    have HN : Hid (goD (3 - i) (l.drop (i + 1)) (i + 1) (r * 64 + ((s[a + i].toNat : Int) - 128)) 128 191 = R) := Lib.hid (by rw [← HD.out, hstep.out, if_pos (by omega)])
    have HB2 : Hid (bdR (i + 1) (r * 64 + ((s[a + i].toNat : Int) - 128))) := Lib.hid (by have := HB.out; unfold bdR at this ⊢; omega)
    clear hbl hbh hlo hhi
    go_wp2_with fail
    go_roundg (gk - 1)
    case measure => omega
    case rel => exact ⟨i + 1, _, 128, 191, by omega, rfl, by omega, by omega, rfl, rfl, rfl, rfl, rfl, rfl, by go_num, HB2.out, by omega, by
      rw [show 3 + 1 - (i + 1) = 3 - i by omega]; exact HN.out⟩
set_option maxRecDepth 100000 in
set_option maxHeartbeats 1600000 in
theorem part_j (s : ByteArray) (a : Nat) (w : World) (c : Nat) (HC : Hid (∀ h : a < s.size, s[a].toNat = c)) (hs : s.size ≤ 100000) (hlt : a < s.size) (h : c = 244) :
    Calls Tryz.prog 63 #[.string s, .int .i64 a] w fun e w' => PartS w (dec (s.data.toList.drop a)) e w' := by
  obtain ⟨l, HL⟩ : ∃ l, Hid (s.data.toList.drop a = l) := ⟨_, Lib.hid rfl⟩
  have DI : Hid (∀ k, (h : a + k < s.size) → l.drop k = s[a + k] :: l.drop (k + 1)) := Lib.hid (by intro k h; rw [← HL.out]; exact drop_in s a k h)
  have DO : Hid (∀ k, ¬ a + k < s.size → l.drop k = []) := Lib.hid (by intro k h; rw [← HL.out]; exact drop_out s a k h)
  have D1 : Hid (l = s[a] :: l.drop 1) := Lib.hid (by rw [← HL.out]; exact drop_one s a hlt)
  rw [HL.out]
  obtain ⟨R, HR⟩ : ∃ R, Hid (dec l = R) := ⟨_, Lib.hid rfl⟩
  have H0 : Hid (goD 3 (l.drop 1) 1 (ldR c) (ldLo c) (ldHi c) = R) := Lib.hid (by
    rw [← HR.out]
    conv => rhs; rw [D1.out]
    simp only [dec]
    rw [HC.out hlt]
    have e : ldN c = 3 := by unfold ldN; rw [if_neg (by omega), if_neg (by omega), if_neg (by omega), if_neg (by omega), if_pos (by omega)] 
    rw [e]
    rfl)
  have hl := lead_j c w h
  have Hl := Lib.hid hl
  rw [HR.out]
  clear HL HR D1 hl
  have hcc : s[a].toNat = c := HC.out hlt
  have hmask : bits .and .i64 (c : Int) 7 = ldR c := (and_3 _ (by omega) (by omega)).trans (by unfold ldR; rw [if_neg (by omega), if_neg (by omega), if_neg (by omega)])
  have hr0 : Hid (bdR 1 (ldR c)) := Lib.hid (by unfold ldR bdR; rw [if_neg (by omega), if_neg (by omega), if_neg (by omega)]; omega)
  have hlh : Hid (1 ≤ 3 → ldLo c = 128 ∧ ldHi c = 143) := Lib.hid (by intro _; unfold ldLo ldHi; exact ⟨by (repeat' split) <;> omega, by (repeat' split) <;> omega⟩)
  have hc256 : c < 256 := by omega
  clear h
  go_enter Tryz.func63, Tryz.ntmps63
  go_wp2_with (go_at_call 101; refine Hl.out.mono ?_; rintro e w' ⟨rfl, rfl⟩)
  go_loopg [4, 5, 6, 8, 9, 11, 12] (3 + 1) (fun g q4 q5 q6 q8 q9 q11 q12 wr => ∃ (i : Nat) (r lo hi : Int), i + g = 3 + 2 ∧ w = wr ∧ 1 ≤ i ∧ i ≤ 3 + 1 ∧ q4 = .int .i64 0 ∧ q5 = .int .i64 0 ∧ q6 = .bool false ∧ q8 = .int .u8 lo ∧ q9 = .int .u8 hi ∧ q11 = .int .i64 r ∧ q12 = .int .i64 i ∧ bdR i r ∧ (i ≤ 3 → 128 ≤ lo ∧ hi ≤ 191) ∧ goD (3 + 1 - i) (l.drop i) i r lo hi = R)
  case atStart => exact ⟨1, ldR c, 128, 143, by omega, rfl, by omega, by omega, rfl, rfl, rfl, rfl, rfl, rfl, rfl, hr0.out, by omega, by
    have := H0.out
    first
      | (rw [(hlh.out (by omega)).1, (hlh.out (by omega)).2] at this; exact this)
      | (simp only [goD] at this ⊢; exact this)⟩
  case round =>
    obtain ⟨i, r, lo, hi, hig, rfl, hi1, hi2, rfl, rfl, rfl, rfl, rfl, rfl, rfl, hbd, hlohi, hgo⟩ := hrel
    have HB := Lib.hid hbd
    have HD := Lib.hid hgo
    have HLH := Lib.hid hlohi
    clear hgo hlohi
    have hr0 := hbd.1
    have hr1 : r < 33554432 := by unfold bdR at hbd; omega
    clear hbd
    by_cases hie : i = 3 + 1
    · have hres := part_good w R i r (by rw [← HD.out, hie, Nat.sub_self]; rfl) hr0
      subst hie
      have HE := Lib.hid hres
      clear hres
      go_wp2_with fail
      go_ret3
      exact HE.out
    have him : i ≤ 3 := by omega
    obtain ⟨hlo, hhi⟩ := HLH.out him
    clear hie
    by_cases hin : a + i < s.size
    rotate_left 1
    · have HE := Lib.hid (part_bad w R i (by
        rw [← HD.out, DO.out i hin, show 3 + 1 - i = (3 - i) + 1 by omega]; rfl))
      have hin2 : decide (s.size ≤ a + i) = true := by simp; omega
      have hin3 : decide ((s.size : Int) ≤ (a : Int) + (i : Int)) = true := by simp; omega
      have hin4 : (s.size : Int) ≤ (a : Int) + (i : Int) := by omega
      clear hin hlo hhi
      go_wp2_with fail
      go_ret3
      exact HE.out
    have hb := s[a + i].toNat_lt
    have hstep : Hid (goD (3 + 1 - i) (l.drop i) i r lo hi = if lo ≤ (s[a + i].toNat : Int) ∧ (s[a + i].toNat : Int) ≤ hi then goD (3 - i) (l.drop (i + 1)) (i + 1) (r * 64 + ((s[a + i].toNat : Int) - 128)) 128 191 else (-1, i)) := Lib.hid (by
      conv => lhs; rw [DI.out i hin, show 3 + 1 - i = (3 - i) + 1 by omega]
      rfl)
    have hn1 : decide ((s.size : Int) ≤ (a : Int) + (i : Int)) = false := by simp; omega
    by_cases hbl : (s[a + i].toNat : Int) < lo
    · have HE := Lib.hid (part_bad w R i (by rw [← HD.out, hstep.out, if_neg (by omega)]))
      have hd1 : decide ((s[a + i].toNat : Int) < lo) = true := by simpa using hbl
      clear hlo hhi
      go_wp2_with fail
      go_ret3
      exact HE.out
    have hd1 : decide ((s[a + i].toNat : Int) < lo) = false := by simpa using hbl
    by_cases hbh : hi < (s[a + i].toNat : Int)
    · have HE := Lib.hid (part_bad w R i (by rw [← HD.out, hstep.out, if_neg (by omega)]))
      have hd2 : decide (hi < (s[a + i].toNat : Int)) = true := by simpa using hbh
      clear hlo hhi
      go_wp2_with fail
      go_ret3
      exact HE.out
    have hd2 : decide (hi < (s[a + i].toNat : Int)) = false := by simpa using hbh
    have hm1 : bits .and .u8 (s[a + i].toNat : Int) 63 = (s[a + i].toNat : Int) - 128 := (u8_and63 _ (by omega) (by omega)).trans (by omega)
    have hor : bits .or .i64 (r * 64) ((s[a + i].toNat : Int) - 128) = r * 64 + ((s[a + i].toNat : Int) - 128) := or6 _ _ (by omega) (by omega) (by omega) (by omega) (by omega)
    have hb1 : 128 ≤ (s[a + i].toNat : Int) := by omega
    have hb2 : (s[a + i].toNat : Int) ≤ 191 := by omega
    have HN : Hid (goD (3 - i) (l.drop (i + 1)) (i + 1) (r * 64 + ((s[a + i].toNat : Int) - 128)) 128 191 = R) := Lib.hid (by rw [← HD.out, hstep.out, if_pos (by omega)])
    have HB2 : Hid (bdR (i + 1) (r * 64 + ((s[a + i].toNat : Int) - 128))) := Lib.hid (by have := HB.out; unfold bdR at this ⊢; omega)
    clear hbl hbh hlo hhi
    go_wp2_with fail
    go_roundg (gk - 1)
    case measure => omega
    case rel => exact ⟨i + 1, _, 128, 191, by omega, rfl, by omega, by omega, rfl, rfl, rfl, rfl, rfl, rfl, by go_num, HB2.out, by omega, by
      rw [show 3 + 1 - (i + 1) = 3 - i by omega]; exact HN.out⟩
theorem part_b (s : ByteArray) (a : Nat) (w : World) (c : Nat) (HC : Hid (∀ h : a < s.size, s[a].toNat = c)) (hs : s.size ≤ 100000) (hlt : a < s.size) (h0 : 128 ≤ c) (h1 : c < 194) :
    Calls Tryz.prog 63 #[.string s, .int .i64 a] w fun e w' => PartS w (dec (s.data.toList.drop a)) e w' := by
  have HR := Lib.hid (part_bad w (dec (s.data.toList.drop a)) 1 (by
    rw [drop_one s a hlt]
    simp only [dec]
    rw [HC.out hlt, if_pos (by unfold ldN; rw [if_neg (by omega), if_pos (by omega)]; omega)]))
  have hl := lead_b c w h0 h1
  have Hl := Lib.hid hl
  clear hl
  have hcc : s[a].toNat = c := HC.out hlt
  go_enter Tryz.func63, Tryz.ntmps63
  go_wp2_with (go_at_call 101; refine Hl.out.mono ?_; rintro e w' ⟨rfl, rfl⟩)
  go_ret3
  exact HR.out
theorem part_c (s : ByteArray) (a : Nat) (w : World) (c : Nat) (HC : Hid (∀ h : a < s.size, s[a].toNat = c)) (hs : s.size ≤ 100000) (hlt : a < s.size) (h0 : 245 ≤ c) (h1 : c < 256) :
    Calls Tryz.prog 63 #[.string s, .int .i64 a] w fun e w' => PartS w (dec (s.data.toList.drop a)) e w' := by
  have HR := Lib.hid (part_bad w (dec (s.data.toList.drop a)) 1 (by
    rw [drop_one s a hlt]
    simp only [dec]
    rw [HC.out hlt, if_pos (by unfold ldN; rw [if_neg (by omega), if_neg (by omega), if_neg (by omega), if_neg (by omega), if_neg (by omega)]; omega)]))
  have hl := lead_c c w h0 h1
  have Hl := Lib.hid hl
  clear hl
  have hcc : s[a].toNat = c := HC.out hlt
  go_enter Tryz.func63, Tryz.ntmps63
  go_wp2_with (go_at_call 101; refine Hl.out.mono ?_; rintro e w' ⟨rfl, rfl⟩)
  go_ret3
  exact HR.out
theorem part_any (s : ByteArray) (a : Nat) (w : World) (hs : s.size ≤ 100000) (hlt : a < s.size) :
    Calls Tryz.prog 63 #[.string s, .int .i64 a] w fun e w' => PartS w (dec (s.data.toList.drop a)) e w' := by
  obtain ⟨c, hc⟩ : ∃ c, s[a].toNat = c := ⟨_, rfl⟩
  have hlt' := s[a].toNat_lt
  have HC : Hid (∀ h : a < s.size, s[a].toNat = c) := Lib.hid (fun _ => hc)
  rw [hc] at hlt'
  by_cases c1 : c < 128
  · exact part_a s a w c HC hs hlt c1
  by_cases c2 : c < 194
  · exact part_b s a w c HC hs hlt (by omega) c2
  by_cases c3 : c < 224
  · exact part_d s a w c HC hs hlt (by omega) c3
  by_cases c4 : c = 224
  · exact part_e s a w c HC hs hlt c4
  by_cases c5 : c = 237
  · exact part_f s a w c HC hs hlt c5
  by_cases c6 : c < 240
  · exact part_g s a w c HC hs hlt (by omega) c6 c5
  by_cases c7 : c = 240
  · exact part_h s a w c HC hs hlt c7
  by_cases c8 : c < 244
  · exact part_i s a w c HC hs hlt (by omega) c8
  by_cases c9 : c = 244
  · exact part_j s a w c HC hs hlt c9
  · exact part_c s a w c HC hs hlt (by omega) (by omega)
theorem rnext_any (s : ByteArray) (a : Int) (w : World) (hs : s.size ≤ 100000) : Calls Tryz.prog 70 #[.string s, .int .i64 a] w fun e w' => NextS w s a e w' := by
  by_cases h0 : a < 0
  · have HE : Hid (NextS w s a (.returned (.tuple #[.int .i64 0, .int .i64 0, .bool false])) w) := Lib.hid (by
      unfold NextS; rw [nxt_out (by omega)]; exact ⟨rfl, rfl⟩)
    have hd : decide (a < 0) = true := by simpa using h0
    go_enter Tryz.func70, Tryz.ntmps70
    go_wp2_with fail
    go_ret3
    exact HE.out
  obtain ⟨a, rfl⟩ := Int.eq_ofNat_of_zero_le (show 0 ≤ a by omega)
  have hd : decide ((a : Int) < 0) = false := by simp
  by_cases h1 : a < s.size
  rotate_left 1
  · have HE : Hid (NextS w s a (.returned (.tuple #[.int .i64 0, .int .i64 0, .bool false])) w) := Lib.hid (by
      unfold NextS; rw [nxt_out (by omega)]; exact ⟨rfl, rfl⟩)
    have h1' : s.size ≤ a := by omega
    have hd2 : decide (s.size ≤ a) = true := by simpa using h1'
    go_enter Tryz.func70, Tryz.ntmps70
    go_wp2_with fail
    go_ret3
    exact HE.out
  obtain ⟨r, n, hR⟩ : ∃ r n, dec (s.data.toList.drop a) = (r, n) := ⟨_, _, rfl⟩
  have hrd := part_any s a w hs h1
  rw [hR] at hrd
  have h2 : ¬ (s.size : Int) ≤ a := by omega
  by_cases hr : r = -1
  · have HE : Hid (NextS w s a (.returned (.tuple #[.int .i64 0, .int .i64 0, .bool false])) w) := Lib.hid (by
      unfold NextS nxt; rw [if_pos (by omega)]; simp only [Int.toNat_natCast, hR]; rw [if_pos hr]; exact ⟨rfl, trivial⟩)
    subst hr
    have Hrd : Hid (Calls Tryz.prog 63 #[.string s, .int .i64 a] w fun e w' => e = .returned (.tuple #[.int .i64 0, .int .i64 n, .bool false]) ∧ w = w') := Lib.hid hrd
    clear hR hrd
    go_enter Tryz.func70, Tryz.ntmps70
    go_wp2_with (go_at_call 63; refine Hrd.out.mono ?_; rintro e w' ⟨rfl, rfl⟩)
    go_ret3
    exact HE.out
  · have HE : Hid (NextS w s a (.returned (.tuple #[.int .i64 r, .int .i64 n, .bool true])) w) := Lib.hid (by
      unfold NextS nxt; rw [if_pos (by omega)]; simp only [Int.toNat_natCast, hR]; rw [if_neg hr]; exact ⟨rfl, trivial⟩)
    have Hrd : Hid (Calls Tryz.prog 63 #[.string s, .int .i64 a] w fun e w' => e = .returned (.tuple #[.int .i64 r, .int .i64 n, .bool true]) ∧ w = w') := Lib.hid (by
      refine hrd.mono ?_
      rintro e w' ⟨he, hw⟩
      refine ⟨?_, hw⟩
      rw [he]
      simp [hr])
    clear hR hrd hr
    go_enter Tryz.func70, Tryz.ntmps70
    go_wp2_with (go_at_call 63; refine Hrd.out.mono ?_; rintro e w' ⟨rfl, rfl⟩)
    go_ret3
    exact HE.out
end Go.Proofs.YtppabkllconkjaaGreatDoor.U
