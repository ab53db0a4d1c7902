/- The contracts of white space and of Trim, the program's and the document's own. -/
import Derived.Test.YtfpncdhneikkaaaDoorA
import Derived.Lib.Bytealg
import Derived.Laws.Externs
import Derived.Laws.DeepStrings4
import Derived.Laws.BytesArg
import Derived.Laws.IdiomStrings
namespace Go.Proofs.YtfpncdhneikkaaaDoor
open Go.RowKit
set_option linter.unusedVariables false
set_option linter.unusedSimpArgs false
def whiteS : ByteArray := ⟨#[9, 10, 12, 13, 32]⟩
theorem ixb_isW (c : UInt8) : decide (0 ≤ Lib.indexByte [9, 10, 12, 13, 32] c) = isW c := by
  have : ∀ c : Fin 256, decide (0 ≤ Lib.indexByte [9, 10, 12, 13, 32] (UInt8.ofNat c)) = isW (UInt8.ofNat c) := by decide +kernel
  have k := this ⟨c.toNat, c.toNat_lt⟩
  simpa using k
theorem run_ixb (s : ByteArray) (c : Int) (w : World) : (callFunc 25 #[.string s, .int .u8 c]).run Tryd.prog w = .ok (.value (.int .i64 (Lib.indexByte s.data.toList c.toNat.toUInt8))) w := by
  rw [run_callFunc_extern Tryd.func25 (by kernel_rfl) (by kernel_rfl) (by kernel_rfl) (e := Extern.BytealgIndexByte.indexByte) (by kernel_rfl), Lib.run_indexByteString]; rfl
theorem sl_ixb (s : ByteArray) (c : Int) (w : World) : Calls Tryd.prog 24 #[.string s, .int .u8 c] w fun e w' => e = .returned (.int .i64 (Lib.indexByte s.data.toList c.toNat.toUInt8)) ∧ w' = w := by
  have hx := run_ixb
  go_enter Tryd.func24, Tryd.ntmps24
  go_wp2_with fail
  go_ret
  exact ⟨rfl, rfl⟩
theorem st_ixb (s : ByteArray) (c : Int) (w : World) : Calls Tryd.prog 21 #[.string s, .int .u8 c] w fun e w' => e = .returned (.int .i64 (Lib.indexByte s.data.toList c.toNat.toUInt8)) ∧ w' = w := by
  go_enter Tryd.func21, Tryd.ntmps21
  go_wp2_with (go_at_call 24; refine (sl_ixb _ _ _).mono ?_; rintro e w' ⟨rfl, rfl⟩)
  go_ret
  exact ⟨rfl, rfl⟩
/-- The closure that asks whether a byte is white. -/
theorem isWhite_any (s : ByteArray) (B k : Nat) (hk : k < s.size) (w : World) (hc : w.cell? ⟨B, 0, none⟩ = some (.string s)) :
    Calls Tryd.prog 20 #[.int .i64 (k : Int), .pointer (some ⟨B, 0, none⟩)] w fun e w' => e = .returned (.bool (isW s[k])) ∧ w' = w := by
  have hk0 : (0 : Int) ≤ (k : Int) := by omega
  have hk3 : (k : Int) < (s.size : Int) := by omega
  have HW : ∀ n : Int, n = Lib.indexByte [9, 10, 12, 13, 32] s[k] → decide (0 ≤ n) = isW s[k] := fun n h => by rw [h]; exact ixb_isW _
  obtain ⟨n, hn⟩ : ∃ n, Lib.indexByte [9, 10, 12, 13, 32] s[k] = n := ⟨_, rfl⟩
  have H := Lib.hid (HW n hn.symm)
  have HC : Hid (∀ w, Calls Tryd.prog 21 #[.string whiteS, .int .u8 (s[k].toNat : Int)] w fun e w' => e = .returned (.int .i64 n) ∧ w' = w) := Lib.hid fun w => by
    refine (st_ixb whiteS (s[k].toNat : Int) w).mono ?_
    rintro e w' ⟨rfl, rfl⟩
    refine ⟨?_, rfl⟩
    rw [← hn]
    simp [whiteS]
  clear hn HW
  go_enter Tryd.func20, Tryd.ntmps20
  go_wp2_with (go_at_call 21; refine (HC.out _).mono ?_; rintro e w' ⟨rfl, rfl⟩)
  go_ret
  exact ⟨ret_bool H.out, rfl⟩
theorem rwhite_any (c : UInt8) (w : World) : Calls Tryd.prog 22 #[.int .u8 (c.toNat : Int)] w fun e w' => e = .returned (.bool (isW c)) ∧ w' = w := by
  have H : isW c = true ↔ ((c.toNat : Int) = 9 ∨ (c.toNat : Int) = 10 ∨ (c.toNat : Int) = 12 ∨ (c.toNat : Int) = 13 ∨ (c.toNat : Int) = 32) := by
    have : ∀ c : Fin 256, isW (UInt8.ofNat c) = true ↔ ((c.val : Int) = 9 ∨ (c.val : Int) = 10 ∨ (c.val : Int) = 12 ∨ (c.val : Int) = 13 ∨ (c.val : Int) = 32) := by decide +kernel
    have k := this ⟨c.toNat, c.toNat_lt⟩
    simpa using k
  obtain ⟨x, hx⟩ : ∃ x : Int, (c.toNat : Int) = x := ⟨_, rfl⟩
  obtain ⟨b, hb⟩ : ∃ b, isW c = b := ⟨_, rfl⟩
  rw [hx, hb] at H
  rw [hx, hb]
  clear hx hb
  have HH := Lib.hid H
  clear H
  by_cases h1 : x = 9
  · have e : (x == 9) = true := by simpa using h1
    have HB : Hid (true = b) := Lib.hid (HH.out.2 (.inl h1)).symm
    clear h1
    go_enter Tryd.func22, Tryd.ntmps22
    go_wp2_with fail
    go_ret
    exact ⟨ret_bool HB.out, rfl⟩
  have e1 : (x == 9) = false := by simpa using h1
  by_cases h2 : x = 10
  · have e : (x == 10) = true := by simpa using h2
    have HB : Hid (true = b) := Lib.hid (HH.out.2 (.inr (.inl h2))).symm
    clear h1 h2
    go_enter Tryd.func22, Tryd.ntmps22
    go_wp2_with fail
    go_ret
    exact ⟨ret_bool HB.out, rfl⟩
  have e2 : (x == 10) = false := by simpa using h2
  by_cases h3 : x = 12
  · have e : (x == 12) = true := by simpa using h3
    have HB : Hid (true = b) := Lib.hid (HH.out.2 (.inr (.inr (.inl h3)))).symm
    clear h1 h2 h3
    go_enter Tryd.func22, Tryd.ntmps22
    go_wp2_with fail
    go_ret
    exact ⟨ret_bool HB.out, rfl⟩
  have e3 : (x == 12) = false := by simpa using h3
  by_cases h4 : x = 13
  · have e : (x == 13) = true := by simpa using h4
    have HB : Hid (true = b) := Lib.hid (HH.out.2 (.inr (.inr (.inr (.inl h4))))).symm
    clear h1 h2 h3 h4
    go_enter Tryd.func22, Tryd.ntmps22
    go_wp2_with fail
    go_ret
    exact ⟨ret_bool HB.out, rfl⟩
  have e4 : (x == 13) = false := by simpa using h4
  have HB : Hid ((x == 32) = b) := Lib.hid (by
    cases b
    · have : ¬ x = 32 := fun h => by have := HH.out.2 (.inr (.inr (.inr (.inr h)))); cases this
      simpa using this
    · have := HH.out.1 rfl
      simp; omega)
  clear h1 h2 h3 h4
  go_enter Tryd.func22, Tryd.ntmps22
  go_wp2_with fail
  go_ret
  exact ⟨ret_bool HB.out, rfl⟩
end Go.Proofs.YtfpncdhneikkaaaDoor
