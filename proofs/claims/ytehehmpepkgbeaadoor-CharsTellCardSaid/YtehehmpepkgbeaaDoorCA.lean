/- The contracts of within, Char, Space, First, Further, the program's. -/
import Derived.Test.YtehehmpepkgbeaaDoorCL
import Derived.Test.YtehehmpepkgbeaaDoorBS
namespace Go.Proofs.YtehehmpepkgbeaaDoor.Chr
open Go.RowKit
set_option linter.unusedVariables false
set_option linter.unusedSimpArgs false
/-- Block b holds ranges, two cells each. -/
def Spn (w : World) (b : Nat) (L : List (Int × Int)) : Prop := b < w.heap.size ∧ ∀ i (h : i < L.length), w.cell? ⟨b, i * 2, none⟩ = some (.int .i64 L[i].1) ∧ w.cell? ⟨b, i * 2 + 1, none⟩ = some (.int .i64 L[i].2)
theorem Spn.below {w w' : World} {b : Nat} {L : List (Int × Int)} (h : Spn w b L) (hb : Below w.heap.size w w') : Spn w' b L :=
  ⟨by have := hb.size; have := h.1; omega, fun i hi => ⟨(hb.cell (p := ⟨b, i * 2, none⟩) h.1).trans (h.2 i hi).1, (hb.cell (p := ⟨b, i * 2 + 1, none⟩) h.1).trans (h.2 i hi).2⟩⟩
def inS (r : Int) (p : Int × Int) : Bool := decide (p.1 ≤ r) && decide (r ≤ p.2)
theorem inS_no {r : Int} {p : Int × Int} (h : ¬ (p.1 ≤ r ∧ r ≤ p.2)) : inS r p = false := by
  unfold inS
  rw [Bool.and_eq_false_iff, decide_eq_false_iff_not, decide_eq_false_iff_not]; omega
theorem inS_yes {r : Int} {p : Int × Int} (h1 : p.1 ≤ r) (h2 : r ≤ p.2) : inS r p = true := by simp [inS, h1, h2]
def NoneTo (r : Int) (L : List (Int × Int)) (k : Nat) : Prop := (L.take k).any (inS r) = false
theorem NoneTo.step {r : Int} {L : List (Int × Int)} {k : Nat} (h : NoneTo r L k) (hk : k < L.length) (hn : inS r L[k] = false) : NoneTo r L (k + 1) := by
  unfold NoneTo at *
  rw [List.take_succ_eq_append_getElem hk, List.any_append, h]
  simp [hn]
theorem NoneTo.done {r : Int} {L : List (Int × Int)} {k : Nat} (h : NoneTo r L k) (hk : ¬ k < L.length) : L.any (inS r) = false := by
  unfold NoneTo at h
  rwa [List.take_of_length_le (by omega)] at h
theorem any_at {r : Int} {L : List (Int × Int)} {k : Nat} (hk : k < L.length) (h : inS r L[k] = true) : L.any (inS r) = true :=
  List.any_eq_true.2 ⟨_, List.getElem_mem hk, h⟩
set_option maxHeartbeats 2000000 in
theorem pwithin_any (r : Int) (L : List (Int × Int)) (b cap : Nat) (w : World) (hS : Spn w b L) (hl : L.length ≤ 100) :
    Calls Tryd.prog 32 #[.int .i64 r, .slice (some ⟨b, 0, none⟩) L.length cap] w fun e w' => RetB (L.any (inS r)) w e w' := by
  obtain ⟨N, hN⟩ : ∃ N, L.length = N := ⟨_, rfl⟩
  have HS := Lib.hid hS
  have HN := Lib.hid hN
  rw [hN] at hl ⊢
  clear hS hN
  go_enter Tryd.func32, Tryd.ntmps32
  go_wp2_with fail
  go_loopg [9] (N + 1) (fun g q wr => ∃ (k : Nat), k + g = N + 1 ∧ q = .int .i64 k ∧ k ≤ N ∧ Hid (NoneTo r L k) ∧ Hid (Below w.heap.size w wr))
  case atStart => exact ⟨0, by omega, rfl, by omega, Lib.hid rfl, Lib.hid (Below.refl _ _)⟩
  case round =>
    obtain ⟨k, hkg, rfl, hkN, HO, HB⟩ := hrel
    by_cases hlt : k < N
    · have hk2 : k < L.length := by rw [HN.out]; exact hlt
      obtain ⟨h1, h2⟩ := (HS.out.below HB.out).2 k hk2
      have hbl := (HS.out.below HB.out).1
      have hk0 : (0 : Int) ≤ (k : Int) := by omega
      have hk3 : (k : Int) < (N : Int) := by omega
      obtain ⟨x, hx⟩ : ∃ x, L[k].1 = x := ⟨_, rfl⟩
      obtain ⟨y, hy⟩ : ∃ y, L[k].2 = y := ⟨_, rfl⟩
      rw [hx] at h1
      rw [hy] at h2
      by_cases i1 : x ≤ r
      · by_cases i2 : r ≤ y
        · have HA : Hid (L.any (inS r) = true) := Lib.hid (any_at hk2 (inS_yes (by rw [hx]; exact i1) (by rw [hy]; exact i2)))
          clear hx hy
          go_wp2_with fail
          go_ret
          exact ⟨by rw [HA.out]; rfl, by first | exact HB.out.alloc HB.out.size _ | exact (HB.out.alloc HB.out.size _).drew | exact below_draws (HB.out.alloc HB.out.size _) _⟩
        · have HA : Hid (NoneTo r L (k + 1)) := Lib.hid (HO.out.step hk2 (inS_no (by rw [hx, hy]; exact fun h => i2 h.2)))
          clear hx hy
          go_wp2_with fail
          go_roundg (gk - 1)
          case measure => omega
          case rel => exact ⟨k + 1, by omega, by go_num, by omega, HA, Lib.hid (by first | exact HB.out.alloc HB.out.size _ | exact below_draws (HB.out.alloc HB.out.size _) _)⟩
      · have HA : Hid (NoneTo r L (k + 1)) := Lib.hid (HO.out.step hk2 (inS_no (by rw [hx, hy]; exact fun h => i1 h.1)))
        clear hx hy
        go_wp2_with fail
        go_roundg (gk - 1)
        case measure => omega
        case rel => exact ⟨k + 1, by omega, by go_num, by omega, HA, Lib.hid (by first | exact HB.out.alloc HB.out.size _ | exact below_draws (HB.out.alloc HB.out.size _) _)⟩
    · have HA : Hid (L.any (inS r) = false) := Lib.hid (HO.out.done (by rw [HN.out]; exact hlt))
      go_wp2_with fail
      go_ret
      exact ⟨by rw [HA.out]; rfl, HB.out⟩
def chrL : List (Int × Int) := [(9, 10), (13, 13), (32, 55295), (57344, 65533), (65536, 1114111)]
def spcL : List (Int × Int) := [(9, 10), (13, 13), (32, 32)]
def fstL : List (Int × Int) := [(65, 90), (97, 122), (95, 95), (192, 214), (216, 246), (248, 767), (880, 893), (895, 8191), (8204, 8205), (8304, 8591), (11264, 12271), (12289, 55295), (63744, 64975), (65008, 65533), (65536, 983039)]
def furL : List (Int × Int) := [(45, 46), (48, 57), (183, 183), (768, 879), (8255, 8256)]
theorem chr_L (r : Int) : chrL.any (inS r) = chr r := by
  unfold chrL chr inS
  rw [Bool.eq_iff_iff]
  simp only [List.any_cons, List.any_nil, Bool.or_false, Bool.or_eq_true, Bool.and_eq_true, decide_eq_true_eq]
  omega
theorem spc_L (r : Int) : spcL.any (inS r) = spc r := by
  unfold spcL spc inS
  rw [Bool.eq_iff_iff]
  simp only [List.any_cons, List.any_nil, Bool.or_false, Bool.or_eq_true, Bool.and_eq_true, decide_eq_true_eq]
  omega
theorem fst_L (r : Int) : fstL.any (inS r) = fstC r := by
  unfold fstL fstC inS
  rw [Bool.eq_iff_iff]
  simp only [List.any_cons, List.any_nil, Bool.or_false, Bool.or_eq_true, Bool.and_eq_true, decide_eq_true_eq]
  omega
theorem fur_L (r : Int) : (fstC r || furL.any (inS r)) = furC r := by
  unfold furC
  congr 1
  unfold furL inS
  rw [Bool.eq_iff_iff]
  simp only [List.any_cons, List.any_nil, Bool.or_false, Bool.or_eq_true, Bool.and_eq_true, decide_eq_true_eq]
  omega
theorem spn_new (w : World) (cs : Array Value) (T : TypeId) (L : List (Int × Int)) (h : cs.toList = L.flatMap fun p => [.int .i64 p.1, .int .i64 p.2]) : Spn (w.alloc (.cells cs T)) w.heap.size L := by
  refine ⟨by simp, fun i hi => ?_⟩
  have hb := Blk.new w cs T
  have key : ∀ (L : List (Int × Int)) (i : Nat) (hi : i < L.length), (L.flatMap fun p => [Value.int .i64 p.1, Value.int .i64 p.2])[i * 2]? = some (.int .i64 L[i].1) ∧ (L.flatMap fun p => [Value.int .i64 p.1, Value.int .i64 p.2])[i * 2 + 1]? = some (.int .i64 L[i].2) := by
    intro L
    induction L with
    | nil => intro i hi; exact absurd hi (Nat.not_lt_zero _)
    | cons p t ih =>
      intro i hi
      cases i with
      | zero => exact ⟨rfl, rfl⟩
      | succ i =>
        have h1 : (i + 1) * 2 = (i * 2) + 2 := by omega
        have h2 : (i + 1) * 2 + 1 = (i * 2 + 1) + 2 := by omega
        rw [h2, h1]
        exact ih i (by simpa using hi)
  obtain ⟨k1, k2⟩ := key L i hi
  rw [hb.cell, hb.cell, ← Array.getElem?_toList, ← Array.getElem?_toList, h]
  exact ⟨k1, k2⟩
set_option maxHeartbeats 2000000 in
theorem pspace_any (r : Int) (w : World) : Calls Tryd.prog 11 #[.int .i64 r] w fun e w' => RetB (spc r) w e w' := by
  have HW : Hid (∀ b w, Spn w b spcL → Calls Tryd.prog 32 #[.int .i64 r, .slice (some ⟨b, 0, none⟩) 3 3] w fun e w' => RetB (spc r) w e w') := Lib.hid fun b w h => by
    have := pwithin_any r spcL b 3 w h (by decide)
    rwa [spc_L] at this
  obtain ⟨x, hx⟩ : ∃ x, spc r = x := ⟨_, rfl⟩
  rw [hx] at HW ⊢
  clear hx
  go_enter Tryd.func11, Tryd.ntmps11
  go_wp2_with (go_at_call 32; refine (HW.out _ _ (spn_new _ _ _ spcL rfl)).mono ?_; rintro _ w9 ⟨rfl, hb9⟩)
  go_ret
  exact ⟨rfl, below_call ((Below.refl _ w).alloc (Nat.le_refl _) _) hb9⟩
set_option maxHeartbeats 2000000 in
theorem pchar_any (r : Int) (w : World) : Calls Tryd.prog 9 #[.int .i64 r] w fun e w' => RetB (chr r) w e w' := by
  have HW : Hid (∀ b w, Spn w b chrL → Calls Tryd.prog 32 #[.int .i64 r, .slice (some ⟨b, 0, none⟩) 5 5] w fun e w' => RetB (chr r) w e w') := Lib.hid fun b w h => by
    have := pwithin_any r chrL b 5 w h (by decide)
    rwa [chr_L] at this
  obtain ⟨x, hx⟩ : ∃ x, chr r = x := ⟨_, rfl⟩
  rw [hx] at HW ⊢
  clear hx
  go_enter Tryd.func9, Tryd.ntmps9
  go_wp2_with (go_at_call 32; refine (HW.out _ _ (spn_new _ _ _ chrL rfl)).mono ?_; rintro _ w9 ⟨rfl, hb9⟩)
  go_ret
  exact ⟨rfl, below_call ((Below.refl _ w).alloc (Nat.le_refl _) _) hb9⟩
set_option maxHeartbeats 2000000 in
theorem pfirst_any (r : Int) (w : World) : Calls Tryd.prog 13 #[.int .i64 r] w fun e w' => RetB (fstC r) w e w' := by
  have HW : Hid (∀ b w, Spn w b fstL → Calls Tryd.prog 32 #[.int .i64 r, .slice (some ⟨b, 0, none⟩) 15 15] w fun e w' => RetB (fstC r) w e w') := Lib.hid fun b w h => by
    have := pwithin_any r fstL b 15 w h (by decide)
    rwa [fst_L] at this
  obtain ⟨x, hx⟩ : ∃ x, fstC r = x := ⟨_, rfl⟩
  rw [hx] at HW ⊢
  clear hx
  go_enter Tryd.func13, Tryd.ntmps13
  go_wp2_with (go_at_call 32; refine (HW.out _ _ (spn_new _ _ _ fstL rfl)).mono ?_; rintro _ w9 ⟨rfl, hb9⟩)
  go_ret
  exact ⟨rfl, below_call ((Below.refl _ w).alloc (Nat.le_refl _) _) hb9⟩
set_option maxHeartbeats 2000000 in
theorem pfurther_any (r : Int) (w : World) : Calls Tryd.prog 15 #[.int .i64 r] w fun e w' => RetB (furC r) w e w' := by
  have HF : Hid (∀ w, Calls Tryd.prog 13 #[.int .i64 r] w fun e w' => RetB (fstC r) w e w') := Lib.hid fun w => pfirst_any r w
  have HW : Hid (∀ b w, Spn w b furL → Calls Tryd.prog 32 #[.int .i64 r, .slice (some ⟨b, 0, none⟩) 5 5] w fun e w' => RetB (furL.any (inS r)) w e w') := Lib.hid fun b w h => pwithin_any r furL b 5 w h (by decide)
  have hL := fur_L r
  obtain ⟨x, hx⟩ : ∃ x, fstC r = x := ⟨_, rfl⟩
  obtain ⟨y, hy⟩ : ∃ y, furL.any (inS r) = y := ⟨_, rfl⟩
  rw [hx] at HF hL
  rw [hy] at HW hL
  have HL := Lib.hid hL
  clear hx hy hL
  cases x with
  | true =>
    have hz : furC r = true := HL.out.symm
    rw [hz]
    clear hz HL HW
    go_enter Tryd.func15, Tryd.ntmps15
    go_wp2_with (go_at_call 13; refine (HF.out _).mono ?_; rintro _ w8 ⟨rfl, hb8⟩)
    go_ret
    exact ⟨rfl, hb8⟩
  | false =>
    have hz : furC r = y := HL.out.symm
    rw [hz]
    clear hz HL
    go_enter Tryd.func15, Tryd.ntmps15
    go_wp2_with (first
      | (go_at_call 13; refine (HF.out _).mono ?_; rintro _ w8 ⟨rfl, hb8⟩)
      | (go_at_call 32; refine (HW.out _ _ (spn_new _ _ _ furL rfl)).mono ?_; rintro _ w9 ⟨rfl, hb9⟩))
    go_ret
    exact ⟨rfl, below_call (hb8.alloc hb8.size _) hb9⟩
end Go.Proofs.YtehehmpepkgbeaaDoor.Chr
