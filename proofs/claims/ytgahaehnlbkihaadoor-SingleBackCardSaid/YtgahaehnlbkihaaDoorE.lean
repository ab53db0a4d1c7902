/- The contracts of the methods that tell a byte's scalar, of the document's own lists, of scalars and of Scalar. -/
import Derived.Test.YtgahaehnlbkihaaDoorSA
import Derived.Test.YtgahaehnlbkihaaDoorQ
namespace Go.Proofs.YtgahaehnlbkihaaDoor
open Go.RowKit
set_option linter.unusedVariables false
set_option linter.unusedSimpArgs false
theorem Ints.form {w : World} {v : Value} {xs : List Int} (h : Ints w v xs) : ∃ p cap, v = .slice p xs.length cap := by
  rcases h with ⟨rfl, p, cap, rfl⟩ | ⟨b, off, cap, rfl, _⟩
  · exact ⟨p, cap, rfl⟩
  · exact ⟨_, cap, rfl⟩
def ints32 : Array Value := (w52.map (Value.int .i64)).toArray
def blkV : Value := .agg ints32
theorem w52_at : ∀ b, b < 32 → ints32[b]? = some (.int .i64 (w52.getD b 0)) := by
  intro b hb
  have : w52.length = 32 := by decide
  have h2 : b < w52.length := by omega
  unfold ints32
  simp [h2, List.getD]
theorem scW_in {b : Nat} (h : 128 ≤ b) (h1 : b < 160) : w52.getD (b - 128) 0 = scW b := by unfold scW; rw [if_pos ⟨h, h1⟩]
theorem scW_out {b : Nat} (h : ¬ (128 ≤ b ∧ b < 160)) : (b : Int) = scW b := by unfold scW; rw [if_neg h]
theorem blk_any (xs : Array Value) (hat : ∀ b, b < 32 → xs[b]? = some (.int .i64 (w52.getD b 0))) (x : Int) (b : Nat) (hx : x = b) (hb : b < 256) (w : World) :
    Calls Tryd.prog 21 #[.agg xs, .int .u8 x] w fun e w' => RetI (scW b) w e w' := by
  have h0' : 0 ≤ x := by omega
  have h1' : x < 256 := by omega
  have HX := Lib.hid hx
  have HS := Lib.hid (@scW_in b)
  have HO := Lib.hid (@scW_out b)
  have HB : Hid (Blk (w.alloc (.cells xs 51)) w.heap.size xs 51) := Lib.hid (Blk.new _ _ _)
  have HE : Hid (Below w.heap.size w (w.alloc (.cells xs 51))) := Lib.hid ((Below.refl _ _).alloc (Nat.le_refl _) _)
  by_cases h : x - 128 ≥ 0 ∧ x - 128 < 32
  · obtain ⟨h0, h1⟩ := h
    obtain ⟨n, hn⟩ : ∃ n : Nat, b = n + 128 := ⟨b - 128, by omega⟩
    have hc : (w.alloc (.cells xs 51)).cell? ⟨w.heap.size, n, none⟩ = some (.int .i64 (w52.getD n 0)) := (HB.out.cell _).trans (hat _ (by omega))
    have e2 := HS.out (by omega) (by omega)
    rw [hn, Nat.add_sub_cancel, ← hn] at e2
    rw [e2] at hc
    have hd : x - 128 = (n : Int) := by omega
    have h1 : (n : Int) < 32 := by omega
    clear hn e2 hx hat h0
    go_enter Tryd.func21, Tryd.ntmps21
    go_wp2_with fail
    go_ret
    exact ⟨rfl, HE.out⟩
  · have HOO := Lib.hid (HO.out (by omega))
    by_cases h0 : x - 128 ≥ 0
    · have h1 : ¬ x - 128 < 32 := by omega
      clear hx h hat
      go_enter Tryd.func21, Tryd.ntmps21
      go_wp2_with fail
      go_ret
      exact ⟨ret_int (by rw [← HOO.out, HX.out]), HE.out⟩
    · clear hx h hat
      go_enter Tryd.func21, Tryd.ntmps21
      go_wp2_with fail
      go_ret
      exact ⟨ret_int (by rw [← HOO.out, HX.out]), HE.out⟩
theorem blk_scalar (b : Nat) (hb : b < 256) (w : World) : Calls Tryd.prog 21 #[blkV, .int .u8 (b : Int)] w fun e w' => RetI (scW b) w e w' :=
  blk_any ints32 w52_at b b rfl hb w
theorem run_any (l : List (Int × Int × Int)) (xs : Array Value) (hl : l.length = 7)
    (hat : ∀ i, (h : i < l.length) → xs[i * 3]? = some (.int .i64 l[i].1) ∧ xs[i * 3 + 1]? = some (.int .i64 l[i].2.1) ∧ xs[i * 3 + 2]? = some (.int .i64 l[i].2.2))
    (hbd : ∀ i, (h : i < l.length) → 0 ≤ l[i].1 ∧ l[i].1 < 256 ∧ 0 ≤ l[i].2.1 ∧ l[i].2.1 < 65536 ∧ 0 ≤ l[i].2.2 ∧ l[i].2.2 < 256) (b : Int) (h0 : 0 ≤ b) (h1 : b < 256) (w : World) :
    Calls Tryd.prog 22 #[.agg xs, .int .u8 b] w fun e w' => RetI (scR l b) w e w' := by
  have HAT := Lib.hid hat
  have HBD := Lib.hid hbd
  have HB : Hid (Blk (w.alloc (.cells xs 55)) w.heap.size xs 55) := Lib.hid (Blk.new _ _ _)
  have HE : Hid (Below w.heap.size w (w.alloc (.cells xs 55))) := Lib.hid ((Below.refl _ _).alloc (Nat.le_refl _) _)
  obtain ⟨R, HR⟩ : ∃ R, Hid (scR l b = R) := ⟨_, Lib.hid rfl⟩
  rw [HR.out]
  clear hat hbd
  go_enter Tryd.func22, Tryd.ntmps22
  go_wp2_with fail
  go_loopg [7] 8 (fun g q wr => ∃ (k : Nat), k + g = 8 ∧ q = .int .i64 k ∧ k ≤ 7 ∧ Hid (scR (l.drop k) b = R) ∧ w.alloc (.cells xs 55) = wr)
  case atStart => exact ⟨0, by omega, rfl, by omega, HR, rfl⟩
  case round =>
    obtain ⟨k, hkg, rfl, hk7, HK, rfl⟩ := hrel
    by_cases hk : k < 7
    · have hkl : k < l.length := by omega
      obtain ⟨a1, a2, a3⟩ := HAT.out k hkl
      obtain ⟨f, s, n, he⟩ : ∃ f s n, l[k] = (f, s, n) := ⟨_, _, _, rfl⟩
      have hK := HK.out
      rw [List.drop_eq_getElem_cons hkl, he] at hK
      have hb := HBD.out k hkl
      rw [he] at a1 a2 a3 hb
      obtain ⟨b1, b2, b3, b4, b5, b6⟩ := hb
      simp only at b1 b2 b3 b4 b5 b6
      by_cases hin : b - f ≥ 0 ∧ b - f < n
      · obtain ⟨t1, t2⟩ := hin
        have HR2 : Hid (s + (b - f) = R) := Lib.hid (by unfold scR at hK; rwa [if_pos ⟨t1, t2⟩] at hK)
        clear hK he
        go_wp2_with fail
        go_ret
        exact ⟨ret_int HR2.out, HE.out⟩
      · have HR2 : Hid (scR (l.drop (k + 1)) b = R) := Lib.hid (by unfold scR at hK; rwa [if_neg hin] at hK)
        clear hK he
        by_cases t1 : b - f ≥ 0
        · have t2 : ¬ b - f < n := by omega
          clear hin
          go_wp2_with fail
          go_roundg (gk - 1)
          case measure => omega
          case rel => exact ⟨k + 1, by omega, by go_num, by omega, HR2, rfl⟩
        · clear hin
          go_wp2_with fail
          go_roundg (gk - 1)
          case measure => omega
          case rel => exact ⟨k + 1, by omega, by go_num, by omega, HR2, rfl⟩
    · have hk' : k = 7 := by omega
      subst hk'
      have hK := HK.out
      have HK2 : Hid (b = R) := Lib.hid (by rwa [List.drop_eq_nil_of_le (by omega)] at hK)
      clear hK
      go_wp2_with fail
      go_ret
      exact ⟨ret_int HK2.out, HE.out⟩
def cells7 (l : List (Int × Int × Int)) : Array Value := (l.flatMap fun p => [.int .i64 p.1, .int .i64 p.2.1, .int .i64 p.2.2]).toArray
def runV (l : List (Int × Int × Int)) : Value := .agg (cells7 l)
theorem runs_5 (b : Nat) (hb : b < 256) (w : World) : Calls Tryd.prog 22 #[runV r5, .int .u8 (b : Int)] w fun e w' => RetI (sc5 b) w e w' := by
  rw [← scR_5 b hb]
  refine run_any r5 (cells7 r5) (by decide) ?_ ?_ b (by omega) (by omega) w
  · intro i h
    have h7 : i < 7 := by simpa [r5] using h
    have : ∀ i, (h : i < r5.length) → i < 7 → cells7 r5 = cells7 r5 := fun _ _ _ => rfl
    rcases (by omega : i = 0 ∨ i = 1 ∨ i = 2 ∨ i = 3 ∨ i = 4 ∨ i = 5 ∨ i = 6) with rfl | rfl | rfl | rfl | rfl | rfl | rfl <;> exact ⟨rfl, rfl, rfl⟩
  · decide
theorem runs_15 (b : Nat) (hb : b < 256) (w : World) : Calls Tryd.prog 22 #[runV r15, .int .u8 (b : Int)] w fun e w' => RetI (sc15 b) w e w' := by
  rw [← scR_15 b hb]
  refine run_any r15 (cells7 r15) (by decide) ?_ ?_ b (by omega) (by omega) w
  · intro i h
    have h7 : i < 7 := by simpa [r15] using h
    rcases (by omega : i = 0 ∨ i = 1 ∨ i = 2 ∨ i = 3 ∨ i = 4 ∨ i = 5 ∨ i = 6) with rfl | rfl | rfl | rfl | rfl | rfl | rfl <;> exact ⟨rfl, rfl, rfl⟩
  · decide
theorem high_any (w : World) : Calls Tryd.prog 31 #[] w fun e w' => e = .returned (.slice (some ⟨w.heap.size, 0, none⟩) 32 32) ∧ Blk w' w.heap.size ints32 3 ∧ Below w.heap.size w w' := by
  go_enter Tryd.func31, Tryd.ntmps31
  go_wp2_with fail
  go_ret
  exact ⟨rfl, Blk.new _ _ _, (Below.refl _ _).alloc (Nat.le_refl _) _⟩
theorem iso5_any (b : Int) (n : Nat) (hn : b = n) (hb : n < 256) (w : World) : Calls Tryd.prog 32 #[.int .i64 b] w fun e w' => e = .returned (.int .i64 (sc5 n)) ∧ w = w' := by
  have HN := Lib.hid hn
  have h0 : 0 ≤ b := by omega
  have h1 : b < 256 := by omega
  by_cases c1 : b < 161
  · have HR : Hid (b = sc5 n) := Lib.hid (by unfold sc5; rw [if_pos (by omega)]; omega)
    clear hn
    go_enter Tryd.func32, Tryd.ntmps32
    go_wp2_with fail
    go_ret
    exact ⟨ret_int HR.out, rfl⟩
  by_cases c2 : b = 173
  · have HR : Hid (b = sc5 n) := Lib.hid (by unfold sc5; rw [if_pos (by omega)]; omega)
    subst c2
    clear hn
    go_enter Tryd.func32, Tryd.ntmps32
    go_wp2_with fail
    go_ret
    exact ⟨ret_int HR.out, rfl⟩
  by_cases c3 : b = 240
  · have HR : Hid (8470 = sc5 n) := Lib.hid (by unfold sc5; rw [if_neg (by omega), if_pos (by omega)])
    subst c3
    clear hn
    go_enter Tryd.func32, Tryd.ntmps32
    go_wp2_with fail
    go_ret
    exact ⟨ret_int HR.out, rfl⟩
  by_cases c4 : b = 253
  · have HR : Hid (167 = sc5 n) := Lib.hid (by unfold sc5; rw [if_neg (by omega), if_neg (by omega), if_pos (by omega)])
    subst c4
    clear hn
    go_enter Tryd.func32, Tryd.ntmps32
    go_wp2_with fail
    go_ret
    exact ⟨ret_int HR.out, rfl⟩
  have HR : Hid (b - 160 + 1024 = sc5 n) := Lib.hid (by unfold sc5; rw [if_neg (by omega), if_neg (by omega), if_neg (by omega)]; omega)
  have d2 : (b == 173) = false := by simp; omega
  have d3 : (b == 240) = false := by simp; omega
  have d4 : (b == 253) = false := by simp; omega
  clear hn
  go_enter Tryd.func32, Tryd.ntmps32
  go_wp2_with fail
  go_ret
  exact ⟨ret_int HR.out, rfl⟩
theorem iso15_any (b : Int) (n : Nat) (hn : b = n) (hb : n < 256) (w : World) : Calls Tryd.prog 33 #[.int .i64 b] w fun e w' => e = .returned (.int .i64 (sc15 n)) ∧ w = w' := by
  have HN := Lib.hid hn
  have h0 : 0 ≤ b := by omega
  have h1 : b < 256 := by omega
  by_cases c0 : b = 164
  · have HR : Hid (8364 = sc15 n) := Lib.hid (by unfold sc15; rw [if_pos (by omega)])
    subst c0
    clear hn
    go_enter Tryd.func33, Tryd.ntmps33
    go_wp2_with fail
    go_ret
    exact ⟨ret_int HR.out, rfl⟩
  by_cases c1 : b = 166
  · have HR : Hid (352 = sc15 n) := Lib.hid (by unfold sc15; rw [if_neg (by omega), if_pos (by omega)])
    subst c1
    clear hn
    go_enter Tryd.func33, Tryd.ntmps33
    go_wp2_with fail
    go_ret
    exact ⟨ret_int HR.out, rfl⟩
  by_cases c2 : b = 168
  · have HR : Hid (353 = sc15 n) := Lib.hid (by unfold sc15; rw [if_neg (by omega), if_neg (by omega), if_pos (by omega)])
    subst c2
    clear hn
    go_enter Tryd.func33, Tryd.ntmps33
    go_wp2_with fail
    go_ret
    exact ⟨ret_int HR.out, rfl⟩
  by_cases c3 : b = 180
  · have HR : Hid (381 = sc15 n) := Lib.hid (by unfold sc15; rw [if_neg (by omega), if_neg (by omega), if_neg (by omega), if_pos (by omega)])
    subst c3
    clear hn
    go_enter Tryd.func33, Tryd.ntmps33
    go_wp2_with fail
    go_ret
    exact ⟨ret_int HR.out, rfl⟩
  by_cases c4 : b = 184
  · have HR : Hid (382 = sc15 n) := Lib.hid (by unfold sc15; rw [if_neg (by omega), if_neg (by omega), if_neg (by omega), if_neg (by omega), if_pos (by omega)])
    subst c4
    clear hn
    go_enter Tryd.func33, Tryd.ntmps33
    go_wp2_with fail
    go_ret
    exact ⟨ret_int HR.out, rfl⟩
  by_cases c5 : b = 188
  · have HR : Hid (338 = sc15 n) := Lib.hid (by unfold sc15; rw [if_neg (by omega), if_neg (by omega), if_neg (by omega), if_neg (by omega), if_neg (by omega), if_pos (by omega)])
    subst c5
    clear hn
    go_enter Tryd.func33, Tryd.ntmps33
    go_wp2_with fail
    go_ret
    exact ⟨ret_int HR.out, rfl⟩
  by_cases c6 : b = 189
  · have HR : Hid (339 = sc15 n) := Lib.hid (by unfold sc15; rw [if_neg (by omega), if_neg (by omega), if_neg (by omega), if_neg (by omega), if_neg (by omega), if_neg (by omega), if_pos (by omega)])
    subst c6
    clear hn
    go_enter Tryd.func33, Tryd.ntmps33
    go_wp2_with fail
    go_ret
    exact ⟨ret_int HR.out, rfl⟩
  by_cases c7 : b = 190
  · have HR : Hid (376 = sc15 n) := Lib.hid (by unfold sc15; rw [if_neg (by omega), if_neg (by omega), if_neg (by omega), if_neg (by omega), if_neg (by omega), if_neg (by omega), if_neg (by omega), if_pos (by omega)])
    subst c7
    clear hn
    go_enter Tryd.func33, Tryd.ntmps33
    go_wp2_with fail
    go_ret
    exact ⟨ret_int HR.out, rfl⟩
  have HR : Hid (b = sc15 n) := Lib.hid (by unfold sc15; rw [if_neg (by omega), if_neg (by omega), if_neg (by omega), if_neg (by omega), if_neg (by omega), if_neg (by omega), if_neg (by omega), if_neg (by omega)]; omega)
  have d0 : (b == 164) = false := by simp; omega
  have d1 : (b == 166) = false := by simp; omega
  have d2 : (b == 168) = false := by simp; omega
  have d3 : (b == 180) = false := by simp; omega
  have d4 : (b == 184) = false := by simp; omega
  have d5 : (b == 188) = false := by simp; omega
  have d6 : (b == 189) = false := by simp; omega
  have d7 : (b == 190) = false := by simp; omega
  clear hn
  go_enter Tryd.func33, Tryd.ntmps33
  go_wp2_with fail
  go_ret
  exact ⟨ret_int HR.out, rfl⟩
def RetS (e : Int) (b : Nat) (w : World) (x : Ending) (w' : World) : Prop := x = .returned (.tuple #[.int .i64 (scE e b), .bool (isE e)]) ∧ Below w.heap.size w w'
theorem retS {e : Int} {b : Nat} {w w' : World} {n : Int} {t : Bool} (h : n = scE e b) (ht : t = isE e) (hb : Below w.heap.size w w') : RetS e b w (.returned (.tuple #[.int .i64 n, .bool t])) w' := ⟨by rw [h, ht], hb⟩
theorem scE_3 (b : Nat) : scE 3 b = scW b := by unfold scE; rw [if_pos rfl]
theorem scE_4 (b : Nat) : scE 4 b = sc5 b := by unfold scE; rw [if_neg (by omega), if_pos rfl]
theorem scE_5 (b : Nat) : scE 5 b = sc15 b := by unfold scE; rw [if_neg (by omega), if_neg (by omega), if_pos rfl]
theorem scE_no {e : Int} (h3 : ¬ e = 3) (h4 : ¬ e = 4) (h5 : ¬ e = 5) (b : Nat) : scE e b = 0 := by unfold scE; rw [if_neg h3, if_neg h4, if_neg h5]
theorem rscalar_any (e : Int) (x : Int) (b : Nat) (hx : x = b) (hb : b < 256) (w : World) :
    Calls Tryd.prog 25 #[.int .i8 e, .int .u8 x] w fun r w' => RetS e b w r w' := by
  have h0 : 0 ≤ x := by omega
  have h1 : x < 256 := by omega
  have HX := Lib.hid hx
  have HBB := Lib.hid hb
  have HE : Hid (Below w.heap.size w w) := Lib.hid (Below.refl _ _)
  by_cases c3 : e = 3
  · subst c3
    have HI : Hid (true = isE 3) := Lib.hid rfl
    by_cases hin : x ≥ 128 ∧ x < 160
    · obtain ⟨i0, i1⟩ := hin
      have H13 := high_any w
      obtain ⟨n, hn⟩ : ∃ n : Nat, n = b - 128 := ⟨_, rfl⟩
      have hw : IntKind.u8.wrap (x - 128) = n := by rw [IntKind.wrap_u8]; omega
      have hn32 : n < 32 := by omega
      have hat := w52_at n hn32
      have HR : Hid (w52.getD n 0 = scE 3 b) := Lib.hid (by rw [scE_3, hn]; exact scW_in (by omega) (by omega))
      obtain ⟨y, hy⟩ : ∃ y, w52.getD n 0 = y := ⟨_, rfl⟩
      rw [hy] at hat HR
      clear hx hb hn hy
      go_enter Tryd.func25, Tryd.ntmps25
      go_wp2_with (go_at_call 31; refine H13.mono ?_; rintro e w' ⟨rfl, hbk, hbl⟩; have hc := (hbk.cell n).trans hat; have HB := Lib.hid hbl; clear hbk hbl)
      go_ret2
      exact retS HR.out HI.out HB.out
    · have HR : Hid (x = scE 3 b) := Lib.hid (by rw [scE_3, hx]; exact scW_out (by omega))
      by_cases i0 : x ≥ 128
      · have i1 : ¬ x < 160 := by omega
        clear hx hb hin
        go_enter Tryd.func25, Tryd.ntmps25
        go_wp2_with fail
        go_ret2
        exact retS HR.out HI.out HE.out
      · clear hx hb hin
        go_enter Tryd.func25, Tryd.ntmps25
        go_wp2_with fail
        go_ret2
        exact retS HR.out HI.out HE.out
  by_cases c4 : e = 4
  · subst c4
    have HI : Hid (true = isE 4) := Lib.hid rfl
    have HC := Lib.hid (iso5_any x b hx hb w)
    have HR : Hid (sc5 b = scE 4 b) := Lib.hid (scE_4 b).symm
    clear hx hb c3
    go_enter Tryd.func25, Tryd.ntmps25
    go_wp2_with (go_at_call 32; refine HC.out.mono ?_; rintro e w' ⟨rfl, rfl⟩)
    go_ret2
    exact retS HR.out HI.out HE.out
  by_cases c5 : e = 5
  · subst c5
    have HI : Hid (true = isE 5) := Lib.hid rfl
    have HC := Lib.hid (iso15_any x b hx hb w)
    have HR : Hid (sc15 b = scE 5 b) := Lib.hid (scE_5 b).symm
    clear hx hb c3 c4
    go_enter Tryd.func25, Tryd.ntmps25
    go_wp2_with (go_at_call 33; refine HC.out.mono ?_; rintro e w' ⟨rfl, rfl⟩)
    go_ret2
    exact retS HR.out HI.out HE.out
  have HI : Hid (false = isE e) := Lib.hid (isE_no.2 ⟨c3, c4, c5⟩).symm
  have HR : Hid (0 = scE e b) := Lib.hid (scE_no c3 c4 c5 b).symm
  have d3 : (e == 3) = false := by simp; omega
  have d4 : (e == 4) = false := by simp; omega
  have d5 : (e == 5) = false := by simp; omega
  clear hx hb c3 c4 c5
  go_enter Tryd.func25, Tryd.ntmps25
  go_wp2_with fail
  go_ret2
  exact retS HR.out HI.out HE.out
end Go.Proofs.YtgahaehnlbkihaaDoor
