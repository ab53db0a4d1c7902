/- Joined: NXL, NXB. -/
import Derived.BigQuiet
import Derived.Deep.AppendLies
import Derived.Deep.DeepCutAuto
import Derived.Deep.LoopGhost
import Derived.Deep.Onto
import Derived.Deep.OwnRows
import Derived.Deep.QuietTactic
import Derived.Deep.RegionHeld3
import Derived.Deep.RegionLaw
import Derived.Deep.WholeRow
import Derived.Laws.AppendOwn
import Derived.Laws.BitsLemmas
import Derived.Laws.BytesArg
import Derived.Laws.DeepStrings4
import Derived.Laws.Externs
import Derived.Laws.IdiomStrings
import Derived.Laws.ResultCell
import Derived.Laws.Rows
import Derived.Laws.StructEq
import Derived.Laws.Tables
import Derived.Lib.AppendStr
import Derived.Lib.Bytealg
import Derived.Lib.Hide
import Derived.Lib.SlTrimSet
import Derived.LoopIn
import Derived.LoopN
import Derived.LoopNIn
import Derived.Maps.AppendAt
import Derived.Maps.Own
import Derived.Maps.OwnSet
import Derived.OpenShut
import Derived.Outline
import Derived.OwnWalk
import Derived.OwnWalkIn
import Derived.ProofKit
import Derived.RangeFuncBound
import Derived.RangeFuncBox
import Derived.RangeFuncCalls
import Derived.RangeFuncLeaves
import Derived.RangeFuncNested
import Derived.RangeFuncWrites
import Derived.Shelf.Abstract
import Derived.Shelf.LaysM
import Derived.Shelf.RegionOpen
import Derived.Shelf.Small.Wraps
import Derived.Shelf.Strings.Cut
import Derived.Shelf.Strings.Shaped
import Derived.Shelf.Strings.SlTrimAscii
import Derived.StillTailTactics
import Derived.TacticsInMore
import Derived.Test.YtppabkllconkjaaGreatDoorProg
import Derived.Test.YtppabkllconkjaaGreatDoorRows
import Derived.WalkKit
import Derived.WalkMore
import Derived.Test.YtppabkllconkjaaGreatDoorK01
import Derived.Test.YtppabkllconkjaaGreatDoorK03
import Derived.Test.YtppabkllconkjaaGreatDoorK05
import Derived.Test.YtppabkllconkjaaGreatDoorK07
import Derived.Test.YtppabkllconkjaaGreatDoorK09
import Derived.Test.YtppabkllconkjaaGreatDoorK10
import Derived.Test.YtppabkllconkjaaGreatDoorK11
import Derived.Test.YtppabkllconkjaaGreatDoorK12
import Derived.Test.YtppabkllconkjaaGreatDoorK14
import Derived.Test.YtppabkllconkjaaGreatDoorK15
import Derived.Test.YtppabkllconkjaaGreatDoorK16
import Derived.Test.YtppabkllconkjaaGreatDoorK18
import Derived.Test.YtppabkllconkjaaGreatDoorK20
import Derived.Test.YtppabkllconkjaaGreatDoorK25
import Derived.Test.YtppabkllconkjaaGreatDoorK26
/- What SniffBack wants of its texts. -/
namespace Go.Proofs.YtppabkllconkjaaGreatDoor.Snf
open Go.RowKit
set_option linter.unusedVariables false
set_option linter.unusedSimpArgs false
set_option maxRecDepth 100000
set_option maxRecDepth 100000
open Lab (str str_size str_list str_eta str_inj u8v info5 info_parts)
theorem scl_few (n : Nat) : ∀ l : List UInt8, l.length ≤ n → (U.scl l).length ≤ l.length := by
  induction n with
  | zero =>
    intro l h
    rw [List.eq_nil_of_length_eq_zero (Nat.le_zero.1 h)]
    simp [U.scl_nil]
  | succ n ih =>
    intro l h
    by_cases hne : l = []
    · subst hne; simp [U.scl_nil]
    have h1 := U.drop_lt hne
    have h2 := ih _ (by omega : (l.drop (U.dec l).2).length ≤ n)
    rw [U.scl_cons hne, List.length_cons]
    omega
theorem dec_few (e : Int) (b : List UInt8) : (decF e b).1.length ≤ 4 * b.length := by
  unfold decF
  split
  · unfold U.loose
    refine Nat.le_trans (U.encs_len _) ?_
    rw [List.length_map]
    have := scl_few b.length b (Nat.le_refl _)
    omega
  · split
    · unfold U.t16
      refine Nat.le_trans (U.encs_len _) ?_
      have := U.t16_few (decide (e = 2)) b.length b (Nat.le_refl _)
      omega
    · split
      · refine Nat.le_trans (U.encs_len _) ?_
        rw [List.length_map]
        omega
      · simp
theorem txt_short (k b : List UInt8) : (txtF k b).1.length ≤ 16384 := by
  unfold txtF
  split
  · simp
  · rename_i h
    refine Nat.le_trans (dec_few _ _) ?_
    rw [List.length_drop]
    omega
theorem two_rows {w3 w4 : World} {N M : Array Value} {t : TypeId} (hb : Below ((w3.alloc (.cells N t)).alloc (.cells M t)).heap.size ((w3.alloc (.cells N t)).alloc (.cells M t)) w4) :
    (∀ i v, N[i]? = some v → w4.cell? ⟨w3.heap.size, i, none⟩ = some v) ∧ (∀ i v, M[i]? = some v → w4.cell? ⟨w3.heap.size + 1, i, none⟩ = some v) ∧ Below w3.heap.size w3 w4 ∧ w3.heap.size + 2 ≤ w4.heap.size := by
  have hz : ((w3.alloc (.cells N t)).alloc (.cells M t)).heap.size = w3.heap.size + 2 := by simp
  refine ⟨fun i v h => ?_, fun i v h => ?_, ?_, ?_⟩
  · rw [hb.cell (p := ⟨w3.heap.size, i, none⟩) (by rw [hz]; show w3.heap.size < _; omega), World.cell?_alloc_past _ _ _ (by simp), World.cell?_alloc_at _ _ _ _ rfl]
    exact h
  · rw [hb.cell (p := ⟨w3.heap.size + 1, i, none⟩) (by rw [hz]; show w3.heap.size + 1 < _; omega), World.cell?_alloc_at _ _ _ _ (by simp)]
    exact h
  · exact below_call (((Below.refl _ _).alloc (Nat.le_refl _) _).alloc (by simp) _) hb
  · have := hb.size
    rw [hz] at this
    exact this
/-- No mark at the front. -/
theorem mrk_none {b : List UInt8} (h : ∀ j, j < 3 → ¬ mkB j <+: b) : Dec.mrk b = none := by
  have h0 : ¬ [239, 187, 191] <+: b := h 0 (by omega)
  have h1 : ¬ [255, 254] <+: b := h 1 (by omega)
  have h2 : ¬ [254, 255] <+: b := h 2 (by omega)
  unfold Dec.mrk
  rw [if_neg (by rw [List.isPrefixOf_iff_prefix]; exact h0), if_neg (by rw [List.isPrefixOf_iff_prefix]; exact h1), if_neg (by rw [List.isPrefixOf_iff_prefix]; exact h2)]
theorem mkB_len (j : Nat) : (mkB j).length ≤ 3 := by unfold mkB; split <;> (try split) <;> simp
/-- A Content-Type with its charset ahead. -/
def kApp : List UInt8 := [97, 112, 112, 108, 105, 99, 97, 116, 105, 111, 110, 47, 114, 115, 115, 43, 120, 109, 108, 59, 99, 104, 97, 114, 115, 101, 116, 61]
theorem kApp_b : (⟨#[97, 112, 112, 108, 105, 99, 97, 116, 105, 111, 110, 47, 114, 115, 115, 43, 120, 109, 108, 59, 99, 104, 97, 114, 115, 101, 116, 61]⟩ : ByteArray) = str kApp := rfl
theorem kE_app {e : Nat} (he : e < 6) : kApp ++ nmE e = kE e := by
  rcases (by omega : e = 0 ∨ e = 1 ∨ e = 2 ∨ e = 3 ∨ e = 4 ∨ e = 5) with rfl | rfl | rfl | rfl | rfl | rfl <;> rfl
theorem kE_len {e : Nat} (he : e < 6) : (kE e).length ≤ 50 := by
  rcases (by omega : e = 0 ∨ e = 1 ∨ e = 2 ∨ e = 3 ∨ e = 4 ∨ e = 5) with rfl | rfl | rfl | rfl | rfl | rfl <;> decide
theorem kTx_b : (⟨#[116, 101, 120, 116, 47, 120, 109, 108]⟩ : ByteArray) = str kTx := rfl
theorem kL2_b : (⟨#[116, 101, 120, 116, 47, 120, 109, 108, 59, 99, 104, 97, 114, 115, 101, 116, 61, 108, 97, 116, 105, 110, 49]⟩ : ByteArray) = str kL2 := rfl
theorem names_at : ∀ e, e < 6 → [(Value.string ⟨#[117, 116, 102, 45, 56]⟩), .string ⟨#[117, 116, 102, 45, 49, 54, 108, 101]⟩, .string ⟨#[117, 116, 102, 45, 49, 54, 98, 101]⟩, .string ⟨#[119, 105, 110, 100, 111, 119, 115, 45, 49, 50, 53, 50]⟩, .string ⟨#[105, 115, 111, 45, 56, 56, 53, 57, 45, 53]⟩, .string ⟨#[105, 115, 111, 45, 56, 56, 53, 57, 45, 49, 53]⟩][e]? = some (.string (str (nmE e)))
  | 0, _ => rfl
  | 1, _ => rfl
  | 2, _ => rfl
  | 3, _ => rfl
  | 4, _ => rfl
  | 5, _ => rfl
  | e + 6, h => by omega
theorem marks_at : ∀ e, e < 3 → [(Value.string ⟨#[239, 187, 191]⟩), .string ⟨#[255, 254]⟩, .string ⟨#[254, 255]⟩][e]? = some (.string (str (mkB e)))
  | 0, _ => rfl
  | 1, _ => rfl
  | 2, _ => rfl
  | e + 3, h => by omega
end Go.Proofs.YtppabkllconkjaaGreatDoor.Snf
/- The walk of SniffBack. -/
namespace Go.Proofs.YtppabkllconkjaaGreatDoor.Snf
open Go.RowKit
set_option linter.unusedVariables false
set_option linter.unusedSimpArgs false
set_option maxRecDepth 100000
set_option maxRecDepth 100000
open Lab (str str_size str_list str_eta str_inj u8v info5 info_parts)
set_option maxHeartbeats 4000000 in
theorem back_walk (x : Int) (hwf : (Lit.int .i8 x).wf = true) (t r : List UInt8) (w : World) (hG : G8 w) : Calls Tryz.prog 5 #[.int .i8 x, .string (str t), .string (str r)] w fun e w' => RetB true w e w' := by
  have HW : Hid (∀ w, G8 w → Calls Tryz.prog 7 #[] w fun e w' => RetB true w e w') := Lib.hid wakes_any
  unfold RetB at HW ⊢
  have HMX := Lib.hid hG
  clear hG
  have hszt := str_size t
  have hszr := str_size r
  by_cases hbt : 900 < t.length
  · obtain ⟨S, hS⟩ : ∃ S, str t = S := ⟨_, rfl⟩
    obtain ⟨R, hR⟩ : ∃ S, str r = S := ⟨_, rfl⟩
    rw [hS] at hszt ⊢
    rw [hR]
    have d0 : decide ((900 : Int) < (S.size : Int)) = true := by simp; omega
    clear hS hR hszt hszr hbt
    go_enter Tryz.func5, Tryz.ntmps5
    go_wp2_with (go_at_call 7; refine (HW.out _ HMX.out).mono ?_; rintro _ w1 ⟨rfl, hb1⟩; replace HMX := Lib.hid (HMX.out.next hb1); clear HW)
    go_ret
    exact ⟨rfl, hb1⟩
  by_cases hbr : 3000 < r.length
  · obtain ⟨S, hS⟩ : ∃ S, str t = S := ⟨_, rfl⟩
    obtain ⟨R, hR⟩ : ∃ S, str r = S := ⟨_, rfl⟩
    rw [hS] at hszt ⊢
    rw [hR] at hszr ⊢
    have d0 : decide ((900 : Int) < (S.size : Int)) = false := by simp; omega
    have d1 : decide ((3000 : Int) < (R.size : Int)) = true := by simp; omega
    clear hS hR hszt hszr hbt hbr
    go_enter Tryz.func5, Tryz.ntmps5
    go_wp2_with (go_at_call 7; refine (HW.out _ HMX.out).mono ?_; rintro _ w1 ⟨rfl, hb1⟩; replace HMX := Lib.hid (HMX.out.next hb1); clear HW)
    go_ret
    exact ⟨rfl, hb1⟩
  have hR := txt_right kTx_xml (by rw [kTx_chs]) (show r.length ≤ 4096 by omega)
  have hRs := txt_short kTx r
  obtain ⟨X, hX⟩ : ∃ X, txtF kTx r = X := ⟨_, rfl⟩
  have HX1 : Hid (∀ w, G8 w → Calls Tryz.prog 10 #[.string ⟨#[116, 101, 120, 116, 47, 120, 109, 108]⟩, .string (str r)] w fun e w' => ∃ u, e = .returned (.tuple #[.string (str X.1), .int .i8 X.2.1, u, .int .i64 X.2.2.2]) ∧ Rsns w' u X.2.2.1 ∧ Below w.heap.size w w') := Lib.hid fun w g => by
    rw [kTx_b]
    exact (ptext_any kTx r w g (by decide) (by omega)).mono fun _ _ => tx_of hX
  rw [hX] at hR hRs
  clear hX
  obtain ⟨X1, X2, X3, X4⟩ := X
  obtain ⟨h4, hok, h3⟩ := hR
  dsimp only at h4 hok h3 hRs HX1
  subst h4
  have HV : Hid (∀ w, Calls Tryz.prog 19 #[.string (str X1)] w fun e w' => e = .returned (.bool true) ∧ Below w.heap.size w w') := Lib.hid fun w => by
    have := U.rvalid_any (str X1) w (by rw [str_size]; omega)
    unfold U.RetB at this
    rw [str_list, hok] at this
    exact this
  obtain ⟨N3, hN3⟩ : ∃ n, X3.length = n := ⟨_, rfl⟩
  rw [hN3] at h3
  have hx3 : decide ((2 : Int) < (N3 : Int)) = false := by simp; omega
  have HX2 : Hid (∀ w, G8 w → Calls Tryz.prog 10 #[.string ⟨#[116, 101, 120, 116, 47, 120, 109, 108]⟩, .string (str r)] w fun e w' => ∃ p cap, e = .returned (.tuple #[.string (str X1), .int .i8 X2, .slice p N3 cap, .int .i64 0]) ∧ Below w.heap.size w w') := Lib.hid fun w g => (HX1.out w g).mono fun _ _ h => by
    obtain ⟨u, h1, h2, h5⟩ := h
    obtain ⟨p, cap, rfl⟩ := h2.form
    rw [hN3] at h1
    exact ⟨p, cap, h1, h5⟩
  clear HX1 hok hN3 h3 hRs
  obtain ⟨Y, hY⟩ : ∃ Y, str X1 = Y := ⟨_, rfl⟩
  rw [hY] at HX2 HV
  clear hY
  have d0 : decide ((900 : Int) < ((str t).size : Int)) = false := by simp; omega
  have d1 : decide ((3000 : Int) < ((str r).size : Int)) = false := by simp; omega
  by_cases hx0 : x < 0
  · have d2 : decide (x < 0) = true := by simpa using hx0
    obtain ⟨S, hS⟩ : ∃ S, str t = S := ⟨_, rfl⟩
    obtain ⟨R, hR⟩ : ∃ S, str r = S := ⟨_, rfl⟩
    rw [hS] at d0 ⊢
    rw [hR] at HX2 d1 ⊢
    clear hS hR hszt hszr hbt hbr hwf hx0
    go_enter Tryz.func5, Tryz.ntmps5
    go_wp2_with (first
      | (go_at_call 10; refine (HX2.out _ HMX.out).mono ?_; rintro _ w2 ⟨p2, cap2, rfl, hb2⟩; replace HMX := Lib.hid (HMX.out.next hb2); clear HX2)
      | (go_at_call 19; refine (HV.out _).mono ?_; rintro _ w3 ⟨rfl, hb3⟩; replace HMX := Lib.hid (HMX.out.next hb3); have HB3 := Lib.hid (below_call hb2 hb3); clear HV hb2 hb3)
      | (go_at_call 7; refine (HW.out _ ((HMX.out.alloc _).alloc _)).mono ?_; rintro _ w1 ⟨rfl, hb1⟩; clear HW))
    go_ret
    exact ⟨rfl, below_call HB3.out (two_rows hb1).2.2.1⟩
  have d2 : decide (x < 0) = false := by simpa using hx0
  by_cases hx6 : 6 ≤ x
  · have d3 : decide (6 ≤ x) = true := by simpa using hx6
    obtain ⟨S, hS⟩ : ∃ S, str t = S := ⟨_, rfl⟩
    obtain ⟨R, hR⟩ : ∃ S, str r = S := ⟨_, rfl⟩
    rw [hS] at d0 ⊢
    rw [hR] at HX2 d1 ⊢
    clear hS hR hszt hszr hbt hbr hwf hx0 hx6
    go_enter Tryz.func5, Tryz.ntmps5
    go_wp2_with (first
      | (go_at_call 10; refine (HX2.out _ HMX.out).mono ?_; rintro _ w2 ⟨p2, cap2, rfl, hb2⟩; replace HMX := Lib.hid (HMX.out.next hb2); clear HX2)
      | (go_at_call 19; refine (HV.out _).mono ?_; rintro _ w3 ⟨rfl, hb3⟩; replace HMX := Lib.hid (HMX.out.next hb3); have HB3 := Lib.hid (below_call hb2 hb3); clear HV hb2 hb3)
      | (go_at_call 7; refine (HW.out _ ((HMX.out.alloc _).alloc _)).mono ?_; rintro _ w1 ⟨rfl, hb1⟩; clear HW))
    go_ret
    exact ⟨rfl, below_call HB3.out (two_rows hb1).2.2.1⟩
  have d3 : decide (6 ≤ x) = false := by simpa using hx6
  obtain ⟨e, rfl⟩ := Int.eq_ofNat_of_zero_le (show 0 ≤ x by omega)
  have he6 : e < 6 := by omega
  obtain ⟨C, hC⟩ : ∃ C, encdF (e : Int) t = C := ⟨_, rfl⟩
  obtain ⟨B, ok⟩ := C
  have HEC : Hid (∀ w, G8 w → Calls Tryz.prog 17 #[.int .i8 (e : Int), .string (str t)] w fun e w' => e = .returned (.tuple #[.string (str B), .bool ok]) ∧ Below w.heap.size w w') := Lib.hid fun w g => (pencode_any (e : Int) hwf t w g (by omega)).mono fun _ _ h => by unfold EcR at h; rw [hC] at h; exact h
  cases ok with
  | false =>
    obtain ⟨S, hS⟩ : ∃ S, str t = S := ⟨_, rfl⟩
    obtain ⟨R, hR⟩ : ∃ S, str r = S := ⟨_, rfl⟩
    obtain ⟨Z, hZ⟩ : ∃ S, str B = S := ⟨_, rfl⟩
    rw [hS] at d0 HEC ⊢
    rw [hR] at HX2 d1 ⊢
    rw [hZ] at HEC
    clear hS hR hZ hszt hszr hbt hbr hwf hx0 hx6 hC
    go_enter Tryz.func5, Tryz.ntmps5
    go_wp2_with (first
      | (go_at_call 10; refine (HX2.out _ HMX.out).mono ?_; rintro _ w2 ⟨p2, cap2, rfl, hb2⟩; replace HMX := Lib.hid (HMX.out.next hb2); clear HX2)
      | (go_at_call 19; refine (HV.out _).mono ?_; rintro _ w3 ⟨rfl, hb3⟩; replace HMX := Lib.hid (HMX.out.next hb3); have HB3 := Lib.hid (below_call hb2 hb3); clear HV hb2 hb3)
      | (go_at_call 17; refine (HEC.out _ ((HMX.out.alloc _).alloc _)).mono ?_; rintro _ w4 ⟨rfl, hb4⟩; have H2R := Lib.hid (two_rows hb4); replace HMX := Lib.hid (((HMX.out.alloc _).alloc _).next hb4); clear HEC hb4)
      | (go_at_call 7; refine (HW.out _ HMX.out).mono ?_; rintro _ w1 ⟨rfl, hb1⟩; clear HW))
    go_ret
    exact ⟨rfl, below_call (below_call HB3.out H2R.out.2.2.1) hb1⟩
  | true =>
    obtain ⟨hk1, hk2, hk3⟩ := kE_all he6
    have hkl := kE_len he6
    have hbl : B.length ≤ 3600 := by have := (dec_encd (e := (e : Int)) (by omega) hC).2; omega
    have HC := Lib.hid hC
    have HT : Hid (Hid (Dec.mrk B = none) → ∀ w, G8 w → Calls Tryz.prog 10 #[.string (⟨#[97, 112, 112, 108, 105, 99, 97, 116, 105, 111, 110, 47, 114, 115, 115, 43, 120, 109, 108, 59, 99, 104, 97, 114, 115, 101, 116, 61]⟩ ++ str (nmE e)), .string (str B)] w fun e' w' => ∃ p cap, e' = .returned (.tuple #[.string (str t), .int .i8 (e : Int), .slice p 0 cap, .int .i64 0]) ∧ Below w.heap.size w w') := Lib.hid fun hm w g => by
      rw [kApp_b, Med.str_app, kE_app he6]
      refine (ptext_any (kE e) B w g (by omega) (by omega)).mono fun _ _ h => ?_
      obtain ⟨u, h1, h2, h3⟩ := tx_of (txt_told (by omega) hk1 hk2 hk3 (by omega) HC.out hm.out) h
      obtain ⟨p, cap, rfl⟩ := h2.form
      exact ⟨p, cap, h1, h3⟩
    have HM : Hid (e < 3 → ∀ w, G8 w → Calls Tryz.prog 10 #[.string ⟨#[116, 101, 120, 116, 47, 120, 109, 108, 59, 99, 104, 97, 114, 115, 101, 116, 61, 108, 97, 116, 105, 110, 49]⟩, .string (str (mkB e) ++ str B)] w fun e' w' => ∃ p cap, e' = .returned (.tuple #[.string (str t), .int .i8 (e : Int), .slice p 0 cap, .int .i64 0]) ∧ Below w.heap.size w w') := Lib.hid fun he3 w g => by
      have h3 := mkB_len e
      rw [kL2_b, Med.str_app]
      refine (ptext_any kL2 (mkB e ++ B) w g (by decide) (by rw [List.length_append]; omega)).mono fun _ _ h => ?_
      obtain ⟨u, h1, h2, h3⟩ := tx_of (txt_mark he3 kL2_xml (by omega) HC.out) h
      obtain ⟨p, cap, rfl⟩ := h2.form
      exact ⟨p, cap, h1, h3⟩
    obtain ⟨S, hS⟩ : ∃ S, str t = S := ⟨_, rfl⟩
    obtain ⟨R, hR⟩ : ∃ S, str r = S := ⟨_, rfl⟩
    obtain ⟨Z, hZ⟩ : ∃ S, str B = S := ⟨_, rfl⟩
    have hzz : Z.size = B.length := by rw [← hZ, str_size]
    have HZ := Lib.hid hZ
    rw [hS] at d0 HEC HT HM ⊢
    rw [hR] at HX2 d1 ⊢
    rw [hZ] at HEC HT HM
    have hZ9 : Z.size ≤ 3600 := by omega
    clear hS hR hZ hszt hszr hbt hbr hwf hx0 hx6 hC HC hk1 hk2 hk3 hkl hbl hzz
    go_enter Tryz.func5, Tryz.ntmps5
    go_wp2_with (first
      | (go_at_call 10; refine (HX2.out _ HMX.out).mono ?_; rintro _ w2 ⟨p2, cap2, rfl, hb2⟩; replace HMX := Lib.hid (HMX.out.next hb2); clear HX2)
      | (go_at_call 19; refine (HV.out _).mono ?_; rintro _ w3 ⟨rfl, hb3⟩; replace HMX := Lib.hid (HMX.out.next hb3); have HB3 := Lib.hid (below_call hb2 hb3); clear HV hb2 hb3)
      | (go_at_call 17; refine (HEC.out _ ((HMX.out.alloc _).alloc _)).mono ?_; rintro _ w4 ⟨rfl, hb4⟩; have H2R := Lib.hid (two_rows hb4); replace HMX := Lib.hid (((HMX.out.alloc _).alloc _).next hb4); clear HEC hb4))
    go_loopg [15] 4 (fun g q wr => ∃ (k : Nat), k + g = 4 ∧ q = .int .i64 k ∧ k ≤ 3 ∧ Hid (∀ j, j < k → ¬ mkB j <+: B) ∧ Hid (Below w4.heap.size w4 wr))
    case atStart => exact ⟨0, by omega, rfl, by omega, Lib.hid (fun j h => by omega), Lib.hid (Below.refl _ _)⟩
    case round =>
      obtain ⟨k, hkg, rfl, hk7, HE, HB⟩ := hrel
      have HMX := Lib.hid (HMX.out.next HB.out)
      by_cases hlt : k < 3
      · have hk0 : (0 : Int) ≤ (k : Int) := by omega
        have hk3 : (k : Int) < 3 := by omega
        obtain ⟨M, hM⟩ : ∃ M, str (mkB k) = M := ⟨_, rfl⟩
        have hm3 : M.size ≤ 3 := by rw [← hM, str_size]; exact mkB_len k
        have x1 : wr.cell? ⟨w3.heap.size + 1, k, none⟩ = some (.string M) := by
          rw [HB.out.cell (p := ⟨w3.heap.size + 1, k, none⟩) (by have := H2R.out.2.2.2; show w3.heap.size + 1 < _; omega), ← hM]
          exact H2R.out.2.1 _ _ (by rw [List.getElem?_toArray]; exact marks_at k hlt)
        by_cases hsz : M.size ≤ Z.size
        · have d4 : decide ((M.size : Int) ≤ (Z.size : Int)) = true := by simp; omega
          have d4n : decide (M.size ≤ Z.size) = true := by simpa using hsz
          obtain ⟨T, hT⟩ : ∃ T, str (B.take M.size) = T := ⟨_, rfl⟩
          have hsl : ∀ w0 : World, (Instr.slice 9 (.string Z) none (some (.int .i64 (M.size : Int))) none).run Tryz.prog w0 = .ok (.string T) w0 := fun w0 => by
            rw [← hT]
            exact Dec.slice_to Z M.size hsz (by rw [← HZ.out, str_list]) rfl w0
          by_cases hp : mkB k <+: B
          · have heq : (T.toList == M.toList) = true := by
              have : T = M := by
                rw [← hT, ← hM, str_size]
                exact congrArg str (List.prefix_iff_eq_take.1 hp).symm
              rw [this]; simp
            clear hM hT hp
            go_wp2_with fail
            go_quiet (fail)
            go_wp2_with (go_at_call 7; refine (HW.out _ (HMX.out.drewN _)).mono ?_; rintro _ w1 ⟨rfl, hb1⟩; clear HW)
            try rw [Exit.noGoto_ret]
            go_ret
            exact ⟨rfl, below_call (below_call (below_call HB3.out H2R.out.2.2.1) (below_draws HB.out _)) hb1⟩
          · have heq : (T.toList == M.toList) = false := by
              rw [← hT, ← hM, Dec.toList_str, Dec.toList_str, str_size]
              simp only [beq_eq_false_iff_ne, ne_eq]
              intro h
              exact hp (List.prefix_iff_eq_take.2 h.symm)
            have HE2 : Hid (∀ j, j < k + 1 → ¬ mkB j <+: B) := Lib.hid fun j hj => by
              rcases (by omega : j < k ∨ j = k) with h | rfl
              · exact HE.out j h
              · exact hp
            clear hM hT hp
            go_wp2_with fail
            go_quiet (fail)
            go_wp2_with fail
            go_roundg (gk - 1)
            case measure => omega
            case rel => exact ⟨k + 1, by omega, by go_num, by omega, HE2, Lib.hid (below_draws HB.out _)⟩
        · have d4 : decide ((M.size : Int) ≤ (Z.size : Int)) = false := by simp; omega
          have d4n : decide (M.size ≤ Z.size) = false := by simpa using hsz
          have HE2 : Hid (∀ j, j < k + 1 → ¬ mkB j <+: B) := Lib.hid fun j hj => by
            rcases (by omega : j < k ∨ j = k) with h | rfl
            · exact HE.out j h
            · intro hp
              have h1 := hp.length_le
              have h2 : M.size = (mkB j).length := by rw [← hM, str_size]
              have h3 : Z.size = B.length := by rw [← HZ.out, str_size]
              omega
          clear hM
          go_wp2_with fail
          go_quiet (fail)
          go_wp2_with fail
          go_roundg (gk - 1)
          case measure => omega
          case rel => exact ⟨k + 1, by omega, by go_num, by omega, HE2, Lib.hid (below_draws HB.out _)⟩
      · have hk : k = 3 := by omega
        subst hk
        have HT2 := Lib.hid (HT.out (Lib.hid (mrk_none HE.out)))
        clear HT HE
        obtain ⟨K1, hK1⟩ : ∃ M, str (nmE e) = M := ⟨_, rfl⟩
        have x1 : wr.cell? ⟨w3.heap.size, e, none⟩ = some (.string K1) := by
          rw [HB.out.cell (p := ⟨w3.heap.size, e, none⟩) (by have := H2R.out.2.2.2; show w3.heap.size < _; omega), ← hK1]
          exact H2R.out.1 _ _ (by rw [List.getElem?_toArray]; exact names_at e he6)
        have hk1s : K1.size ≤ 20 := by
          rw [← hK1, str_size]
          rcases (by omega : e = 0 ∨ e = 1 ∨ e = 2 ∨ e = 3 ∨ e = 4 ∨ e = 5) with rfl | rfl | rfl | rfl | rfl | rfl <;> decide
        rw [hK1] at HT2
        clear hK1
        have he0 : (0 : Int) ≤ (e : Int) := by omega
        have he3 : (e : Int) < 6 := by omega
        by_cases hlt3 : e < 3
        · have d5 : decide ((2 : Int) < (e : Int)) = false := by simp; omega
          have d5n : decide (2 < e) = false := by simp; omega
          have HM2 := Lib.hid (HM.out hlt3)
          clear HM
          obtain ⟨K2, hK2⟩ : ∃ M, str (mkB e) = M := ⟨_, rfl⟩
          have hk2s : K2.size ≤ 3 := by rw [← hK2, str_size]; exact mkB_len e
          have X2 : Hid (wr.cell? ⟨w3.heap.size + 1, e, none⟩ = some (.string K2)) := Lib.hid (by
            rw [HB.out.cell (p := ⟨w3.heap.size + 1, e, none⟩) (by have := H2R.out.2.2.2; show w3.heap.size + 1 < _; omega), ← hK2]
            exact H2R.out.2.1 _ _ (by rw [List.getElem?_toArray]; exact marks_at e hlt3))
          rw [hK2] at HM2
          clear hK2
          have he4 : (e : Int) < 3 := by omega
          go_wp2_with (first
            | (go_at_call 10; refine (HT2.out _ HMX.out).mono ?_; rintro _ w5 ⟨p5, cap5, rfl, hb5⟩; replace HMX := Lib.hid (HMX.out.next hb5); have x2 := (hb5.cell (p := ⟨w3.heap.size + 1, e, none⟩) (by have := H2R.out.2.2.2; have := HB.out.size; show w3.heap.size + 1 < _; omega)).trans X2.out; clear HT2 X2)
            | (go_at_call 10; refine (HM2.out _ HMX.out).mono ?_; rintro _ w6 ⟨p6, cap6, rfl, hb6⟩; replace HMX := Lib.hid (HMX.out.next hb6); clear HM2)
            | (go_at_call 7; refine (HW.out _ HMX.out).mono ?_; rintro _ w1 ⟨rfl, hb1⟩; clear HW))
          go_ret
          exact ⟨rfl, below_call (below_call (below_call (below_call (below_call HB3.out H2R.out.2.2.1) HB.out) hb5) hb6) hb1⟩
        · have d5 : decide ((2 : Int) < (e : Int)) = true := by simp; omega
          have d5n : decide (2 < e) = true := by simp; omega
          clear HM
          go_wp2_with (first
            | (go_at_call 10; refine (HT2.out _ HMX.out).mono ?_; rintro _ w5 ⟨p5, cap5, rfl, hb5⟩; replace HMX := Lib.hid (HMX.out.next hb5); clear HT2)
            | (go_at_call 7; refine (HW.out _ HMX.out).mono ?_; rintro _ w1 ⟨rfl, hb1⟩; clear HW))
          go_ret
          exact ⟨rfl, below_call (below_call (below_call (below_call HB3.out H2R.out.2.2.1) HB.out) hb5) hb1⟩
end Go.Proofs.YtppabkllconkjaaGreatDoor.Snf
