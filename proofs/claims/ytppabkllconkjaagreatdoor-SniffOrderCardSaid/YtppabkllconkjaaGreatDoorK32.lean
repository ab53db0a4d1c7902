/- Joined: NXO. -/
import Derived.BigQuiet
import Derived.Deep.AppendLies
import Derived.Deep.DeepCutAuto
import Derived.Deep.LoopGhost
import Derived.Deep.Onto
import Derived.Deep.OwnRows
import Derived.Deep.QuietTactic
import Derived.Deep.RegionHeld3
import Derived.Deep.RegionLaw
import Derived.Deep.WholeRow
import Derived.Laws.AppendOwn
import Derived.Laws.BitsLemmas
import Derived.Laws.BytesArg
import Derived.Laws.DeepStrings4
import Derived.Laws.Externs
import Derived.Laws.IdiomStrings
import Derived.Laws.ResultCell
import Derived.Laws.Rows
import Derived.Laws.StructEq
import Derived.Laws.Tables
import Derived.Lib.AppendStr
import Derived.Lib.Bytealg
import Derived.Lib.Hide
import Derived.Lib.SlTrimSet
import Derived.LoopIn
import Derived.LoopN
import Derived.LoopNIn
import Derived.Maps.AppendAt
import Derived.Maps.Own
import Derived.Maps.OwnSet
import Derived.OpenShut
import Derived.Outline
import Derived.OwnWalk
import Derived.OwnWalkIn
import Derived.ProofKit
import Derived.RangeFuncBound
import Derived.RangeFuncBox
import Derived.RangeFuncCalls
import Derived.RangeFuncLeaves
import Derived.RangeFuncNested
import Derived.RangeFuncWrites
import Derived.Shelf.Abstract
import Derived.Shelf.LaysM
import Derived.Shelf.RegionOpen
import Derived.Shelf.Small.Wraps
import Derived.Shelf.Strings.Cut
import Derived.Shelf.Strings.Shaped
import Derived.Shelf.Strings.SlTrimAscii
import Derived.StillTailTactics
import Derived.TacticsInMore
import Derived.Test.YtppabkllconkjaaGreatDoorProg
import Derived.Test.YtppabkllconkjaaGreatDoorRows
import Derived.WalkKit
import Derived.WalkMore
import Derived.Test.YtppabkllconkjaaGreatDoorK01
import Derived.Test.YtppabkllconkjaaGreatDoorK03
import Derived.Test.YtppabkllconkjaaGreatDoorK05
import Derived.Test.YtppabkllconkjaaGreatDoorK07
import Derived.Test.YtppabkllconkjaaGreatDoorK09
import Derived.Test.YtppabkllconkjaaGreatDoorK11
import Derived.Test.YtppabkllconkjaaGreatDoorK12
import Derived.Test.YtppabkllconkjaaGreatDoorK14
import Derived.Test.YtppabkllconkjaaGreatDoorK15
import Derived.Test.YtppabkllconkjaaGreatDoorK18
import Derived.Test.YtppabkllconkjaaGreatDoorK20
import Derived.Test.YtppabkllconkjaaGreatDoorK25
import Derived.Test.YtppabkllconkjaaGreatDoorK26
/- The walk of SniffOrder. -/
namespace Go.Proofs.YtppabkllconkjaaGreatDoor.Snf
open Go.RowKit
set_option linter.unusedVariables false
set_option linter.unusedSimpArgs false
set_option maxRecDepth 100000
set_option maxRecDepth 100000
open Lab (str str_size str_list str_eta str_inj u8v info5 info_parts)
theorem en_two {k b : List UInt8} {w w' : World} {e : Ending} {x n : Int} {l : List Rsn} (hR : encF k b = (x, n, l)) (h : EnR k b w e w') : ∃ u, e = .returned (.tuple #[.int .i8 x, .int .i64 n, u]) ∧ Below w.heap.size w w' := by
  unfold EnR at h
  rw [hR] at h
  obtain ⟨u, h1, _, h3⟩ := h
  exact ⟨u, h1, h3⟩
theorem kCyr_b : (⟨#[116, 101, 120, 116, 47, 120, 109, 108, 59, 99, 104, 97, 114, 115, 101, 116, 61, 99, 121, 114, 105, 108, 108, 105, 99]⟩ : ByteArray) = str kCyr := rfl
theorem ff_b : (⟨#[255, 254]⟩ : ByteArray) = str [255, 254] := rfl
set_option maxHeartbeats 4000000 in
theorem order_walk (k a b : List UInt8) (w : World) (hG : G8 w) (hsum : a.length + b.length ≤ maxLen) : Calls Tryz.prog 6 #[.string (str k), .string (str a), .string (str b)] w fun e w' => RetB true w e w' := by
  have HW : Hid (∀ w, G8 w → Calls Tryz.prog 7 #[] w fun e w' => RetB true w e w') := Lib.hid wakes_any
  unfold RetB at HW ⊢
  have HMX := Lib.hid hG
  clear hG
  have hsk := str_size k
  have hsa := str_size a
  have hsb := str_size b
  unfold maxLen at hsum
  by_cases hbk : 900 < k.length
  · obtain ⟨S, hS⟩ : ∃ S, str k = S := ⟨_, rfl⟩
    obtain ⟨A, hA⟩ : ∃ S, str a = S := ⟨_, rfl⟩
    obtain ⟨B, hB⟩ : ∃ S, str b = S := ⟨_, rfl⟩
    rw [hS] at hsk ⊢
    rw [hA, hB]
    have d0 : decide ((900 : Int) < (S.size : Int)) = true := by simp; omega
    clear hS hA hB hsk hsa hsb hbk hsum
    go_enter Tryz.func6, Tryz.ntmps6
    go_wp2_with (go_at_call 7; refine (HW.out _ HMX.out).mono ?_; rintro _ w9 ⟨rfl, hb9⟩; clear HW)
    go_ret
    exact ⟨rfl, hb9⟩
  by_cases hbb : 3000 < a.length + b.length
  · obtain ⟨S, hS⟩ : ∃ S, str k = S := ⟨_, rfl⟩
    obtain ⟨A, hA⟩ : ∃ S, str a = S := ⟨_, rfl⟩
    obtain ⟨B, hB⟩ : ∃ S, str b = S := ⟨_, rfl⟩
    rw [hS] at hsk ⊢
    rw [hA] at hsa ⊢
    rw [hB] at hsb ⊢
    have d0 : decide ((900 : Int) < (S.size : Int)) = false := by simp; omega
    have d1 : decide ((3000 : Int) < (A.size : Int) + (B.size : Int)) = true := by simp; omega
    have d1w : (A.size : Int) + (B.size : Int) ≤ 9223372036854775807 := by omega
    clear hS hA hB hsk hsa hsb hbk hbb hsum
    go_enter Tryz.func6, Tryz.ntmps6
    go_wp2_with (go_at_call 7; refine (HW.out _ HMX.out).mono ?_; rintro _ w9 ⟨rfl, hb9⟩; clear HW)
    go_ret
    exact ⟨rfl, hb9⟩
  have H1 : Hid (∀ w, G8 w → Calls Tryz.prog 8 #[.string (str k), .string (⟨#[255, 254]⟩ ++ str a)] w fun e w' => ∃ u, e = .returned (.tuple #[.int .i8 1, .int .i64 2, u]) ∧ Below w.heap.size w w') := Lib.hid fun w g => by
    rw [ff_b, Med.str_app]
    exact (pencoding_any k ([255, 254] ++ a) w g (by omega) (by rw [List.length_append]; simp only [List.length_cons, List.length_nil]; omega)).mono fun _ _ => en_two (enc_mark k a)
  have H2 : Hid (∀ w, G8 w → Calls Tryz.prog 8 #[.string (str k), .string (⟨#[255, 254]⟩ ++ str b)] w fun e w' => ∃ u, e = .returned (.tuple #[.int .i8 1, .int .i64 2, u]) ∧ Below w.heap.size w w') := Lib.hid fun w g => by
    rw [ff_b, Med.str_app]
    exact (pencoding_any k ([255, 254] ++ b) w g (by omega) (by rw [List.length_append]; simp only [List.length_cons, List.length_nil]; omega)).mono fun _ _ => en_two (enc_mark k b)
  have hU := (enc_told kCyr_chs cyr_of a).2
  have hV := (enc_told kCyr_chs cyr_of b).1
  obtain ⟨U1, U2, U3, hUe⟩ : ∃ x n l, encF kCyr a = (x, n, l) := ⟨_, _, _, rfl⟩
  obtain ⟨V1, V2, V3, hVe⟩ : ∃ x n l, encF kCyr b = (x, n, l) := ⟨_, _, _, rfl⟩
  rw [hUe] at hU
  rw [hVe] at hV
  dsimp only at hU hV
  have H3 : Hid (∀ w, G8 w → Calls Tryz.prog 8 #[.string ⟨#[116, 101, 120, 116, 47, 120, 109, 108, 59, 99, 104, 97, 114, 115, 101, 116, 61, 99, 121, 114, 105, 108, 108, 105, 99]⟩, .string (str a)] w fun e w' => ∃ u, e = .returned (.tuple #[.int .i8 U1, .int .i64 U2, u]) ∧ Below w.heap.size w w') := Lib.hid fun w g => by
    rw [kCyr_b]
    exact (pencoding_any kCyr a w g (by decide) (by omega)).mono fun _ _ => en_two hUe
  have H4 : Hid (∀ w, G8 w → Calls Tryz.prog 8 #[.string ⟨#[116, 101, 120, 116, 47, 120, 109, 108, 59, 99, 104, 97, 114, 115, 101, 116, 61, 99, 121, 114, 105, 108, 108, 105, 99]⟩, .string (str b)] w fun e w' => ∃ u, e = .returned (.tuple #[.int .i8 V1, .int .i64 V2, u]) ∧ Below w.heap.size w w') := Lib.hid fun w g => by
    rw [kCyr_b]
    exact (pencoding_any kCyr b w g (by decide) (by omega)).mono fun _ _ => en_two hVe
  have hM := enc_media k b
  obtain ⟨X1, X2, R, hXe⟩ : ∃ x n l, encF k b = (x, n, l) := ⟨_, _, _, rfl⟩
  obtain ⟨V, hVx⟩ : ∃ V, xmlK k = V := ⟨_, rfl⟩
  have H5 : Hid (∀ w, G8 w → Calls Tryz.prog 8 #[.string (str k), .string (str b)] w fun e w' => ∃ u, e = .returned (.tuple #[.int .i8 X1, .int .i64 X2, u]) ∧ Rsns w' u R ∧ Below w.heap.size w w') := Lib.hid fun w g => (pencoding_any k b w g (by omega) (by omega)).mono fun _ _ => en_of hXe
  have HX : Hid (∀ w, Calls Tryz.prog 13 #[.string (str k)] w fun e w' => e = .returned (.bool V) ∧ Below w.heap.size w w') := Lib.hid fun w => (pxml_any k w (by omega)).mono fun _ _ h => by unfold XmR at h; rw [hVx] at h; exact h
  rw [hXe, hVx] at hM
  dsimp only at hM
  obtain ⟨S, hS⟩ : ∃ S, str k = S := ⟨_, rfl⟩
  obtain ⟨A, hA⟩ : ∃ S, str a = S := ⟨_, rfl⟩
  obtain ⟨B, hB⟩ : ∃ S, str b = S := ⟨_, rfl⟩
  rw [hS] at hsk H1 H2 H5 HX ⊢
  rw [hA] at hsa H1 H3 ⊢
  rw [hB] at hsb H2 H4 H5 ⊢
  have d0 : decide ((900 : Int) < (S.size : Int)) = false := by simp; omega
  have d1 : decide ((3000 : Int) < (A.size : Int) + (B.size : Int)) = false := by simp; omega
  have d1w : (A.size : Int) + (B.size : Int) ≤ 9223372036854775807 := by omega
  have ha3 : A.size ≤ 3000 := by omega
  have hb3 : B.size ≤ 3000 := by omega
  clear hS hA hB hsk hsa hsb hbk hbb hsum hUe hVe hXe hVx
  have hM2 : (R = [] ∧ V = true) ∨ (∃ i rs, R = (0, i) :: rs ∧ V = false) ∨ (∃ c i rs, R = (c, i) :: rs ∧ c ≠ 0 ∧ V = true) := by
    cases R with
    | nil => left; cases V <;> simp_all
    | cons r rs =>
      obtain ⟨c, i⟩ := r
      right
      by_cases hc : c = 0
      · subst hc; left; cases V <;> simp_all
      · right; cases V <;> simp_all
  clear hM
  rcases hM2 with ⟨rfl, rfl⟩ | ⟨i, rs, rfl, rfl⟩ | ⟨c, i, rs, rfl, hc, rfl⟩
  · have H6 : Hid (∀ w, G8 w → Calls Tryz.prog 8 #[.string S, .string B] w fun e w' => ∃ p cap, e = .returned (.tuple #[.int .i8 X1, .int .i64 X2, .slice p 0 cap]) ∧ Below w.heap.size w w') := Lib.hid fun w g => (H5.out w g).mono fun _ _ h => by
      obtain ⟨u, h1, h2, h3⟩ := h
      obtain ⟨p, cap, rfl⟩ := h2.form
      exact ⟨p, cap, h1, h3⟩
    clear H5
    by_cases hv : V2 = 0
    · subst hv
      have hv1 := hV rfl
      subst hv1
      clear hV
      by_cases hu : U1 = 4
      · subst hu
        clear hU
        go_enter Tryz.func6, Tryz.ntmps6
        go_wp2_with (first
          | (go_at_call 8; refine (H1.out _ HMX.out).mono ?_; rintro _ w1 ⟨u1, rfl, hb1⟩; replace HMX := Lib.hid (HMX.out.next hb1); have HB := Lib.hid hb1; clear H1 hb1)
          | (go_at_call 8; refine (H2.out _ HMX.out).mono ?_; rintro _ w2 ⟨u2, rfl, hb2⟩; replace HMX := Lib.hid (HMX.out.next hb2); replace HB := Lib.hid (below_call HB.out hb2); clear H2 hb2)
          | (go_at_call 8; refine (H3.out _ HMX.out).mono ?_; rintro _ w3 ⟨u3, rfl, hb3⟩; replace HMX := Lib.hid (HMX.out.next hb3); replace HB := Lib.hid (below_call HB.out hb3); clear H3 hb3)
          | (go_at_call 8; refine (H4.out _ HMX.out).mono ?_; rintro _ w4 ⟨u4, rfl, hb4⟩; replace HMX := Lib.hid (HMX.out.next hb4); replace HB := Lib.hid (below_call HB.out hb4); clear H4 hb4)
          | (go_at_call 8; refine (H6.out _ HMX.out).mono ?_; rintro _ w5 ⟨p5, cap5, rfl, hb5⟩; replace HMX := Lib.hid (HMX.out.next hb5); replace HB := Lib.hid (below_call HB.out hb5); clear H6 hb5)
          | (go_at_call 13; refine (HX.out _).mono ?_; rintro _ w6 ⟨rfl, hb6⟩; replace HMX := Lib.hid (HMX.out.next hb6); replace HB := Lib.hid (below_call HB.out hb6); clear HX hb6)
          | (go_at_call 7; refine (HW.out _ HMX.out).mono ?_; rintro _ w9 ⟨rfl, hb9⟩; clear HW))
        go_ret
        exact ⟨rfl, below_call HB.out hb9⟩
      · have u1 : (U1 != 4) = true := by simpa using hu
        have u2 : decide (U1 = 4) = false := by simpa using hu
        have u3 : decide (2 < U1) = false := by simp; omega
        clear hU hu
        go_enter Tryz.func6, Tryz.ntmps6
        go_wp2_with (first
          | (go_at_call 8; refine (H1.out _ HMX.out).mono ?_; rintro _ w1 ⟨u1, rfl, hb1⟩; replace HMX := Lib.hid (HMX.out.next hb1); have HB := Lib.hid hb1; clear H1 hb1)
          | (go_at_call 8; refine (H2.out _ HMX.out).mono ?_; rintro _ w2 ⟨u2, rfl, hb2⟩; replace HMX := Lib.hid (HMX.out.next hb2); replace HB := Lib.hid (below_call HB.out hb2); clear H2 hb2)
          | (go_at_call 8; refine (H3.out _ HMX.out).mono ?_; rintro _ w3 ⟨u3, rfl, hb3⟩; replace HMX := Lib.hid (HMX.out.next hb3); replace HB := Lib.hid (below_call HB.out hb3); clear H3 hb3)
          | (go_at_call 8; refine (H4.out _ HMX.out).mono ?_; rintro _ w4 ⟨u4, rfl, hb4⟩; replace HMX := Lib.hid (HMX.out.next hb4); replace HB := Lib.hid (below_call HB.out hb4); clear H4 hb4)
          | (go_at_call 8; refine (H6.out _ HMX.out).mono ?_; rintro _ w5 ⟨p5, cap5, rfl, hb5⟩; replace HMX := Lib.hid (HMX.out.next hb5); replace HB := Lib.hid (below_call HB.out hb5); clear H6 hb5)
          | (go_at_call 13; refine (HX.out _).mono ?_; rintro _ w6 ⟨rfl, hb6⟩; replace HMX := Lib.hid (HMX.out.next hb6); replace HB := Lib.hid (below_call HB.out hb6); clear HX hb6)
          | (go_at_call 7; refine (HW.out _ HMX.out).mono ?_; rintro _ w9 ⟨rfl, hb9⟩; clear HW))
        go_ret
        exact ⟨rfl, below_call HB.out hb9⟩
    · have v1 : (V2 == 0) = false := by simpa using hv
      have v2 : decide (V2 = 0) = false := by simpa using hv
      clear hV hv
      by_cases hu : U1 = 4
      · subst hu
        clear hU
        go_enter Tryz.func6, Tryz.ntmps6
        go_wp2_with (first
          | (go_at_call 8; refine (H1.out _ HMX.out).mono ?_; rintro _ w1 ⟨u1, rfl, hb1⟩; replace HMX := Lib.hid (HMX.out.next hb1); have HB := Lib.hid hb1; clear H1 hb1)
          | (go_at_call 8; refine (H2.out _ HMX.out).mono ?_; rintro _ w2 ⟨u2, rfl, hb2⟩; replace HMX := Lib.hid (HMX.out.next hb2); replace HB := Lib.hid (below_call HB.out hb2); clear H2 hb2)
          | (go_at_call 8; refine (H3.out _ HMX.out).mono ?_; rintro _ w3 ⟨u3, rfl, hb3⟩; replace HMX := Lib.hid (HMX.out.next hb3); replace HB := Lib.hid (below_call HB.out hb3); clear H3 hb3)
          | (go_at_call 8; refine (H4.out _ HMX.out).mono ?_; rintro _ w4 ⟨u4, rfl, hb4⟩; replace HMX := Lib.hid (HMX.out.next hb4); replace HB := Lib.hid (below_call HB.out hb4); clear H4 hb4)
          | (go_at_call 8; refine (H6.out _ HMX.out).mono ?_; rintro _ w5 ⟨p5, cap5, rfl, hb5⟩; replace HMX := Lib.hid (HMX.out.next hb5); replace HB := Lib.hid (below_call HB.out hb5); clear H6 hb5)
          | (go_at_call 13; refine (HX.out _).mono ?_; rintro _ w6 ⟨rfl, hb6⟩; replace HMX := Lib.hid (HMX.out.next hb6); replace HB := Lib.hid (below_call HB.out hb6); clear HX hb6)
          | (go_at_call 7; refine (HW.out _ HMX.out).mono ?_; rintro _ w9 ⟨rfl, hb9⟩; clear HW))
        go_ret
        exact ⟨rfl, below_call HB.out hb9⟩
      · have u1 : (U1 != 4) = true := by simpa using hu
        have u2 : decide (U1 = 4) = false := by simpa using hu
        have u3 : decide (2 < U1) = false := by simp; omega
        clear hU hu
        go_enter Tryz.func6, Tryz.ntmps6
        go_wp2_with (first
          | (go_at_call 8; refine (H1.out _ HMX.out).mono ?_; rintro _ w1 ⟨u1, rfl, hb1⟩; replace HMX := Lib.hid (HMX.out.next hb1); have HB := Lib.hid hb1; clear H1 hb1)
          | (go_at_call 8; refine (H2.out _ HMX.out).mono ?_; rintro _ w2 ⟨u2, rfl, hb2⟩; replace HMX := Lib.hid (HMX.out.next hb2); replace HB := Lib.hid (below_call HB.out hb2); clear H2 hb2)
          | (go_at_call 8; refine (H3.out _ HMX.out).mono ?_; rintro _ w3 ⟨u3, rfl, hb3⟩; replace HMX := Lib.hid (HMX.out.next hb3); replace HB := Lib.hid (below_call HB.out hb3); clear H3 hb3)
          | (go_at_call 8; refine (H4.out _ HMX.out).mono ?_; rintro _ w4 ⟨u4, rfl, hb4⟩; replace HMX := Lib.hid (HMX.out.next hb4); replace HB := Lib.hid (below_call HB.out hb4); clear H4 hb4)
          | (go_at_call 8; refine (H6.out _ HMX.out).mono ?_; rintro _ w5 ⟨p5, cap5, rfl, hb5⟩; replace HMX := Lib.hid (HMX.out.next hb5); replace HB := Lib.hid (below_call HB.out hb5); clear H6 hb5)
          | (go_at_call 13; refine (HX.out _).mono ?_; rintro _ w6 ⟨rfl, hb6⟩; replace HMX := Lib.hid (HMX.out.next hb6); replace HB := Lib.hid (below_call HB.out hb6); clear HX hb6)
          | (go_at_call 7; refine (HW.out _ HMX.out).mono ?_; rintro _ w9 ⟨rfl, hb9⟩; clear HW))
        go_ret
        exact ⟨rfl, below_call HB.out hb9⟩
  · have H6 : Hid (∀ w, G8 w → Calls Tryz.prog 8 #[.string S, .string B] w fun e w' => ∃ b o n cap, e = .returned (.tuple #[.int .i8 X1, .int .i64 X2, .slice (some ⟨b, o, none⟩) n cap]) ∧ 0 < n ∧ w'.cell? ⟨b, o, none⟩ = some (.int .i8 0) ∧ Below w.heap.size w w') := Lib.hid fun w g => (H5.out w g).mono fun _ _ h => by
      obtain ⟨u, h1, h2, h3⟩ := h
      obtain ⟨p, cap, rfl⟩ := h2.form
      obtain ⟨b, o, rfl, _, c1, c2⟩ := h2.at.2 0 (by simp)
      rw [Nat.zero_mul, Nat.add_zero] at c1 c2
      exact ⟨b, o, _, cap, h1, by simp, c1, h3⟩
    clear H5
    by_cases hv : V2 = 0
    · subst hv
      have hv1 := hV rfl
      subst hv1
      clear hV
      by_cases hu : U1 = 4
      · subst hu
        clear hU
        go_enter Tryz.func6, Tryz.ntmps6
        go_wp2_with (first
          | (go_at_call 8; refine (H1.out _ HMX.out).mono ?_; rintro _ w1 ⟨u1, rfl, hb1⟩; replace HMX := Lib.hid (HMX.out.next hb1); have HB := Lib.hid hb1; clear H1 hb1)
          | (go_at_call 8; refine (H2.out _ HMX.out).mono ?_; rintro _ w2 ⟨u2, rfl, hb2⟩; replace HMX := Lib.hid (HMX.out.next hb2); replace HB := Lib.hid (below_call HB.out hb2); clear H2 hb2)
          | (go_at_call 8; refine (H3.out _ HMX.out).mono ?_; rintro _ w3 ⟨u3, rfl, hb3⟩; replace HMX := Lib.hid (HMX.out.next hb3); replace HB := Lib.hid (below_call HB.out hb3); clear H3 hb3)
          | (go_at_call 8; refine (H4.out _ HMX.out).mono ?_; rintro _ w4 ⟨u4, rfl, hb4⟩; replace HMX := Lib.hid (HMX.out.next hb4); replace HB := Lib.hid (below_call HB.out hb4); clear H4 hb4)
          | (go_at_call 8; refine (H6.out _ HMX.out).mono ?_; rintro _ w5 ⟨b5, o5, n5, cap5, rfl, hn5, c5, hb5⟩; have hn6 : decide ((0 : Int) < (n5 : Int)) = true := (by simp; omega); have hn7 : (0 : Int) < (n5 : Int) := (by omega); replace HMX := Lib.hid (HMX.out.next hb5); replace HB := Lib.hid (below_call HB.out hb5); clear H6 hb5)
          | (go_at_call 13; refine (HX.out _).mono ?_; rintro _ w6 ⟨rfl, hb6⟩; replace HMX := Lib.hid (HMX.out.next hb6); replace HB := Lib.hid (below_call HB.out hb6); clear HX hb6)
          | (go_at_call 7; refine (HW.out _ HMX.out).mono ?_; rintro _ w9 ⟨rfl, hb9⟩; clear HW))
        go_ret
        exact ⟨rfl, below_call HB.out hb9⟩
      · have u1 : (U1 != 4) = true := by simpa using hu
        have u2 : decide (U1 = 4) = false := by simpa using hu
        have u3 : decide (2 < U1) = false := by simp; omega
        clear hU hu
        go_enter Tryz.func6, Tryz.ntmps6
        go_wp2_with (first
          | (go_at_call 8; refine (H1.out _ HMX.out).mono ?_; rintro _ w1 ⟨u1, rfl, hb1⟩; replace HMX := Lib.hid (HMX.out.next hb1); have HB := Lib.hid hb1; clear H1 hb1)
          | (go_at_call 8; refine (H2.out _ HMX.out).mono ?_; rintro _ w2 ⟨u2, rfl, hb2⟩; replace HMX := Lib.hid (HMX.out.next hb2); replace HB := Lib.hid (below_call HB.out hb2); clear H2 hb2)
          | (go_at_call 8; refine (H3.out _ HMX.out).mono ?_; rintro _ w3 ⟨u3, rfl, hb3⟩; replace HMX := Lib.hid (HMX.out.next hb3); replace HB := Lib.hid (below_call HB.out hb3); clear H3 hb3)
          | (go_at_call 8; refine (H4.out _ HMX.out).mono ?_; rintro _ w4 ⟨u4, rfl, hb4⟩; replace HMX := Lib.hid (HMX.out.next hb4); replace HB := Lib.hid (below_call HB.out hb4); clear H4 hb4)
          | (go_at_call 8; refine (H6.out _ HMX.out).mono ?_; rintro _ w5 ⟨b5, o5, n5, cap5, rfl, hn5, c5, hb5⟩; have hn6 : decide ((0 : Int) < (n5 : Int)) = true := (by simp; omega); have hn7 : (0 : Int) < (n5 : Int) := (by omega); replace HMX := Lib.hid (HMX.out.next hb5); replace HB := Lib.hid (below_call HB.out hb5); clear H6 hb5)
          | (go_at_call 13; refine (HX.out _).mono ?_; rintro _ w6 ⟨rfl, hb6⟩; replace HMX := Lib.hid (HMX.out.next hb6); replace HB := Lib.hid (below_call HB.out hb6); clear HX hb6)
          | (go_at_call 7; refine (HW.out _ HMX.out).mono ?_; rintro _ w9 ⟨rfl, hb9⟩; clear HW))
        go_ret
        exact ⟨rfl, below_call HB.out hb9⟩
    · have v1 : (V2 == 0) = false := by simpa using hv
      have v2 : decide (V2 = 0) = false := by simpa using hv
      clear hV hv
      by_cases hu : U1 = 4
      · subst hu
        clear hU
        go_enter Tryz.func6, Tryz.ntmps6
        go_wp2_with (first
          | (go_at_call 8; refine (H1.out _ HMX.out).mono ?_; rintro _ w1 ⟨u1, rfl, hb1⟩; replace HMX := Lib.hid (HMX.out.next hb1); have HB := Lib.hid hb1; clear H1 hb1)
          | (go_at_call 8; refine (H2.out _ HMX.out).mono ?_; rintro _ w2 ⟨u2, rfl, hb2⟩; replace HMX := Lib.hid (HMX.out.next hb2); replace HB := Lib.hid (below_call HB.out hb2); clear H2 hb2)
          | (go_at_call 8; refine (H3.out _ HMX.out).mono ?_; rintro _ w3 ⟨u3, rfl, hb3⟩; replace HMX := Lib.hid (HMX.out.next hb3); replace HB := Lib.hid (below_call HB.out hb3); clear H3 hb3)
          | (go_at_call 8; refine (H4.out _ HMX.out).mono ?_; rintro _ w4 ⟨u4, rfl, hb4⟩; replace HMX := Lib.hid (HMX.out.next hb4); replace HB := Lib.hid (below_call HB.out hb4); clear H4 hb4)
          | (go_at_call 8; refine (H6.out _ HMX.out).mono ?_; rintro _ w5 ⟨b5, o5, n5, cap5, rfl, hn5, c5, hb5⟩; have hn6 : decide ((0 : Int) < (n5 : Int)) = true := (by simp; omega); have hn7 : (0 : Int) < (n5 : Int) := (by omega); replace HMX := Lib.hid (HMX.out.next hb5); replace HB := Lib.hid (below_call HB.out hb5); clear H6 hb5)
          | (go_at_call 13; refine (HX.out _).mono ?_; rintro _ w6 ⟨rfl, hb6⟩; replace HMX := Lib.hid (HMX.out.next hb6); replace HB := Lib.hid (below_call HB.out hb6); clear HX hb6)
          | (go_at_call 7; refine (HW.out _ HMX.out).mono ?_; rintro _ w9 ⟨rfl, hb9⟩; clear HW))
        go_ret
        exact ⟨rfl, below_call HB.out hb9⟩
      · have u1 : (U1 != 4) = true := by simpa using hu
        have u2 : decide (U1 = 4) = false := by simpa using hu
        have u3 : decide (2 < U1) = false := by simp; omega
        clear hU hu
        go_enter Tryz.func6, Tryz.ntmps6
        go_wp2_with (first
          | (go_at_call 8; refine (H1.out _ HMX.out).mono ?_; rintro _ w1 ⟨u1, rfl, hb1⟩; replace HMX := Lib.hid (HMX.out.next hb1); have HB := Lib.hid hb1; clear H1 hb1)
          | (go_at_call 8; refine (H2.out _ HMX.out).mono ?_; rintro _ w2 ⟨u2, rfl, hb2⟩; replace HMX := Lib.hid (HMX.out.next hb2); replace HB := Lib.hid (below_call HB.out hb2); clear H2 hb2)
          | (go_at_call 8; refine (H3.out _ HMX.out).mono ?_; rintro _ w3 ⟨u3, rfl, hb3⟩; replace HMX := Lib.hid (HMX.out.next hb3); replace HB := Lib.hid (below_call HB.out hb3); clear H3 hb3)
          | (go_at_call 8; refine (H4.out _ HMX.out).mono ?_; rintro _ w4 ⟨u4, rfl, hb4⟩; replace HMX := Lib.hid (HMX.out.next hb4); replace HB := Lib.hid (below_call HB.out hb4); clear H4 hb4)
          | (go_at_call 8; refine (H6.out _ HMX.out).mono ?_; rintro _ w5 ⟨b5, o5, n5, cap5, rfl, hn5, c5, hb5⟩; have hn6 : decide ((0 : Int) < (n5 : Int)) = true := (by simp; omega); have hn7 : (0 : Int) < (n5 : Int) := (by omega); replace HMX := Lib.hid (HMX.out.next hb5); replace HB := Lib.hid (below_call HB.out hb5); clear H6 hb5)
          | (go_at_call 13; refine (HX.out _).mono ?_; rintro _ w6 ⟨rfl, hb6⟩; replace HMX := Lib.hid (HMX.out.next hb6); replace HB := Lib.hid (below_call HB.out hb6); clear HX hb6)
          | (go_at_call 7; refine (HW.out _ HMX.out).mono ?_; rintro _ w9 ⟨rfl, hb9⟩; clear HW))
        go_ret
        exact ⟨rfl, below_call HB.out hb9⟩
  · have hc1 : (c == 0) = false := by simpa using hc
    have hc2 : decide (c = 0) = false := by simpa using hc
    clear hc
    have H6 : Hid (∀ w, G8 w → Calls Tryz.prog 8 #[.string S, .string B] w fun e w' => ∃ b o n cap, e = .returned (.tuple #[.int .i8 X1, .int .i64 X2, .slice (some ⟨b, o, none⟩) n cap]) ∧ 0 < n ∧ w'.cell? ⟨b, o, none⟩ = some (.int .i8 c) ∧ Below w.heap.size w w') := Lib.hid fun w g => (H5.out w g).mono fun _ _ h => by
      obtain ⟨u, h1, h2, h3⟩ := h
      obtain ⟨p, cap, rfl⟩ := h2.form
      obtain ⟨b, o, rfl, _, c1, c2⟩ := h2.at.2 0 (by simp)
      rw [Nat.zero_mul, Nat.add_zero] at c1 c2
      exact ⟨b, o, _, cap, h1, by simp, c1, h3⟩
    clear H5
    by_cases hv : V2 = 0
    · subst hv
      have hv1 := hV rfl
      subst hv1
      clear hV
      by_cases hu : U1 = 4
      · subst hu
        clear hU
        go_enter Tryz.func6, Tryz.ntmps6
        go_wp2_with (first
          | (go_at_call 8; refine (H1.out _ HMX.out).mono ?_; rintro _ w1 ⟨u1, rfl, hb1⟩; replace HMX := Lib.hid (HMX.out.next hb1); have HB := Lib.hid hb1; clear H1 hb1)
          | (go_at_call 8; refine (H2.out _ HMX.out).mono ?_; rintro _ w2 ⟨u2, rfl, hb2⟩; replace HMX := Lib.hid (HMX.out.next hb2); replace HB := Lib.hid (below_call HB.out hb2); clear H2 hb2)
          | (go_at_call 8; refine (H3.out _ HMX.out).mono ?_; rintro _ w3 ⟨u3, rfl, hb3⟩; replace HMX := Lib.hid (HMX.out.next hb3); replace HB := Lib.hid (below_call HB.out hb3); clear H3 hb3)
          | (go_at_call 8; refine (H4.out _ HMX.out).mono ?_; rintro _ w4 ⟨u4, rfl, hb4⟩; replace HMX := Lib.hid (HMX.out.next hb4); replace HB := Lib.hid (below_call HB.out hb4); clear H4 hb4)
          | (go_at_call 8; refine (H6.out _ HMX.out).mono ?_; rintro _ w5 ⟨b5, o5, n5, cap5, rfl, hn5, c5, hb5⟩; have hn6 : decide ((0 : Int) < (n5 : Int)) = true := (by simp; omega); have hn7 : (0 : Int) < (n5 : Int) := (by omega); replace HMX := Lib.hid (HMX.out.next hb5); replace HB := Lib.hid (below_call HB.out hb5); clear H6 hb5)
          | (go_at_call 13; refine (HX.out _).mono ?_; rintro _ w6 ⟨rfl, hb6⟩; replace HMX := Lib.hid (HMX.out.next hb6); replace HB := Lib.hid (below_call HB.out hb6); clear HX hb6)
          | (go_at_call 7; refine (HW.out _ HMX.out).mono ?_; rintro _ w9 ⟨rfl, hb9⟩; clear HW))
        go_ret
        exact ⟨rfl, below_call HB.out hb9⟩
      · have u1 : (U1 != 4) = true := by simpa using hu
        have u2 : decide (U1 = 4) = false := by simpa using hu
        have u3 : decide (2 < U1) = false := by simp; omega
        clear hU hu
        go_enter Tryz.func6, Tryz.ntmps6
        go_wp2_with (first
          | (go_at_call 8; refine (H1.out _ HMX.out).mono ?_; rintro _ w1 ⟨u1, rfl, hb1⟩; replace HMX := Lib.hid (HMX.out.next hb1); have HB := Lib.hid hb1; clear H1 hb1)
          | (go_at_call 8; refine (H2.out _ HMX.out).mono ?_; rintro _ w2 ⟨u2, rfl, hb2⟩; replace HMX := Lib.hid (HMX.out.next hb2); replace HB := Lib.hid (below_call HB.out hb2); clear H2 hb2)
          | (go_at_call 8; refine (H3.out _ HMX.out).mono ?_; rintro _ w3 ⟨u3, rfl, hb3⟩; replace HMX := Lib.hid (HMX.out.next hb3); replace HB := Lib.hid (below_call HB.out hb3); clear H3 hb3)
          | (go_at_call 8; refine (H4.out _ HMX.out).mono ?_; rintro _ w4 ⟨u4, rfl, hb4⟩; replace HMX := Lib.hid (HMX.out.next hb4); replace HB := Lib.hid (below_call HB.out hb4); clear H4 hb4)
          | (go_at_call 8; refine (H6.out _ HMX.out).mono ?_; rintro _ w5 ⟨b5, o5, n5, cap5, rfl, hn5, c5, hb5⟩; have hn6 : decide ((0 : Int) < (n5 : Int)) = true := (by simp; omega); have hn7 : (0 : Int) < (n5 : Int) := (by omega); replace HMX := Lib.hid (HMX.out.next hb5); replace HB := Lib.hid (below_call HB.out hb5); clear H6 hb5)
          | (go_at_call 13; refine (HX.out _).mono ?_; rintro _ w6 ⟨rfl, hb6⟩; replace HMX := Lib.hid (HMX.out.next hb6); replace HB := Lib.hid (below_call HB.out hb6); clear HX hb6)
          | (go_at_call 7; refine (HW.out _ HMX.out).mono ?_; rintro _ w9 ⟨rfl, hb9⟩; clear HW))
        go_ret
        exact ⟨rfl, below_call HB.out hb9⟩
    · have v1 : (V2 == 0) = false := by simpa using hv
      have v2 : decide (V2 = 0) = false := by simpa using hv
      clear hV hv
      by_cases hu : U1 = 4
      · subst hu
        clear hU
        go_enter Tryz.func6, Tryz.ntmps6
        go_wp2_with (first
          | (go_at_call 8; refine (H1.out _ HMX.out).mono ?_; rintro _ w1 ⟨u1, rfl, hb1⟩; replace HMX := Lib.hid (HMX.out.next hb1); have HB := Lib.hid hb1; clear H1 hb1)
          | (go_at_call 8; refine (H2.out _ HMX.out).mono ?_; rintro _ w2 ⟨u2, rfl, hb2⟩; replace HMX := Lib.hid (HMX.out.next hb2); replace HB := Lib.hid (below_call HB.out hb2); clear H2 hb2)
          | (go_at_call 8; refine (H3.out _ HMX.out).mono ?_; rintro _ w3 ⟨u3, rfl, hb3⟩; replace HMX := Lib.hid (HMX.out.next hb3); replace HB := Lib.hid (below_call HB.out hb3); clear H3 hb3)
          | (go_at_call 8; refine (H4.out _ HMX.out).mono ?_; rintro _ w4 ⟨u4, rfl, hb4⟩; replace HMX := Lib.hid (HMX.out.next hb4); replace HB := Lib.hid (below_call HB.out hb4); clear H4 hb4)
          | (go_at_call 8; refine (H6.out _ HMX.out).mono ?_; rintro _ w5 ⟨b5, o5, n5, cap5, rfl, hn5, c5, hb5⟩; have hn6 : decide ((0 : Int) < (n5 : Int)) = true := (by simp; omega); have hn7 : (0 : Int) < (n5 : Int) := (by omega); replace HMX := Lib.hid (HMX.out.next hb5); replace HB := Lib.hid (below_call HB.out hb5); clear H6 hb5)
          | (go_at_call 13; refine (HX.out _).mono ?_; rintro _ w6 ⟨rfl, hb6⟩; replace HMX := Lib.hid (HMX.out.next hb6); replace HB := Lib.hid (below_call HB.out hb6); clear HX hb6)
          | (go_at_call 7; refine (HW.out _ HMX.out).mono ?_; rintro _ w9 ⟨rfl, hb9⟩; clear HW))
        go_ret
        exact ⟨rfl, below_call HB.out hb9⟩
      · have u1 : (U1 != 4) = true := by simpa using hu
        have u2 : decide (U1 = 4) = false := by simpa using hu
        have u3 : decide (2 < U1) = false := by simp; omega
        clear hU hu
        go_enter Tryz.func6, Tryz.ntmps6
        go_wp2_with (first
          | (go_at_call 8; refine (H1.out _ HMX.out).mono ?_; rintro _ w1 ⟨u1, rfl, hb1⟩; replace HMX := Lib.hid (HMX.out.next hb1); have HB := Lib.hid hb1; clear H1 hb1)
          | (go_at_call 8; refine (H2.out _ HMX.out).mono ?_; rintro _ w2 ⟨u2, rfl, hb2⟩; replace HMX := Lib.hid (HMX.out.next hb2); replace HB := Lib.hid (below_call HB.out hb2); clear H2 hb2)
          | (go_at_call 8; refine (H3.out _ HMX.out).mono ?_; rintro _ w3 ⟨u3, rfl, hb3⟩; replace HMX := Lib.hid (HMX.out.next hb3); replace HB := Lib.hid (below_call HB.out hb3); clear H3 hb3)
          | (go_at_call 8; refine (H4.out _ HMX.out).mono ?_; rintro _ w4 ⟨u4, rfl, hb4⟩; replace HMX := Lib.hid (HMX.out.next hb4); replace HB := Lib.hid (below_call HB.out hb4); clear H4 hb4)
          | (go_at_call 8; refine (H6.out _ HMX.out).mono ?_; rintro _ w5 ⟨b5, o5, n5, cap5, rfl, hn5, c5, hb5⟩; have hn6 : decide ((0 : Int) < (n5 : Int)) = true := (by simp; omega); have hn7 : (0 : Int) < (n5 : Int) := (by omega); replace HMX := Lib.hid (HMX.out.next hb5); replace HB := Lib.hid (below_call HB.out hb5); clear H6 hb5)
          | (go_at_call 13; refine (HX.out _).mono ?_; rintro _ w6 ⟨rfl, hb6⟩; replace HMX := Lib.hid (HMX.out.next hb6); replace HB := Lib.hid (below_call HB.out hb6); clear HX hb6)
          | (go_at_call 7; refine (HW.out _ HMX.out).mono ?_; rintro _ w9 ⟨rfl, hb9⟩; clear HW))
        go_ret
        exact ⟨rfl, below_call HB.out hb9⟩
end Go.Proofs.YtppabkllconkjaaGreatDoor.Snf
