/- The contract of Table and the walks of the laws SingleTells and SingleOnce. -/
import Derived.Test.YtgahaehnlbkihaaI
import Derived.Lib.SmallJoins
import Derived.Deep.Slices
import Derived.ChangeSame
import Derived.ChangeVars
import Derived.Deep.OwnRows
namespace Go.Proofs.Ytgahaehnlbkihaa
open Go.RowKit
set_option linter.unusedVariables false
set_option linter.unusedSimpArgs false
theorem ftable_3 (w : World) : Calls Try.prog 9 #[.int .i8 3] w fun e w' => RetT 3 w e w' := by
  have HS := Lib.hid (scalars_any w)
  have HT := Lib.hid fun w => table_BLK (rval 3) (scE 3) tl_3 w
  have HI : Hid (isE 3 = true) := Lib.hid rfl
  have HN : Hid (tbl 3 = (List.range 256).map (scE 3)) := Lib.hid (tbl_is rfl)
  have hfv := fvr_3
  obtain ⟨rv, hrv⟩ : ∃ v, rval 3 = v := ⟨_, rfl⟩
  rw [hrv] at hfv HT
  have HV := Lib.hid hfv
  clear hrv hfv
  go_enter Try.func9, Try.ntmps9
  go_wp2_with (first
    | (go_at_call 12; refine HS.out.mono ?_; rintro e w1 ⟨g, rfl, hl, hb1⟩; replace hl := hl 3 (by decide); rw [HV.out, HI.out] at hl; have HB1 := Lib.hid hb1; clear hb1)
    | (go_at_call 16; refine (HT.out _).mono ?_; rintro e w2 ⟨B, rfl, hr, hB, hb2⟩; have HB2 := Lib.hid hb2; have HR := Lib.hid hr; clear hb2 hr))
  go_ret
  exact ⟨_, rfl, by rw [HN.out]; exact ints_of_row HR.out _, below_call HB1.out HB2.out⟩
theorem ftable_4 (w : World) : Calls Try.prog 9 #[.int .i8 4] w fun e w' => RetT 4 w e w' := by
  have HS := Lib.hid (scalars_any w)
  have HT := Lib.hid fun w => table_RUNS (rval 4) (scE 4) tl_4 w
  have HI : Hid (isE 4 = true) := Lib.hid rfl
  have HN : Hid (tbl 4 = (List.range 256).map (scE 4)) := Lib.hid (tbl_is rfl)
  have hfv := fvr_4
  obtain ⟨rv, hrv⟩ : ∃ v, rval 4 = v := ⟨_, rfl⟩
  rw [hrv] at hfv HT
  have HV := Lib.hid hfv
  clear hrv hfv
  go_enter Try.func9, Try.ntmps9
  go_wp2_with (first
    | (go_at_call 12; refine HS.out.mono ?_; rintro e w1 ⟨g, rfl, hl, hb1⟩; replace hl := hl 4 (by decide); rw [HV.out, HI.out] at hl; have HB1 := Lib.hid hb1; clear hb1)
    | (go_at_call 16; refine (HT.out _).mono ?_; rintro e w2 ⟨B, rfl, hr, hB, hb2⟩; have HB2 := Lib.hid hb2; have HR := Lib.hid hr; clear hb2 hr))
  go_ret
  exact ⟨_, rfl, by rw [HN.out]; exact ints_of_row HR.out _, below_call HB1.out HB2.out⟩
theorem ftable_5 (w : World) : Calls Try.prog 9 #[.int .i8 5] w fun e w' => RetT 5 w e w' := by
  have HS := Lib.hid (scalars_any w)
  have HT := Lib.hid fun w => table_RUNS (rval 5) (scE 5) tl_5 w
  have HI : Hid (isE 5 = true) := Lib.hid rfl
  have HN : Hid (tbl 5 = (List.range 256).map (scE 5)) := Lib.hid (tbl_is rfl)
  have hfv := fvr_5
  obtain ⟨rv, hrv⟩ : ∃ v, rval 5 = v := ⟨_, rfl⟩
  rw [hrv] at hfv HT
  have HV := Lib.hid hfv
  clear hrv hfv
  go_enter Try.func9, Try.ntmps9
  go_wp2_with (first
    | (go_at_call 12; refine HS.out.mono ?_; rintro e w1 ⟨g, rfl, hl, hb1⟩; replace hl := hl 5 (by decide); rw [HV.out, HI.out] at hl; have HB1 := Lib.hid hb1; clear hb1)
    | (go_at_call 16; refine (HT.out _).mono ?_; rintro e w2 ⟨B, rfl, hr, hB, hb2⟩; have HB2 := Lib.hid hb2; have HR := Lib.hid hr; clear hb2 hr))
  go_ret
  exact ⟨_, rfl, by rw [HN.out]; exact ints_of_row HR.out _, below_call HB1.out HB2.out⟩
theorem ftable_no (e : Int) (hwf : (Lit.int .i8 e).wf = true) (h : isE e = false) (w : World) : Calls Try.prog 9 #[.int .i8 e] w fun r w' => RetT e w r w' := by
  have HS := Lib.hid (scalars_any w)
  have HV := Lib.hid (fval_no h)
  have HI := Lib.hid h
  have HW := Lib.hid hwf
  have HN : Hid (tbl e = []) := Lib.hid (tbl_isnt h)
  clear h hwf
  go_enter Try.func9, Try.ntmps9
  go_wp2_with (go_at_call 12; refine HS.out.mono ?_; rintro e w1 ⟨g, rfl, hl, hb1⟩; replace hl := hl _ HW.out; rw [HV.out, HI.out] at hl; have HB1 := Lib.hid hb1; clear hb1)
  go_ret
  exact ⟨_, rfl, by rw [HN.out]; exact ints_nil _, HB1.out⟩
theorem ftable_any (e : Int) (hwf : (Lit.int .i8 e).wf = true) (w : World) : Calls Try.prog 9 #[.int .i8 e] w fun r w' => RetT e w r w' := by
  cases h : isE e
  · exact ftable_no e hwf h w
  · rcases isE_iff.1 h with rfl | rfl | rfl
    · exact ftable_3 w
    · exact ftable_4 w
    · exact ftable_5 w
theorem Ints.at {w : World} {p : Option Addr} {N cap : Nat} {xs : List Int} (h : Ints w (.slice p N cap) xs) {k : Nat} (hk : k < xs.length) : ∃ b off, p = some ⟨b, off, none⟩ ∧ w.cell? ⟨b, off + k, none⟩ = some (.int .i64 xs[k]) := by
  rcases h with ⟨rfl, _⟩ | ⟨b, off, cap', e, _, hc⟩
  · simp at hk
  · cases e
    exact ⟨b, off, rfl, hc k hk⟩
theorem drewN_add (w : World) (a b : Nat) : (w.drewN a).drewN b = w.drewN (a + b) := by simp [World.drewN, Nat.add_assoc]
theorem below_drewN {w w' : World} {B n : Nat} (h : w' = w.drewN n) : Below B w w' := by subst h; exact ⟨rfl, rfl, rfl, Nat.le_refl _, fun _ _ => rfl⟩
theorem tells_walk (e : Int) (hwf : (Lit.int .i8 e).wf = true) (x : Int) (hx0 : 0 ≤ x) (hx1 : x < 256) (r : Int) (w : World) : Calls Try.prog 3 #[.int .i8 e, .int .u8 x, .int .i64 r] w fun t w' => RetB true w t w' := by
  obtain ⟨b, hb⟩ : ∃ b : Nat, x = b := ⟨x.toNat, by omega⟩
  have H1 : Hid (∀ w, Calls Try.prog 5 #[.int .i8 e, .int .u8 x] w fun t w' => RetS e b w t w') := Lib.hid fun w => fscalar_any e hwf x b hb (by omega) w
  have H2 : Hid (∀ w, Calls Try.prog 6 #[.int .i8 e, .int .u8 x] w fun t w' => RetS e b w t w') := Lib.hid fun w => rscalar_any e x b hb (by omega) w
  have H3 : Hid (∀ w, Calls Try.prog 7 #[.int .i8 e, .int .i64 r] w fun t w' => RetY e r w t w') := Lib.hid fun w => fbyte_any e hwf r w
  have H4 : Hid (∀ w, Calls Try.prog 8 #[.int .i8 e, .int .i64 r] w fun t w' => RetY e r w t w') := Lib.hid fun w => rbyte_any e r w
  have H5 : Hid (∀ w, Calls Try.prog 9 #[.int .i8 e] w fun t w' => RetT e w t w') := Lib.hid fun w => ftable_any e hwf w
  have H6 : Hid (∀ w, Calls Try.prog 10 #[.int .i8 e] w fun t w' => RetT e w t w') := Lib.hid fun w => rtable_any e w
  have H7 : Hid (∀ w, Calls Try.prog 11 #[] w fun t w' => RetB true w t w') := Lib.hid wakes_any
  unfold RetS at H1 H2
  unfold RetY at H3 H4
  obtain ⟨c, hc⟩ : ∃ c, scE e b = c := ⟨_, rfl⟩
  obtain ⟨ok, hok⟩ : ∃ c, isE e = c := ⟨_, rfl⟩
  obtain ⟨y, hy⟩ : ∃ c : Nat, (bf e r).getD 0 = c := ⟨_, rfl⟩
  obtain ⟨yes, hyes⟩ : ∃ c, (bf e r).isSome = c := ⟨_, rfl⟩
  rw [hc, hok] at H1 H2
  rw [hy, hyes] at H3 H4
  have HOK := Lib.hid hok
  clear hc hy hyes hb hwf hok
  obtain ⟨N, hN⟩ : ∃ N, (tbl e).length = N := ⟨_, rfl⟩
  have hN1 : N ≤ 256 := by
    rw [← hN]
    cases ok
    · rw [tbl_isnt HOK.out]; simp
    · rw [tbl_is HOK.out]; simp
  have HNN := Lib.hid hN
  clear hN
  go_enter Try.func3, Try.ntmps3
  go_wp2_with (first
    | (go_at_call 5; refine (H1.out _).mono ?_; rintro _ w1 ⟨rfl, hb1⟩; have HB1 := Lib.hid hb1; clear hb1 H1)
    | (go_at_call 6; refine (H2.out _).mono ?_; rintro _ w2 ⟨rfl, hb2⟩; have HB2 := Lib.hid hb2; clear hb2 H2)
    | (go_at_call 7; refine (H3.out _).mono ?_; rintro _ w3 ⟨rfl, hb3⟩; have HB3 := Lib.hid hb3; clear hb3 H3)
    | (go_at_call 8; refine (H4.out _).mono ?_; rintro _ w4 ⟨rfl, hb4⟩; have HB4 := Lib.hid hb4; clear hb4 H4)
    | (go_at_call 9; refine (H5.out _).mono ?_; rintro _ w5 ⟨v, rfl, hv, hb5⟩; obtain ⟨p, cap, hvf⟩ := hv.form; rw [HNN.out] at hvf; subst hvf; have HV5 := Lib.hid hv; have HB5 := Lib.hid hb5; clear hb5 hv H5)
    | (go_at_call 10; refine (H6.out _).mono ?_; rintro _ w6 ⟨u, rfl, hu, hb6⟩; obtain ⟨q, cap2, hvf⟩ := hu.form; rw [HNN.out] at hvf; subst hvf; have HV6 := Lib.hid hu; have HB6 := Lib.hid hb6; clear hb6 hu H6))
  have HBA : Hid (Below w.heap.size w w6) := Lib.hid (below_call (below_call (below_call (below_call (below_call HB1.out HB2.out) HB3.out) HB4.out) HB5.out) HB6.out)
  have HW5 : Hid (Ints w6 (.slice p N cap) (tbl e)) := Lib.hid (HV5.out.below HB6.out)
  obtain ⟨xs, hxs⟩ : ∃ xs, tbl e = xs := ⟨_, rfl⟩
  rw [hxs] at HW5 HV6 HNN
  clear hxs HB1 HB2 HB3 HB4 HB5 HB6 HV5 HOK
  go_loopg [17] (N + 1) (fun gh q wr => ∃ (k : Nat), k + gh = N + 1 ∧ q = .int .i64 k ∧ k ≤ N ∧ ∃ d, Hid (wr = w6.drewN d))
  case atStart => exact ⟨0, by omega, rfl, by omega, 0, Lib.hid rfl⟩
  case round =>
    obtain ⟨k, hkg, rfl, hk7, d, HD⟩ := hrel
    by_cases hk : k < N
    · have hkx : k < xs.length := by rw [HNN.out]; exact hk
      obtain ⟨b1, o1, rfl, c1⟩ := HW5.out.at hkx
      obtain ⟨b2, o2, rfl, c2⟩ := HV6.out.at hkx
      obtain ⟨z, hz⟩ : ∃ z, xs[k] = z := ⟨_, rfl⟩
      rw [hz] at c1 c2
      have d1 : wr.cell? ⟨b1, o1 + k, none⟩ = some (.int .i64 z) := by rw [HD.out]; exact c1
      have d2 : wr.cell? ⟨b2, o2 + k, none⟩ = some (.int .i64 z) := by rw [HD.out]; exact c2
      have hk0 : (0 : Int) ≤ (k : Int) := by omega
      have hk3 : (k : Int) < (N : Int) := by omega
      clear hz c1 c2 hkx
      go_wp2_with fail
      go_quiet (fail)
      go_wp2_with fail
      go_roundg (gk - 1)
      case measure => omega
      case rel => exact ⟨k + 1, by omega, by go_num, by omega, _, Lib.hid (by rw [HD.out]; exact drewN_add _ _ _)⟩
    · have HBW : Hid (Below w.heap.size w wr) := Lib.hid (HBA.out.trans (below_drewN HD.out))
      go_wp2_with (go_at_call 11; refine (H7.out _).mono ?_; rintro _ w7 ⟨rfl, hb7⟩; have HB7 := Lib.hid hb7; clear hb7 H7)
      go_ret
      exact ⟨rfl, below_call HBW.out HB7.out⟩
end Go.Proofs.Ytgahaehnlbkihaa
