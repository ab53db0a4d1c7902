/- The contract of Table and the walks of the laws SingleTells and SingleOnce. -/
import Derived.Test.YtgahaehnlbkihaaX
import Derived.Lib.SmallJoins
import Derived.Deep.Slices
import Derived.ChangeSame
import Derived.ChangeVars
import Derived.Deep.OwnRows
namespace Go.Proofs.Ytgahaehnlbkihaa
open Go.RowKit
set_option linter.unusedVariables false
set_option linter.unusedSimpArgs false
theorem tbl_len_is {e : Int} (h : isE e = true) : (tbl e).length = 256 := by rw [tbl_is h]; simp
theorem tbl_len_isnt {e : Int} (h : isE e = false) : (tbl e).length = 0 := by rw [tbl_isnt h]; rfl
theorem once_no (e : Int) (hwf : (Lit.int .i8 e).wf = true) (h : isE e = false) (x : Int) (hx0 : 0 ≤ x) (hx1 : x < 256) (y : Int) (hy0 : 0 ≤ y) (hy1 : y < 256) (w : World) : Calls Try.prog 4 #[.int .i8 e, .int .u8 x, .int .u8 y] w fun t w' => RetB true w t w' := by
  obtain ⟨a, ha⟩ : ∃ b : Nat, x = b := ⟨x.toNat, by omega⟩
  obtain ⟨b, hb⟩ : ∃ b : Nat, y = b := ⟨y.toNat, by omega⟩
  obtain ⟨h3, h4, h5⟩ := isE_no.1 h
  have H1 : Hid (∀ w, Calls Try.prog 5 #[.int .i8 e, .int .u8 x] w fun t w' => RetS e a w t w') := Lib.hid fun w => fscalar_any e hwf x a ha (by omega) w
  have H2 : Hid (∀ w, Calls Try.prog 5 #[.int .i8 e, .int .u8 y] w fun t w' => RetS e b w t w') := Lib.hid fun w => fscalar_any e hwf y b hb (by omega) w
  have H5 : Hid (∀ w, Calls Try.prog 9 #[.int .i8 e] w fun t w' => RetT e w t w') := Lib.hid fun w => ftable_any e hwf w
  have H7 : Hid (∀ w, Calls Try.prog 11 #[] w fun t w' => RetB true w t w') := Lib.hid wakes_any
  unfold RetS at H1 H2
  rw [scE_no h3 h4 h5 a, h] at H1
  rw [scE_no h3 h4 h5 b, h] at H2
  have HN := Lib.hid (tbl_len_isnt h)
  have d3 : (e == 3) = false := by simp; omega
  have d4 : (e == 4) = false := by simp; omega
  have d5 : (e == 5) = false := by simp; omega
  clear ha hb hwf h h3 h4 h5
  go_enter Try.func4, Try.ntmps4
  go_wp2_with (first
    | (go_at_call 5; refine (H1.out _).mono ?_; rintro _ w1 ⟨rfl, hb1⟩; have HB1 := Lib.hid hb1; clear hb1 H1)
    | (go_at_call 5; refine (H2.out _).mono ?_; rintro _ w2 ⟨rfl, hb2⟩; have HB2 := Lib.hid hb2; clear hb2 H2)
    | (go_at_call 9; refine (H5.out _).mono ?_; rintro _ w5 ⟨v, rfl, hv, hb5⟩; obtain ⟨p, cap, hvf⟩ := hv.form; rw [HN.out] at hvf; subst hvf; have HB5 := Lib.hid hb5; clear hb5 hv H5)
    | (go_at_call 11; refine (H7.out _).mono ?_; rintro _ w7 ⟨rfl, hb7⟩; have HB7 := Lib.hid hb7; clear hb7 H7))
  go_ret
  exact ⟨rfl, below_call (below_call (below_call HB1.out HB2.out) HB5.out) HB7.out⟩
set_option maxRecDepth 100000 in
theorem once_3 (x : Int) (hx0 : 0 ≤ x) (hx1 : x < 256) (y : Int) (hy0 : 0 ≤ y) (hy1 : y < 256) (w : World) : Calls Try.prog 4 #[.int .i8 3, .int .u8 x, .int .u8 y] w fun t w' => RetB true w t w' := by
  obtain ⟨a, ha⟩ : ∃ b : Nat, x = b := ⟨x.toNat, by omega⟩
  obtain ⟨b, hb⟩ : ∃ b : Nat, y = b := ⟨y.toNat, by omega⟩
  have H1 : Hid (∀ w, Calls Try.prog 5 #[.int .i8 3, .int .u8 x] w fun t w' => RetS 3 a w t w') := Lib.hid fun w => fscalar_any 3 (by decide) x a ha (by omega) w
  have H2 : Hid (∀ w, Calls Try.prog 5 #[.int .i8 3, .int .u8 y] w fun t w' => RetS 3 b w t w') := Lib.hid fun w => fscalar_any 3 (by decide) y b hb (by omega) w
  have H5 : Hid (∀ w, Calls Try.prog 9 #[.int .i8 3] w fun t w' => RetT 3 w t w') := Lib.hid fun w => ftable_any 3 (by decide) w
  have H3 : Hid (∀ r w, Calls Try.prog 7 #[.int .i8 3, .int .i64 r] w fun t w' => RetY 3 r w t w') := Lib.hid fun r w => fbyte_any 3 (by decide) r w
  have H7 : Hid (∀ w, Calls Try.prog 11 #[] w fun t w' => RetB true w t w') := Lib.hid wakes_any
  have HI : Hid (isE 3 = true) := Lib.hid rfl
  have HBF : Hid (bf 3 (scE 3 a) = some a) := Lib.hid (bf_of rfl (by omega))
  have HIN : Hid (scE 3 a = scE 3 b ↔ a = b) := Lib.hid (sc_inj rfl (by omega) (by omega))
  unfold RetS at H1 H2
  unfold RetY at H3
  have HN := Lib.hid (tbl_len_is (e := 3) rfl)
  have HT : Hid (tbl 3 = (List.range 256).map (scE 3)) := Lib.hid (tbl_is rfl)
  have HSC : Hid (∀ w p cap, Ints w (.slice p 256 cap) (tbl 3) → ∃ b off, p = some ⟨b, off, none⟩ ∧ w.cell? ⟨b, off + a, none⟩ = some (.int .i64 (scE 3 a))) := Lib.hid (fun w p cap h => by
    rw [HT.out] at h
    obtain ⟨b, off, he, hc⟩ := Ints.at h (k := a) (by simp; omega)
    exact ⟨b, off, he, by simpa using hc⟩)
  obtain ⟨c, hc⟩ : ∃ c, scE 3 a = c := ⟨_, rfl⟩
  obtain ⟨d, hd⟩ : ∃ c, scE 3 b = c := ⟨_, rfl⟩
  rw [hc] at HBF HIN HSC H1
  rw [hd] at HIN H2
  rw [HI.out] at H1 H2
  replace H3 : Hid (∀ w, Calls Try.prog 7 #[.int .i8 3, .int .i64 c] w fun t w' => t = .returned (.tuple #[.int .u8 x, .bool true]) ∧ Below w.heap.size w w') := Lib.hid fun w => by
    have := H3.out c w
    rw [HBF.out] at this
    rw [ha]; exact this
  have hax : x.toNat = a := by omega
  have ha2 : x = (a : Int) := ha
  have ha256 : a < 256 := by omega
  clear hc hd HT HBF
  by_cases hab : a = b
  · have hcd : c = d := HIN.out.2 hab
    have hxy : x = y := by omega
    subst hcd
    subst hxy
    clear hab hb HIN hax
    subst ha2
    go_enter Try.func4, Try.ntmps4
    go_wp2_with (first
      | (go_at_call 5; refine (H1.out _).mono ?_; rintro _ w1 ⟨rfl, hb1⟩; have HB1 := Lib.hid hb1; clear hb1 H1)
      | (go_at_call 5; refine (H2.out _).mono ?_; rintro _ w2 ⟨rfl, hb2⟩; have HB2 := Lib.hid hb2; clear hb2 H2)
      | (go_at_call 9; refine (H5.out _).mono ?_; rintro _ w5 ⟨v, rfl, hv, hb5⟩; obtain ⟨p, cap, hvf⟩ := hv.form; rw [HN.out] at hvf; subst hvf; obtain ⟨bb, off, rfl, hcl⟩ := HSC.out _ _ _ hv; have HCL := Lib.hid hcl; have HB5 := Lib.hid hb5; clear hb5 hv hcl H5)
      | (go_at_call 7; refine (H3.out _).mono ?_; rintro _ w6 ⟨rfl, hb6⟩; have HB6 := Lib.hid hb6; have hcl := (hb6.cell (p := ⟨bb, off + a, none⟩) (World.block_lt_of_cell? _ _ HCL.out)).trans HCL.out; clear hb6 H3)
      | (go_at_call 11; refine (H7.out _).mono ?_; rintro _ w7 ⟨rfl, hb7⟩; have HB7 := Lib.hid hb7; clear hb7 H7))
    go_ret
    exact ⟨rfl, below_call (below_call (below_call (below_call HB1.out HB2.out) HB5.out) HB6.out) HB7.out⟩
  · have hcd : (c == d) = false := by simp; exact fun h => hab (HIN.out.1 h)
    have hxy : (x == y) = false := by simp; omega
    have hwx : x = (a : Int) := ha2
    clear hab hb HIN hax ha
    subst ha2
    go_enter Try.func4, Try.ntmps4
    go_wp2_with (first
      | (go_at_call 5; refine (H1.out _).mono ?_; rintro _ w1 ⟨rfl, hb1⟩; have HB1 := Lib.hid hb1; clear hb1 H1)
      | (go_at_call 5; refine (H2.out _).mono ?_; rintro _ w2 ⟨rfl, hb2⟩; have HB2 := Lib.hid hb2; clear hb2 H2)
      | (go_at_call 9; refine (H5.out _).mono ?_; rintro _ w5 ⟨v, rfl, hv, hb5⟩; obtain ⟨p, cap, hvf⟩ := hv.form; rw [HN.out] at hvf; subst hvf; obtain ⟨bb, off, rfl, hcl⟩ := HSC.out _ _ _ hv; have HCL := Lib.hid hcl; have HB5 := Lib.hid hb5; clear hb5 hv hcl H5)
      | (go_at_call 7; refine (H3.out _).mono ?_; rintro _ w6 ⟨rfl, hb6⟩; have HB6 := Lib.hid hb6; have hcl := (hb6.cell (p := ⟨bb, off + a, none⟩) (World.block_lt_of_cell? _ _ HCL.out)).trans HCL.out; clear hb6 H3)
      | (go_at_call 11; refine (H7.out _).mono ?_; rintro _ w7 ⟨rfl, hb7⟩; have HB7 := Lib.hid hb7; clear hb7 H7))
    go_ret
    exact ⟨rfl, below_call (below_call (below_call (below_call HB1.out HB2.out) HB5.out) HB6.out) HB7.out⟩
set_option maxRecDepth 100000 in
theorem once_4 (x : Int) (hx0 : 0 ≤ x) (hx1 : x < 256) (y : Int) (hy0 : 0 ≤ y) (hy1 : y < 256) (w : World) : Calls Try.prog 4 #[.int .i8 4, .int .u8 x, .int .u8 y] w fun t w' => RetB true w t w' := by
  obtain ⟨a, ha⟩ : ∃ b : Nat, x = b := ⟨x.toNat, by omega⟩
  obtain ⟨b, hb⟩ : ∃ b : Nat, y = b := ⟨y.toNat, by omega⟩
  have H1 : Hid (∀ w, Calls Try.prog 5 #[.int .i8 4, .int .u8 x] w fun t w' => RetS 4 a w t w') := Lib.hid fun w => fscalar_any 4 (by decide) x a ha (by omega) w
  have H2 : Hid (∀ w, Calls Try.prog 5 #[.int .i8 4, .int .u8 y] w fun t w' => RetS 4 b w t w') := Lib.hid fun w => fscalar_any 4 (by decide) y b hb (by omega) w
  have H5 : Hid (∀ w, Calls Try.prog 9 #[.int .i8 4] w fun t w' => RetT 4 w t w') := Lib.hid fun w => ftable_any 4 (by decide) w
  have H3 : Hid (∀ r w, Calls Try.prog 7 #[.int .i8 4, .int .i64 r] w fun t w' => RetY 4 r w t w') := Lib.hid fun r w => fbyte_any 4 (by decide) r w
  have H7 : Hid (∀ w, Calls Try.prog 11 #[] w fun t w' => RetB true w t w') := Lib.hid wakes_any
  have HI : Hid (isE 4 = true) := Lib.hid rfl
  have HBF : Hid (bf 4 (scE 4 a) = some a) := Lib.hid (bf_of rfl (by omega))
  have HIN : Hid (scE 4 a = scE 4 b ↔ a = b) := Lib.hid (sc_inj rfl (by omega) (by omega))
  unfold RetS at H1 H2
  unfold RetY at H3
  have HN := Lib.hid (tbl_len_is (e := 4) rfl)
  have HT : Hid (tbl 4 = (List.range 256).map (scE 4)) := Lib.hid (tbl_is rfl)
  have HSC : Hid (∀ w p cap, Ints w (.slice p 256 cap) (tbl 4) → ∃ b off, p = some ⟨b, off, none⟩ ∧ w.cell? ⟨b, off + a, none⟩ = some (.int .i64 (scE 4 a))) := Lib.hid (fun w p cap h => by
    rw [HT.out] at h
    obtain ⟨b, off, he, hc⟩ := Ints.at h (k := a) (by simp; omega)
    exact ⟨b, off, he, by simpa using hc⟩)
  obtain ⟨c, hc⟩ : ∃ c, scE 4 a = c := ⟨_, rfl⟩
  obtain ⟨d, hd⟩ : ∃ c, scE 4 b = c := ⟨_, rfl⟩
  rw [hc] at HBF HIN HSC H1
  rw [hd] at HIN H2
  rw [HI.out] at H1 H2
  replace H3 : Hid (∀ w, Calls Try.prog 7 #[.int .i8 4, .int .i64 c] w fun t w' => t = .returned (.tuple #[.int .u8 x, .bool true]) ∧ Below w.heap.size w w') := Lib.hid fun w => by
    have := H3.out c w
    rw [HBF.out] at this
    rw [ha]; exact this
  have hax : x.toNat = a := by omega
  have ha2 : x = (a : Int) := ha
  have ha256 : a < 256 := by omega
  clear hc hd HT HBF
  by_cases hab : a = b
  · have hcd : c = d := HIN.out.2 hab
    have hxy : x = y := by omega
    subst hcd
    subst hxy
    clear hab hb HIN hax
    subst ha2
    go_enter Try.func4, Try.ntmps4
    go_wp2_with (first
      | (go_at_call 5; refine (H1.out _).mono ?_; rintro _ w1 ⟨rfl, hb1⟩; have HB1 := Lib.hid hb1; clear hb1 H1)
      | (go_at_call 5; refine (H2.out _).mono ?_; rintro _ w2 ⟨rfl, hb2⟩; have HB2 := Lib.hid hb2; clear hb2 H2)
      | (go_at_call 9; refine (H5.out _).mono ?_; rintro _ w5 ⟨v, rfl, hv, hb5⟩; obtain ⟨p, cap, hvf⟩ := hv.form; rw [HN.out] at hvf; subst hvf; obtain ⟨bb, off, rfl, hcl⟩ := HSC.out _ _ _ hv; have HCL := Lib.hid hcl; have HB5 := Lib.hid hb5; clear hb5 hv hcl H5)
      | (go_at_call 7; refine (H3.out _).mono ?_; rintro _ w6 ⟨rfl, hb6⟩; have HB6 := Lib.hid hb6; have hcl := (hb6.cell (p := ⟨bb, off + a, none⟩) (World.block_lt_of_cell? _ _ HCL.out)).trans HCL.out; clear hb6 H3)
      | (go_at_call 11; refine (H7.out _).mono ?_; rintro _ w7 ⟨rfl, hb7⟩; have HB7 := Lib.hid hb7; clear hb7 H7))
    go_ret
    exact ⟨rfl, below_call (below_call (below_call (below_call HB1.out HB2.out) HB5.out) HB6.out) HB7.out⟩
  · have hcd : (c == d) = false := by simp; exact fun h => hab (HIN.out.1 h)
    have hxy : (x == y) = false := by simp; omega
    have hwx : x = (a : Int) := ha2
    clear hab hb HIN hax ha
    subst ha2
    go_enter Try.func4, Try.ntmps4
    go_wp2_with (first
      | (go_at_call 5; refine (H1.out _).mono ?_; rintro _ w1 ⟨rfl, hb1⟩; have HB1 := Lib.hid hb1; clear hb1 H1)
      | (go_at_call 5; refine (H2.out _).mono ?_; rintro _ w2 ⟨rfl, hb2⟩; have HB2 := Lib.hid hb2; clear hb2 H2)
      | (go_at_call 9; refine (H5.out _).mono ?_; rintro _ w5 ⟨v, rfl, hv, hb5⟩; obtain ⟨p, cap, hvf⟩ := hv.form; rw [HN.out] at hvf; subst hvf; obtain ⟨bb, off, rfl, hcl⟩ := HSC.out _ _ _ hv; have HCL := Lib.hid hcl; have HB5 := Lib.hid hb5; clear hb5 hv hcl H5)
      | (go_at_call 7; refine (H3.out _).mono ?_; rintro _ w6 ⟨rfl, hb6⟩; have HB6 := Lib.hid hb6; have hcl := (hb6.cell (p := ⟨bb, off + a, none⟩) (World.block_lt_of_cell? _ _ HCL.out)).trans HCL.out; clear hb6 H3)
      | (go_at_call 11; refine (H7.out _).mono ?_; rintro _ w7 ⟨rfl, hb7⟩; have HB7 := Lib.hid hb7; clear hb7 H7))
    go_ret
    exact ⟨rfl, below_call (below_call (below_call (below_call HB1.out HB2.out) HB5.out) HB6.out) HB7.out⟩
set_option maxRecDepth 100000 in
theorem once_5 (x : Int) (hx0 : 0 ≤ x) (hx1 : x < 256) (y : Int) (hy0 : 0 ≤ y) (hy1 : y < 256) (w : World) : Calls Try.prog 4 #[.int .i8 5, .int .u8 x, .int .u8 y] w fun t w' => RetB true w t w' := by
  obtain ⟨a, ha⟩ : ∃ b : Nat, x = b := ⟨x.toNat, by omega⟩
  obtain ⟨b, hb⟩ : ∃ b : Nat, y = b := ⟨y.toNat, by omega⟩
  have H1 : Hid (∀ w, Calls Try.prog 5 #[.int .i8 5, .int .u8 x] w fun t w' => RetS 5 a w t w') := Lib.hid fun w => fscalar_any 5 (by decide) x a ha (by omega) w
  have H2 : Hid (∀ w, Calls Try.prog 5 #[.int .i8 5, .int .u8 y] w fun t w' => RetS 5 b w t w') := Lib.hid fun w => fscalar_any 5 (by decide) y b hb (by omega) w
  have H5 : Hid (∀ w, Calls Try.prog 9 #[.int .i8 5] w fun t w' => RetT 5 w t w') := Lib.hid fun w => ftable_any 5 (by decide) w
  have H3 : Hid (∀ r w, Calls Try.prog 7 #[.int .i8 5, .int .i64 r] w fun t w' => RetY 5 r w t w') := Lib.hid fun r w => fbyte_any 5 (by decide) r w
  have H7 : Hid (∀ w, Calls Try.prog 11 #[] w fun t w' => RetB true w t w') := Lib.hid wakes_any
  have HI : Hid (isE 5 = true) := Lib.hid rfl
  have HBF : Hid (bf 5 (scE 5 a) = some a) := Lib.hid (bf_of rfl (by omega))
  have HIN : Hid (scE 5 a = scE 5 b ↔ a = b) := Lib.hid (sc_inj rfl (by omega) (by omega))
  unfold RetS at H1 H2
  unfold RetY at H3
  have HN := Lib.hid (tbl_len_is (e := 5) rfl)
  have HT : Hid (tbl 5 = (List.range 256).map (scE 5)) := Lib.hid (tbl_is rfl)
  have HSC : Hid (∀ w p cap, Ints w (.slice p 256 cap) (tbl 5) → ∃ b off, p = some ⟨b, off, none⟩ ∧ w.cell? ⟨b, off + a, none⟩ = some (.int .i64 (scE 5 a))) := Lib.hid (fun w p cap h => by
    rw [HT.out] at h
    obtain ⟨b, off, he, hc⟩ := Ints.at h (k := a) (by simp; omega)
    exact ⟨b, off, he, by simpa using hc⟩)
  obtain ⟨c, hc⟩ : ∃ c, scE 5 a = c := ⟨_, rfl⟩
  obtain ⟨d, hd⟩ : ∃ c, scE 5 b = c := ⟨_, rfl⟩
  rw [hc] at HBF HIN HSC H1
  rw [hd] at HIN H2
  rw [HI.out] at H1 H2
  replace H3 : Hid (∀ w, Calls Try.prog 7 #[.int .i8 5, .int .i64 c] w fun t w' => t = .returned (.tuple #[.int .u8 x, .bool true]) ∧ Below w.heap.size w w') := Lib.hid fun w => by
    have := H3.out c w
    rw [HBF.out] at this
    rw [ha]; exact this
  have hax : x.toNat = a := by omega
  have ha2 : x = (a : Int) := ha
  have ha256 : a < 256 := by omega
  clear hc hd HT HBF
  by_cases hab : a = b
  · have hcd : c = d := HIN.out.2 hab
    have hxy : x = y := by omega
    subst hcd
    subst hxy
    clear hab hb HIN hax
    subst ha2
    go_enter Try.func4, Try.ntmps4
    go_wp2_with (first
      | (go_at_call 5; refine (H1.out _).mono ?_; rintro _ w1 ⟨rfl, hb1⟩; have HB1 := Lib.hid hb1; clear hb1 H1)
      | (go_at_call 5; refine (H2.out _).mono ?_; rintro _ w2 ⟨rfl, hb2⟩; have HB2 := Lib.hid hb2; clear hb2 H2)
      | (go_at_call 9; refine (H5.out _).mono ?_; rintro _ w5 ⟨v, rfl, hv, hb5⟩; obtain ⟨p, cap, hvf⟩ := hv.form; rw [HN.out] at hvf; subst hvf; obtain ⟨bb, off, rfl, hcl⟩ := HSC.out _ _ _ hv; have HCL := Lib.hid hcl; have HB5 := Lib.hid hb5; clear hb5 hv hcl H5)
      | (go_at_call 7; refine (H3.out _).mono ?_; rintro _ w6 ⟨rfl, hb6⟩; have HB6 := Lib.hid hb6; have hcl := (hb6.cell (p := ⟨bb, off + a, none⟩) (World.block_lt_of_cell? _ _ HCL.out)).trans HCL.out; clear hb6 H3)
      | (go_at_call 11; refine (H7.out _).mono ?_; rintro _ w7 ⟨rfl, hb7⟩; have HB7 := Lib.hid hb7; clear hb7 H7))
    go_ret
    exact ⟨rfl, below_call (below_call (below_call (below_call HB1.out HB2.out) HB5.out) HB6.out) HB7.out⟩
  · have hcd : (c == d) = false := by simp; exact fun h => hab (HIN.out.1 h)
    have hxy : (x == y) = false := by simp; omega
    have hwx : x = (a : Int) := ha2
    clear hab hb HIN hax ha
    subst ha2
    go_enter Try.func4, Try.ntmps4
    go_wp2_with (first
      | (go_at_call 5; refine (H1.out _).mono ?_; rintro _ w1 ⟨rfl, hb1⟩; have HB1 := Lib.hid hb1; clear hb1 H1)
      | (go_at_call 5; refine (H2.out _).mono ?_; rintro _ w2 ⟨rfl, hb2⟩; have HB2 := Lib.hid hb2; clear hb2 H2)
      | (go_at_call 9; refine (H5.out _).mono ?_; rintro _ w5 ⟨v, rfl, hv, hb5⟩; obtain ⟨p, cap, hvf⟩ := hv.form; rw [HN.out] at hvf; subst hvf; obtain ⟨bb, off, rfl, hcl⟩ := HSC.out _ _ _ hv; have HCL := Lib.hid hcl; have HB5 := Lib.hid hb5; clear hb5 hv hcl H5)
      | (go_at_call 7; refine (H3.out _).mono ?_; rintro _ w6 ⟨rfl, hb6⟩; have HB6 := Lib.hid hb6; have hcl := (hb6.cell (p := ⟨bb, off + a, none⟩) (World.block_lt_of_cell? _ _ HCL.out)).trans HCL.out; clear hb6 H3)
      | (go_at_call 11; refine (H7.out _).mono ?_; rintro _ w7 ⟨rfl, hb7⟩; have HB7 := Lib.hid hb7; clear hb7 H7))
    go_ret
    exact ⟨rfl, below_call (below_call (below_call (below_call HB1.out HB2.out) HB5.out) HB6.out) HB7.out⟩
theorem once_walk (e : Int) (hwf : (Lit.int .i8 e).wf = true) (x : Int) (hx0 : 0 ≤ x) (hx1 : x < 256) (y : Int) (hy0 : 0 ≤ y) (hy1 : y < 256) (w : World) : Calls Try.prog 4 #[.int .i8 e, .int .u8 x, .int .u8 y] w fun t w' => RetB true w t w' := by
  cases h : isE e
  · exact once_no e hwf h x hx0 hx1 y hy0 hy1 w
  · rcases isE_iff.1 h with rfl | rfl | rfl
    · exact once_3 x hx0 hx1 y hy0 hy1 w
    · exact once_4 x hx0 hx1 y hy0 hy1 w
    · exact once_5 x hx0 hx1 y hy0 hy1 w
end Go.Proofs.Ytgahaehnlbkihaa
