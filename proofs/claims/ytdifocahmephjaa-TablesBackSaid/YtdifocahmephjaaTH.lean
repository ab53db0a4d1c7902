/- The contracts of Made and Whole, the program's. -/
import Derived.Test.YtdifocahmephjaaTG
namespace Go.Proofs.Ytdifocahmephjaa.Tab
open Go.RowKit Go.Maps
set_option linter.unusedVariables false
set_option linter.unusedSimpArgs false
set_option maxRecDepth 100000
theorem lkp_acc {f : Pr → Bool} : ∀ (l : List Pr) (o : Option Pr), l.foldl (fun o p => if f p then some p else o) o = (match lkp f l with | some p => some p | none => o)
  | [], o => rfl
  | p :: t, o => by
    unfold lkp
    simp only [List.foldl_cons]
    rw [lkp_acc t, lkp_acc t (if f p = true then some p else none)]
    cases h : lkp f t with
    | some q => rfl
    | none => simp only; split <;> simp_all
theorem lkp_some {f : Pr → Bool} : ∀ (l : List Pr) (p : Pr), lkp f l = some p → p ∈ l ∧ f p = true
  | [], p, h => by cases h
  | q :: t, p, h => by
    unfold lkp at h
    simp only [List.foldl_cons] at h
    rw [lkp_acc] at h
    cases h2 : lkp f t with
    | some r =>
      rw [h2] at h
      cases h
      have := lkp_some t p h2
      exact ⟨List.mem_cons_of_mem _ this.1, this.2⟩
    | none =>
      rw [h2] at h
      by_cases hf : f q = true
      · rw [if_pos hf] at h; cases h; exact ⟨by simp, hf⟩
      · rw [if_neg hf] at h; cases h
theorem all_in : ∀ p ∈ wl ++ dl, p ∈ prs := by decide +kernel
theorem wl_in : ∀ p ∈ wl, p ∈ prs ∧ p.2.2 ≠ 0 := by decide +kernel
theorem prs_lkp : ∀ p ∈ prs, lkp (fun q => q.1 == p.1) (wl ++ dl) = some p := by decide +kernel
theorem prs_lkp2 : ∀ p ∈ prs, p.2.2 ≠ 0 → lkp (fun q => q.2.1 == p.2.1 && q.2.2 == p.2.2) wl = some p := by decide +kernel
theorem lkp_one (r : Int) : lkp (fun q => q.1 == r) (wl ++ dl) = prs.find? (fun p => p.1 == r) := by
  cases h : prs.find? (fun p => p.1 == r) with
  | some p =>
    have h1 := List.find?_some h
    have h2 := List.mem_of_find?_eq_some h
    have h3 : p.1 = r := by simpa using h1
    rw [← h3]
    exact prs_lkp p h2
  | none =>
    cases h2 : lkp (fun q => q.1 == r) (wl ++ dl) with
    | none => rfl
    | some p =>
      obtain ⟨h3, h4⟩ := lkp_some _ _ h2
      exact absurd h4 (List.find?_eq_none.1 h p (all_in p h3))
theorem lkp_two (f s : Int) : lkp (fun q => q.2.1 == f && q.2.2 == s) wl = prs.find? (fun p => p.2.1 == f && p.2.2 == s && p.2.2 != 0) := by
  cases h : prs.find? (fun p => p.2.1 == f && p.2.2 == s && p.2.2 != 0) with
  | some p =>
    have h1 := List.find?_some h
    have h2 := List.mem_of_find?_eq_some h
    simp only [Bool.and_eq_true, beq_iff_eq, bne_iff_ne, ne_eq] at h1
    obtain ⟨⟨e1, e2⟩, e3⟩ := h1
    rw [← e1, ← e2]
    exact prs_lkp2 p h2 e3
  | none =>
    cases h2 : lkp (fun q => q.2.1 == f && q.2.2 == s) wl with
    | none => rfl
    | some p =>
      obtain ⟨h3, h4⟩ := lkp_some _ _ h2
      obtain ⟨h5, h6⟩ := wl_in p h3
      have h7 := List.find?_eq_none.1 h p h5
      simp only [Bool.and_eq_true, beq_iff_eq] at h4
      simp [h4.1, h4.2] at h7
      exact absurd (h4.2.trans h7) h6
theorem zeroRow (w : World) : (zeroValue 40).run Try.prog w = .ok (.agg #[.int .i64 0, .int .i64 0, .int .i64 0]) w := by kernel_rfl
theorem prs_bd : ∀ p ∈ prs, 192 ≤ p.1 ∧ p.1 ≤ 8491 ∧ (p.2.2 ≠ 0 → 65 ≤ p.2.1 ∧ p.2.1 ≤ 7865 ∧ mrkT p.2.2 = true) := by decide +kernel
/-- The look-up of a number. -/
theorem look_int {w : World} {G : Nat} (hM : w.ownsMap Try.prog 3 fnR G 73 (tabM kI (wl ++ dl))) {r : Int} (hr : okI r) (hh : han r = false) :
    ∃ a b c ok, (Instr.lookup 42 (.map (some G)) (.int .i64 r) true).run Try.prog w = .ok (.tuple #[.agg #[.int .i64 a, .int .i64 b, .int .i64 c], .bool ok]) w ∧ made r = (b, c, ok) := by
  obtain ⟨v, ps, hrun, hv⟩ := hM.look_ok lawI64 Try.underlying42 (zeroRow w) (zd := .held (.agg #[.int .i64 0, .int .i64 0, .int .i64 0])) (zp := []) rfl (keyOf_int_mk Try.underlying3 (okI_wf hr))
  obtain ⟨h1, h2⟩ := tab_look (kf := kI) (kl := .int .i64 r) (f := fun q => q.1 == r) (by trivial) (fun p => by simp [kI]) (.held (.agg #[.int .i64 0, .int .i64 0, .int .i64 0])) (wl ++ dl)
  rw [h1] at hrun
  rw [h2] at hv
  rw [lkp_one] at hrun hv
  unfold made
  rw [if_neg (by rw [hh]; decide)]
  simp only [fnR, Option.some.injEq, Prod.mk.injEq, DataW.held.injEq] at hv
  cases hf : prs.find? (fun p => p.1 == r) with
  | none =>
    rw [hf] at hrun hv
    simp only [DataW.held.injEq] at hv
    rw [hv.1] at hrun
    exact ⟨_, _, _, _, hrun, rfl⟩
  | some p =>
    rw [hf] at hrun hv
    simp only [DataW.held.injEq] at hv
    rw [hv.1] at hrun
    exact ⟨_, _, _, _, hrun, rfl⟩
theorem pair_inj {a b c d : Int} (ha : okI a) (hb : okI b) (hc : okI c) (hd : okI d) (h : keyBytes [.int .i64 a, .int .i64 b] = keyBytes [.int .i64 c, .int .i64 d]) : a = c ∧ b = d := by
  have h1 := keyA ha hb
  have h2 := keyA hc hd
  rw [h] at h1
  have := lawArr.inj h1 h2
  simpa using this
/-- The look-up of two numbers. -/
theorem look_arr {w : World} {G : Nat} (hM : w.ownsMap Try.prog 46 fnR G 68 (tabM kA wl)) {f s : Int} (hf : okI f) (hs : okI s) :
    ∃ a b c ok, (Instr.lookup 44 (.map (some G)) (.agg #[.int .i64 f, .int .i64 s]) true).run Try.prog w = .ok (.tuple #[.agg #[.int .i64 a, .int .i64 b, .int .i64 c], .bool ok]) w ∧ (match prs.find? (fun p => p.2.1 == f && p.2.2 == s && p.2.2 != 0) with | some p => (p.1, true) | none => (0, false)) = (a, ok) := by
  obtain ⟨v, ps, hrun, hv⟩ := hM.look_ok lawArr Try.underlying44 (zeroRow w) (zd := .held (.agg #[.int .i64 0, .int .i64 0, .int .i64 0])) (zp := []) rfl (keyA hf hs)
  have hlk : Maps.has (tabM kA wl) (.string (keyBytes [.int .i64 f, .int .i64 s])) = (lkp (fun q => q.2.1 == f && q.2.2 == s) wl).isSome ∧ (tabM kA wl).atKey (.string (keyBytes [.int .i64 f, .int .i64 s])) (.held (.agg #[.int .i64 0, .int .i64 0, .int .i64 0])) = (match lkp (fun q => q.2.1 == f && q.2.2 == s) wl with | some p => .held (rowV p) | none => .held (.agg #[.int .i64 0, .int .i64 0, .int .i64 0])) := by
    refine tab_look_on (kf := kA) (f := fun q => q.2.1 == f && q.2.2 == s) (by trivial) wl (fun p hp => ?_) _
    have := wl_ok p (List.mem_append_left _ hp)
    simp only [Bool.and_eq_true, beq_iff_eq, kA, Lit.string.injEq]
    constructor
    · rintro ⟨rfl, rfl⟩; rfl
    · intro h
      exact pair_inj ⟨by omega, by omega⟩ ⟨by omega, by omega⟩ hf hs h
  obtain ⟨h1, h2⟩ := hlk
  rw [h1] at hrun
  rw [h2] at hv
  rw [lkp_two] at hrun hv
  simp only [fnR, Option.some.injEq, Prod.mk.injEq, DataW.held.injEq] at hv
  cases hff : prs.find? (fun p => p.2.1 == f && p.2.2 == s && p.2.2 != 0) with
  | none =>
    rw [hff] at hrun hv
    simp only [DataW.held.injEq] at hv
    rw [hv.1] at hrun
    exact ⟨_, _, _, _, hrun, rfl⟩
  | some p =>
    rw [hff] at hrun hv
    simp only [DataW.held.injEq] at hv
    rw [hv.1] at hrun
    exact ⟨_, _, _, _, hrun, rfl⟩
theorem made_far {r : Int} (hh : han r = false) (hb : r < 192 ∨ 8491 < r) : made r = (0, 0, false) := by
  unfold made
  rw [if_neg (by rw [hh]; decide)]
  cases hf : prs.find? (fun p => p.1 == r) with
  | none => rfl
  | some p =>
    have h1 := List.find?_some hf
    have h2 := prs_bd p (List.mem_of_find?_eq_some hf)
    have h3 : p.1 = r := by simpa using h1
    omega
theorem found_far {f s : Int} (hb : f < 65 ∨ 7865 < f ∨ mrkT s = false) : (match prs.find? (fun p => p.2.1 == f && p.2.2 == s && p.2.2 != 0) with | some p => (p.1, true) | none => (0, false)) = ((0, false) : Int × Bool) := by
  cases hf : prs.find? (fun p => p.2.1 == f && p.2.2 == s && p.2.2 != 0) with
  | none => rfl
  | some p =>
    exfalso
    have h1 := List.find?_some hf
    have h2 := (prs_bd p (List.mem_of_find?_eq_some hf)).2.2
    simp only [Bool.and_eq_true, beq_iff_eq, bne_iff_ne, ne_eq] at h1
    obtain ⟨⟨e1, e2⟩, e3⟩ := h1
    obtain ⟨h3, h4, h5⟩ := h2 e3
    rw [e2] at h5
    rcases hb with h | h | h
    · omega
    · omega
    · rw [h5] at h; cases h
/-- What Made tells. -/
def RetM (m : Int × Int × Bool) (w : World) (e : Ending) (w' : World) : Prop := e = .returned (.tuple #[.int .i64 m.1, .int .i64 m.2.1, .bool m.2.2]) ∧ Below w.heap.size w w'
def RetW (m : Int × Bool) (w : World) (e : Ending) (w' : World) : Prop := e = .returned (.tuple #[.int .i64 m.1, .bool m.2]) ∧ Below w.heap.size w w'
set_option maxHeartbeats 4000000 in
theorem made_any (r : Int) (w : World) (hr : okI r) : Calls Try.prog 7 #[.int .i64 r] w fun e w' => RetM (made r) w e w' := by
  have HS := Lib.hid fun w => syl_any r w hr
  cases hh : han r with
  | true =>
    have hfr := han_iff.1 hh
    have hsy : sylF r = r - 44032 := if_pos hh
    rw [hsy, hh] at HS
    have HP := Lib.hid fun w => parts_any (r - 44032) w (by omega)
    have hm : made r = if 0 < (r - 44032) % 28 then (r - (r - 44032) % 28, 4519 + (r - 44032) % 28, true) else (4352 + (r - 44032) / 28 / 21, 4449 + (r - 44032) / 28 % 21, true) := if_pos hh
    obtain ⟨a, b, hab, hm2⟩ : ∃ a b, Hid (∀ w, Calls Try.prog 21 #[.int .u16 (r - 44032)] w fun e w' => e = .returned (.tuple #[.int .i64 a, .int .i64 b]) ∧ w' = w) ∧ made r = (a, b, true) := by
      by_cases hc : 0 < (r - 44032) % 28
      · simp only [if_pos hc] at HP
        rw [show 44032 + (r - 44032) - (r - 44032) % 28 = r - (r - 44032) % 28 by omega] at HP
        exact ⟨_, _, HP, hm.trans (if_pos hc)⟩
      · simp only [if_neg hc] at HP
        exact ⟨_, _, HP, hm.trans (if_neg hc)⟩
    rw [hm2]
    unfold RetM
    clear hm hm2 HP hsy hh hfr hr
    generalize r - 44032 = z at HS hab
    go_enter Try.func7, Try.ntmps7
    go_wp2_with (first
      | (go_at_call 20; refine (HS.out _).mono ?_; rintro _ w9 ⟨rfl, hw9⟩; subst w9)
      | (go_at_call 21; refine (hab.out _).mono ?_; rintro _ w9 ⟨rfl, hw9⟩; subst w9))
    go_ret3
    exact ⟨rfl, Below.refl _ _⟩
  | false =>
    rw [hh] at HS
    by_cases hb : r < 192
    · rw [made_far hh (.inl hb)]
      unfold RetM
      clear hh hr
      generalize sylF r = z at HS
      go_enter Try.func7, Try.ntmps7
      go_wp2_with (go_at_call 20; refine (HS.out _).mono ?_; rintro _ w9 ⟨rfl, hw9⟩; subst w9)
      go_ret3
      exact ⟨rfl, Below.refl _ _⟩
    · by_cases hb2 : r > 8491
      · rw [made_far hh (.inr hb2)]
        unfold RetM
        have hb3 : 192 ≤ r := by omega
        clear hh hr hb
        generalize sylF r = z at HS
        go_enter Try.func7, Try.ntmps7
        go_wp2_with (go_at_call 20; refine (HS.out _).mono ?_; rintro _ w9 ⟨rfl, hw9⟩; subst w9)
        go_ret3
        exact ⟨rfl, Below.refl _ _⟩
      · have hb3 : 192 ≤ r := by omega
        have hb4 : r ≤ 8491 := by omega
        have HO := Lib.hid fun w => origins_any w
        have HLK := Lib.hid fun (w1 : World) (G : Nat) (hM : w1.ownsMap Try.prog 3 fnR G 73 (tabM kI (wl ++ dl))) => look_int hM hr hh
        unfold RetM
        clear hh hr hb hb2
        generalize sylF r = z at HS
        generalize made r = m at HLK ⊢
        generalize tabM kI (wl ++ dl) = D at HO HLK
        go_enter Try.func7, Try.ntmps7
        go_wp2_with (first
          | (go_at_call 20; refine (HS.out _).mono ?_; rintro _ w9 ⟨rfl, hw9⟩; subst w9)
          | (go_at_call 22; refine (HO.out _).mono ?_; rintro _ w1 ⟨G, rfl, hm1, hb1⟩
             obtain ⟨a, b, c, ok, hrun, hm⟩ := HLK.out _ _ hm1
             have HB1 := Lib.hid hb1
             have HMM := Lib.hid hm
             clear hb1 hm1 hm))
        go_quiet (fail)
        go_wp2_with fail
        go_ret3
        rw [HMM.out]
        exact ⟨rfl, below_draws (HB1.out.alloc HB1.out.size _) _⟩
theorem whole_jnd (f s : Int) : whole f s = if (jnd f s).2 = true then jnd f s else (match prs.find? (fun p => p.2.1 == f && p.2.2 == s && p.2.2 != 0) with | some p => (p.1, true) | none => (0, false)) := by
  unfold whole jnd
  by_cases h1 : 4352 ≤ f ∧ f < 4371 ∧ 4449 ≤ s ∧ s < 4470
  · simp only [if_pos h1]; rfl
  · simp only [if_neg h1]
    by_cases h2 : han f = true ∧ (f - 44032) % 28 = 0 ∧ 4519 < s ∧ s < 4547
    · simp only [if_pos h2]; rfl
    · simp only [if_neg h2]; rfl
set_option maxHeartbeats 4000000 in
theorem whole_any (f s : Int) (w : World) (hf : okI f) (hs : okI s) : Calls Try.prog 9 #[.int .i64 f, .int .i64 s] w fun e w' => RetW (whole f s) w e w' := by
  have HJ := Lib.hid fun w => joined_any f s w hf hs
  have HK := Lib.hid fun w => mark_any s w
  rw [whole_jnd]
  obtain ⟨x, ok, hj⟩ : ∃ x ok, jnd f s = (x, ok) := ⟨_, _, rfl⟩
  rw [hj] at HJ ⊢
  clear hj
  cases ok with
  | true =>
    rw [if_pos rfl]
    unfold RetW
    go_enter Try.func9, Try.ntmps9
    go_wp2_with (first
          | (go_at_call 23; refine (HJ.out _).mono ?_; rintro _ w9 ⟨rfl, hw9⟩; subst w9)
          | (go_at_call 13; refine (HK.out _).mono ?_; rintro _ w9 ⟨rfl, hw9⟩; subst w9))
    go_ret2
    exact ⟨rfl, Below.refl _ _⟩
  | false =>
    rw [if_neg Bool.false_ne_true]
    by_cases h1 : f < 65
    · rw [found_far (.inl h1)]
      unfold RetW
      clear hf hs
      go_enter Try.func9, Try.ntmps9
      go_wp2_with (first
          | (go_at_call 23; refine (HJ.out _).mono ?_; rintro _ w9 ⟨rfl, hw9⟩; subst w9)
          | (go_at_call 13; refine (HK.out _).mono ?_; rintro _ w9 ⟨rfl, hw9⟩; subst w9))
      go_ret2
      exact ⟨rfl, Below.refl _ _⟩
    · have h1' : 65 ≤ f := by omega
      by_cases h2 : f > 7865
      · rw [found_far (.inr (.inl h2))]
        unfold RetW
        clear hf hs h1
        go_enter Try.func9, Try.ntmps9
        go_wp2_with (first
          | (go_at_call 23; refine (HJ.out _).mono ?_; rintro _ w9 ⟨rfl, hw9⟩; subst w9)
          | (go_at_call 13; refine (HK.out _).mono ?_; rintro _ w9 ⟨rfl, hw9⟩; subst w9))
        go_ret2
        exact ⟨rfl, Below.refl _ _⟩
      · have h2' : f ≤ 7865 := by omega
        cases hm : mrkT s with
        | false =>
          rw [found_far (.inr (.inr hm))]
          rw [hm] at HK
          unfold RetW
          clear hf hs h1 h2 hm
          go_enter Try.func9, Try.ntmps9
          go_wp2_with (first
          | (go_at_call 23; refine (HJ.out _).mono ?_; rintro _ w9 ⟨rfl, hw9⟩; subst w9)
          | (go_at_call 13; refine (HK.out _).mono ?_; rintro _ w9 ⟨rfl, hw9⟩; subst w9))
          go_ret2
          exact ⟨rfl, Below.refl _ _⟩
        | true =>
          rw [hm] at HK
          have HO := Lib.hid fun w => table_any w
          have HLK := Lib.hid fun (w1 : World) (G : Nat) (hM : w1.ownsMap Try.prog 46 fnR G 68 (tabM kA wl)) => look_arr hM hf hs
          unfold RetW
          clear hf hs h1 h2 hm
          generalize (match prs.find? (fun p => p.2.1 == f && p.2.2 == s && p.2.2 != 0) with | some p => (p.1, true) | none => ((0, false) : Int × Bool)) = m at HLK ⊢
          generalize tabM kA wl = D at HO HLK
          go_enter Try.func9, Try.ntmps9
          go_wp2_with (first
            | (go_at_call 23; refine (HJ.out _).mono ?_; rintro _ w9 ⟨rfl, hw9⟩; subst w9)
            | (go_at_call 13; refine (HK.out _).mono ?_; rintro _ w9 ⟨rfl, hw9⟩; subst w9)
            | (go_at_call 24; refine (HO.out _).mono ?_; rintro _ w1 ⟨G, rfl, hm1, hb1⟩
               obtain ⟨a, b, c, ok, hrun, hm⟩ := HLK.out _ _ hm1
               have HB1 := Lib.hid hb1
               have HMM := Lib.hid hm
               clear hb1 hm1 hm))
          go_ret2
          rw [HMM.out]
          exact ⟨rfl, HB1.out.alloc HB1.out.size _⟩
end Go.Proofs.Ytdifocahmephjaa.Tab
