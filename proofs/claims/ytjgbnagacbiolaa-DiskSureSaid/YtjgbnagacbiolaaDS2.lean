/- Proved: for every number, every row of operations and every row of numbers the law DiskSure of layer 1 returns true, and each argument reads behind the call as it read before. No condition. -/
import Derived.Test.YtjgbnagacbiolaaDS
namespace Go.Proofs.Ytjgbnagacbiolaa
open Go.RowKit
set_option linter.unusedVariables false
set_option linter.unusedSimpArgs false
theorem newBad (n : Int) (h : ¬ (0 ≤ n ∧ n ≤ 131072)) : newF n = (⟨⟨⟨#[]⟩, 0⟩, ⟨⟨#[]⟩, 0⟩, 0, 0, false⟩, 2) := by rw [newF, if_neg h]; rfl
set_option maxRecDepth 100000 in
set_option maxHeartbeats 1600000 in
theorem su_g (most : Int) (v : Value) (ws : List Wr) (cv : Option Addr) (ccap : Nat) (xs : List Int) (W : World) (hv : SlOf W v ws) (hs : ∀ x ∈ ws, x.b.size ≤ maxLen) (hcl : xs.length ≤ ccap) (hcm : ccap ≤ maxLen) (hg2 : GreatW ws) :
    Calls Try.prog 5 #[.int .i64 most, v, .slice cv xs.length ccap] W (RetB true W) := by
  have Hv := Lib.hid hv; clear hv
  have Hs := Lib.hid hs; clear hs
  unfold maxLen at hcm
  have Hg2 := Lib.hid hg2; clear hg2
  go_enter Try.func5, Try.ntmps5
  go_wp2_with fail
  refine (greatw_yes _ ws _ Hv.out Hs.out Hg2.out).mono ?_
  rintro en w1 ⟨rfl, hw1⟩
  have zhw1 := hw1.size
  try simp at zhw1
  go_wp2_with fail
  refine (wakes_any _).mono ?_
  rintro en wz ⟨rfl, hbz⟩
  have zz := hbz.size
  try simp at zz
  go_wp2_with fail
  go_ret
  refine ⟨rfl, ?_⟩
  repeat' (first | (with_reducible exact Below.refl _ _) | (with_reducible assumption) | (with_reducible refine below_call ?_ (by with_reducible assumption)) | (with_reducible refine below_draws ?_ _) | (with_reducible refine Below.drew ?_) | (with_reducible refine Below.alloc ?_ ?_ _) | (with_reducible refine Below.setCell ?_ ?_ _) | omega | (simp; done) | (simp; omega))
set_option maxRecDepth 100000 in
set_option maxHeartbeats 1600000 in
theorem su_c (most : Int) (v : Value) (ws : List Wr) (cv : Option Addr) (ccap : Nat) (xs : List Int) (W : World) (hv : SlOf W v ws) (hs : ∀ x ∈ ws, x.b.size ≤ maxLen) (hcl : xs.length ≤ ccap) (hcm : ccap ≤ maxLen) (hg2 : ¬ GreatW ws) (hx : 200 < xs.length) :
    Calls Try.prog 5 #[.int .i64 most, v, .slice cv xs.length ccap] W (RetB true W) := by
  have Hv := Lib.hid hv; clear hv
  have Hs := Lib.hid hs; clear hs
  unfold maxLen at hcm
  have Hg2 := Lib.hid hg2; clear hg2
  go_enter Try.func5, Try.ntmps5
  go_wp2_with fail
  refine (greatw_no _ ws _ Hv.out Hs.out Hg2.out).mono ?_
  rintro en w1 ⟨rfl, hw1⟩
  have zhw1 := hw1.size
  try simp at zhw1
  go_wp2_with fail
  refine (wakes_any _).mono ?_
  rintro en wz ⟨rfl, hbz⟩
  have zz := hbz.size
  try simp at zz
  go_wp2_with fail
  go_ret
  refine ⟨rfl, ?_⟩
  repeat' (first | (with_reducible exact Below.refl _ _) | (with_reducible assumption) | (with_reducible refine below_call ?_ (by with_reducible assumption)) | (with_reducible refine below_draws ?_ _) | (with_reducible refine Below.drew ?_) | (with_reducible refine Below.alloc ?_ ?_ _) | (with_reducible refine Below.setCell ?_ ?_ _) | omega | (simp; done) | (simp; omega))
set_option maxRecDepth 100000 in
set_option maxHeartbeats 1600000 in
theorem su_m1 (most : Int) (v : Value) (ws : List Wr) (cv : Option Addr) (ccap : Nat) (xs : List Int) (W : World) (hv : SlOf W v ws) (hs : ∀ x ∈ ws, x.b.size ≤ maxLen) (hcl : xs.length ≤ ccap) (hcm : ccap ≤ maxLen) (hg2 : ¬ GreatW ws) (hx : xs.length ≤ 200) (hm : most < 0) :
    Calls Try.prog 5 #[.int .i64 most, v, .slice cv xs.length ccap] W (RetB true W) := by
  have Hv := Lib.hid hv; clear hv
  have Hs := Lib.hid hs; clear hs
  unfold maxLen at hcm
  have Hg2 := Lib.hid hg2; clear hg2
  have Hn := Lib.hid (newBad most (by omega))
  go_enter Try.func5, Try.ntmps5
  go_wp2_with fail
  refine (greatw_no _ ws _ Hv.out Hs.out Hg2.out).mono ?_
  rintro en w1 ⟨rfl, hw1⟩
  have zhw1 := hw1.size
  try simp at zhw1
  go_wp2_with fail
  refine (new_r _ Hn.out).mono ?_
  rintro en w2 ⟨rfl, hw2⟩
  have zhw2 := hw2.size
  try simp at zhw2
  go_wp2_with fail
  refine (wakes_any _).mono ?_
  rintro en wz ⟨rfl, hbz⟩
  have zz := hbz.size
  try simp at zz
  go_wp2_with fail
  go_ret
  refine ⟨rfl, ?_⟩
  repeat' (first | (with_reducible exact Below.refl _ _) | (with_reducible assumption) | (with_reducible refine below_call ?_ (by with_reducible assumption)) | (with_reducible refine below_draws ?_ _) | (with_reducible refine Below.drew ?_) | (with_reducible refine Below.alloc ?_ ?_ _) | (with_reducible refine Below.setCell ?_ ?_ _) | omega | (simp; done) | (simp; omega))
set_option maxRecDepth 100000 in
set_option maxHeartbeats 1600000 in
theorem su_m2 (most : Int) (v : Value) (ws : List Wr) (cv : Option Addr) (ccap : Nat) (xs : List Int) (W : World) (hv : SlOf W v ws) (hs : ∀ x ∈ ws, x.b.size ≤ maxLen) (hcl : xs.length ≤ ccap) (hcm : ccap ≤ maxLen) (hg2 : ¬ GreatW ws) (hx : xs.length ≤ 200) (hm : 131072 < most) :
    Calls Try.prog 5 #[.int .i64 most, v, .slice cv xs.length ccap] W (RetB true W) := by
  have Hv := Lib.hid hv; clear hv
  have Hs := Lib.hid hs; clear hs
  unfold maxLen at hcm
  have Hg2 := Lib.hid hg2; clear hg2
  have Hn := Lib.hid (newBad most (by omega))
  go_enter Try.func5, Try.ntmps5
  go_wp2_with fail
  refine (greatw_no _ ws _ Hv.out Hs.out Hg2.out).mono ?_
  rintro en w1 ⟨rfl, hw1⟩
  have zhw1 := hw1.size
  try simp at zhw1
  go_wp2_with fail
  refine (new_r _ Hn.out).mono ?_
  rintro en w2 ⟨rfl, hw2⟩
  have zhw2 := hw2.size
  try simp at zhw2
  go_wp2_with fail
  refine (wakes_any _).mono ?_
  rintro en wz ⟨rfl, hbz⟩
  have zz := hbz.size
  try simp at zz
  go_wp2_with fail
  go_ret
  refine ⟨rfl, ?_⟩
  repeat' (first | (with_reducible exact Below.refl _ _) | (with_reducible assumption) | (with_reducible refine below_call ?_ (by with_reducible assumption)) | (with_reducible refine below_draws ?_ _) | (with_reducible refine Below.drew ?_) | (with_reducible refine Below.alloc ?_ ?_ _) | (with_reducible refine Below.setCell ?_ ?_ _) | omega | (simp; done) | (simp; omega))
set_option maxRecDepth 100000 in
set_option maxHeartbeats 1600000 in
theorem su_0 (most : Int) (a : Option Addr) (lcap : Nat) (cv : Option Addr) (ccap : Nat) (xs : List Int) (W : World) (hcl : xs.length ≤ ccap) (hcm : ccap ≤ maxLen) (hx : xs.length ≤ 200) (hm : 0 ≤ most ∧ most ≤ 131072) :
    Calls Try.prog 5 #[.int .i64 most, .slice a 0 lcap, .slice cv xs.length ccap] W (RetB true W) := by
  have Hn := Lib.hid (newR most hm)
  unfold maxLen at hcm
  have Hg : Hid (¬ GreatW []) := by simp [GreatW, Hid]
  go_enter Try.func5, Try.ntmps5
  go_wp2_with fail
  refine (greatw_no _ [] _ (.inl ⟨rfl, a, lcap, rfl⟩) (by simp) Hg.out).mono ?_
  rintro en w1 ⟨rfl, hw1⟩
  have zhw1 := hw1.size
  try simp at zhw1
  go_wp2_with fail
  refine (new_r _ Hn.out).mono ?_
  rintro en w2 ⟨rfl, hw2⟩
  have zhw2 := hw2.size
  try simp at zhw2
  go_wp2_with fail
  refine wp_loop_rounds 1 ?_
  rw [rounds_succ]
  go_wp2_with fail
  refine (wakes_any _).mono ?_
  rintro en wz ⟨rfl, hbz⟩
  have zz := hbz.size
  try simp at zz
  go_wp2_with fail
  go_ret
  refine ⟨rfl, ?_⟩
  repeat' (first | (with_reducible exact Below.refl _ _) | (with_reducible assumption) | (with_reducible refine below_call ?_ (by with_reducible assumption)) | (with_reducible refine below_draws ?_ _) | (with_reducible refine Below.drew ?_) | (with_reducible refine Below.alloc ?_ ?_ _) | (with_reducible refine Below.setCell ?_ ?_ _) | omega | (simp; done) | (simp; omega))
open Go.ChangeShapes Go.WideShapes Go.ChangeAt
theorem ilist_of {P : Nat → Int → Prop} (n : Nat) (h : ∀ i, i < n → ∃ x, P i x) : ∃ xs : List Int, xs.length = n ∧ ∀ (i : Nat) (hi : i < xs.length), P i xs[i] := by
  induction n with
  | zero => exact ⟨[], rfl, fun i hi => absurd hi (by simp)⟩
  | succ n ih =>
    obtain ⟨ws, hl, hp⟩ := ih (fun i hi => h i (by omega))
    obtain ⟨x, hx⟩ := h n (by omega)
    refine ⟨ws ++ [x], by simp [hl], fun i hi => ?_⟩
    by_cases hin : i < ws.length
    · rw [List.getElem_append_left hin]; exact hp i hin
    · have : i = ws.length := by simp at hi; omega
      subst this
      rw [List.getElem_append_right (Nat.le_refl _)]
      simp only [Nat.sub_self, List.getElem_cons_zero]
      rw [hl]; exact hx
theorem open_nums {H : Type} {enc : TypeId × Value → H} {w : World} {r : Reach} {b : Nat} {v : Value} {d : DataW H} {p : List MemPlace} (hv : Value.okWide Try.prog w r b 46 v) (h : DataW.Trod enc Try.prog w 0 (fun _ => true) true 46 v d p) :
    ∃ (cv : Option Addr) (xs : List Int) (ccap : Nat), v = .slice cv xs.length ccap ∧ xs.length ≤ ccap ∧ ccap ≤ maxLen ∧ ClAt w cv xs := by
  obtain ⟨a0, l0, cap0, rfl⟩ := okWide_slice Try.underlying46 hv
  obtain ⟨fuel, hf⟩ := h
  rcases Go.Deep.open_slice Try.underlying46 hf with ⟨h0, _⟩ | ⟨a, len, cap, m, n, D, Pl, hcs, hb, hl, hm, hmm, hx, hi⟩
  · simp [Value.cells] at h0
    obtain ⟨rfl, rfl, rfl⟩ := h0
    exact ⟨none, [], 0, rfl, by simp, by simp, fun i hi => absurd hi (by simp)⟩
  · simp [Value.cells] at hcs
    obtain ⟨rfl, rfl, rfl⟩ := hcs
    have hlm : l0 ≤ m := by rw [hmm]; split <;> omega
    have cellq : ∀ i, i < l0 → ∃ x : Int, w.cell? (a.add i) = some (.int .i64 x) := by
      intro i hil
      obtain ⟨cs', hc, ht⟩ := hi i (by omega)
      rw [cells3] at hc
      obtain ⟨x, rfl, _, _⟩ := DataW.trod_int Try.underlying3 ht
      obtain ⟨_, _, hcell⟩ := World.cells?_some hc
      refine ⟨x, ?_⟩
      have := hcell 0 (by omega)
      simpa [Addr.add] using this
    obtain ⟨xs, hxl, hxs⟩ := ilist_of l0 cellq
    refine ⟨some a, xs, cap0, by rw [hxl], by omega, hm, fun i hil => ?_⟩
    have hc0 := hxs i hil
    have hs0 := World.cell?_spot hc0
    have hbl := World.block_lt_of_cell? _ _ hc0
    have h00 := World.cell?_spot (hxs 0 (by omega))
    obtain ⟨cb, co, sp⟩ := a
    have hsp : sp = none := by simpa [Addr.add] using h00
    subst hsp
    rw [add_plain] at hbl
    refine ⟨cb, co, rfl, hbl, fun j hj => ?_⟩
    have := hxs j hj
    rw [add_plain] at this
    exact this
theorem sure_walk (most : Int) (v : Value) (ws : List Wr) (cv : Option Addr) (ccap : Nat) (xs : List Int) (W : World) (hv : SlOf W v ws) (hs : ∀ x ∈ ws, x.b.size ≤ maxLen) (hcl : xs.length ≤ ccap) (hcm : ccap ≤ maxLen) (hc : ClAt W cv xs) :
    Calls Try.prog 5 #[.int .i64 most, v, .slice cv xs.length ccap] W (RetB true W) := by
  by_cases hg2 : GreatW ws
  · exact su_g most v ws cv ccap xs W hv hs hcl hcm hg2
  by_cases hx : 200 < xs.length
  · exact su_c most v ws cv ccap xs W hv hs hcl hcm hg2 hx
  have hx : xs.length ≤ 200 := by omega
  by_cases hm1 : most < 0
  · exact su_m1 most v ws cv ccap xs W hv hs hcl hcm hg2 hx hm1
  by_cases hm2 : 131072 < most
  · exact su_m2 most v ws cv ccap xs W hv hs hcl hcm hg2 hx hm2
  rcases hv with ⟨rfl, a, lcap, rfl⟩ | ⟨lb, lo, lcap, rfl, hw, hlb, h1, h2⟩
  · exact su_0 most a lcap cv ccap xs W hcl hcm hx (by omega)
  · exact su_ok most lb lo lcap ws cv ccap xs W hw hlb h1 h2 hs hcl hg2 hc hx (by omega)

set_option maxRecDepth 100000 in
theorem diskSure_lifted (os : Os) (started : os.Started) (H : Type) (enc : TypeId × Value → H) :
    ReturnsInHanded {} Try.checked os 5 .any (Rows.diskSureSpec.pre6 enc Try.prog Try.f5 Rows.diskSureRow.domain false) (Rows.diskSureSpec.post enc Try.prog Try.f5 false true false false) := by
  refine returnsInHanded_of_change (C := Try.checked) own started (by kernel_rfl) Try.func5
    (ChangeSpec.witness6 (enc := enc) (C := Try.checked) false ⟨#[], #[.int .i64 0, .slice none 0 0, .slice none 0 0], []⟩ 8 (by kernel_rfl) (by kernel_rfl) (by kernel_rfl) (by kernel_rfl)) ?_
  intro W base args ds gs before hval0 hW hcnd _
  have hval : ∀ (j : Nat) t v, Try.f5.params[j]? = some t → args[j]? = some v → Value.okWide Try.prog W .any base t v := hval0
  have hW' := hW
  obtain ⟨p, q, hA0, hV, rfl, hfz, hnd⟩ := hW
  have hA : DataW.TrodAll enc Try.prog W 0 (fun _ => true) true Try.f5.params.toList args.toList ds p := hA0
  rw [Try.params5] at hA hval
  obtain ⟨v0, vs0, d0, ds0, p0, q0, hargs, rfl, rfl, h0, r0⟩ := trodAll_cons hA
  obtain ⟨v1, vs1, d1, ds1, p1, q1, rfl, rfl, rfl, h1, r1⟩ := trodAll_cons r0
  obtain ⟨v2, vs2, d2, ds2, p2, q2, rfl, rfl, rfl, h2, r2⟩ := trodAll_cons r1
  obtain ⟨rfl, rfl, rfl⟩ := trodAll_nil r2
  obtain rfl : args = #[v0, v1, v2] := by cases args; simp_all
  obtain ⟨rfl, rfl⟩ := trodVars_none hV
  obtain ⟨most, rfl, rfl, rfl, wm⟩ := open_int Try.underlying3 (hval 0 3 v0 rfl rfl) h0
  obtain ⟨ws, hv, hs⟩ := open_writes (hval 1 32 v1 rfl rfl) h1
  obtain ⟨cv, xs, ccap, rfl, hcl, hcm, hc⟩ := open_nums (hval 2 46 v2 rfl rfl) h2
  refine (sure_walk most v1 ws cv ccap xs W hv hs hcl hcm hc).mono fun e W' ⟨he, hb⟩ => ⟨_, he, ?_⟩
  exact law_post rfl (by kernel_rfl) (by
    intro t ht
    have : t ∈ [3, 32, 46] := by rw [Try.params5] at ht; exact ht
    simp only [List.mem_cons, List.not_mem_nil, or_false] at this
    rcases this with rfl | rfl | rfl <;> exact ⟨by kernel_rfl, of_decide_eq_true (by kernel_rfl)⟩) hW' rfl hb
theorem diskSure_over : Rows.diskSureRow.holds Try.pinned (OpenSpec.ofChange Rows.diskSureSpec) :=
  OpenClaim.holds_of_wide 5 Try.f5 rfl rfl rfl rfl rfl rfl rfl ⟨rfl, rfl, rfl, rfl, rfl⟩ rfl rfl rfl rfl rfl (by kernel_rfl) Try.func5 (by kernel_rfl)
    (of_decide_eq_true (by kernel_rfl)) (by unfold Func.isWrapper; first | (rw [if_pos (by decide +kernel)]; kernel_rfl) | (rw [if_neg (by decide +kernel)]; exact ⟨rfl, rfl⟩))
    (fun os started H enc _ => diskSure_lifted os started H enc)
theorem diskSure_proved : Rows.DiskSureSaid := diskSure_over
end Go.Proofs.Ytjgbnagacbiolaa
