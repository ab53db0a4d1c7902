/- Proved: for every disk and every row of operations the law DiskPlays of layer 1 returns true, and each argument reads behind the call as it read before. No condition. -/
import Derived.Test.YtjgbnagacbiolaaSL
import Derived.Test.YtjgbnagacbiolaaTE
namespace Go.Proofs.Ytjgbnagacbiolaa
open Go.RowKit
set_option linter.unusedVariables false
set_option linter.unusedSimpArgs false
theorem all_r {b0 b1 : ByteArray} {s0 s1 c l : Int} {dn : Bool} {v : Value} {ws : List Wr} (w : World) {z0 z1 : ByteArray} {r0 r1 zc zl e : Int} {zd : Bool} {k : Nat} (hfit : Dk.fit ⟨⟨b0, s0⟩, ⟨b1, s1⟩, c, l, dn⟩) (hv : SlOf w v ws) (hg : ¬ GreatW ws)
    (hr : allF ⟨⟨b0, s0⟩, ⟨b1, s1⟩, c, l, dn⟩ ws 0 = (⟨⟨z0, r0⟩, ⟨z1, r1⟩, zc, zl, zd⟩, k, e)) :
    Calls Try.prog 23 #[.agg #[.string b0, .int .i64 s0, .string b1, .int .i64 s1, .int .i64 c, .int .i64 l, .bool dn], v] w fun en w' => en = .returned (.tuple #[.agg #[.string z0, .int .i64 r0, .string z1, .int .i64 r1, .int .i64 zc, .int .i64 zl, .bool zd], .int .i64 k, .int .i64 e]) ∧ Below w.heap.size w w' := by
  have := all_sl b0 b1 s0 s1 c l dn v ws w hfit hv hg
  rw [hr] at this
  exact this
theorem rall_r {b0 b1 : ByteArray} {s0 s1 c l : Int} {dn : Bool} {v : Value} {ws : List Wr} (w : World) {z0 z1 : ByteArray} {r0 r1 zc zl e : Int} {zd : Bool} {k : Nat} (hfit : Dk.fit ⟨⟨b0, s0⟩, ⟨b1, s1⟩, c, l, dn⟩) (hv : SlOf w v ws) (hg : ¬ GreatW ws)
    (hr : allF ⟨⟨b0, s0⟩, ⟨b1, s1⟩, c, l, dn⟩ ws 0 = (⟨⟨z0, r0⟩, ⟨z1, r1⟩, zc, zl, zd⟩, k, e)) :
    Calls Try.prog 24 #[.agg #[.string b0, .int .i64 s0, .string b1, .int .i64 s1, .int .i64 c, .int .i64 l, .bool dn], v] w fun en w' => en = .returned (.tuple #[.agg #[.string z0, .int .i64 r0, .string z1, .int .i64 r1, .int .i64 zc, .int .i64 zl, .bool zd], .int .i64 k, .int .i64 e]) ∧ Below w.heap.size w w' := by
  have := rall_sl b0 b1 s0 s1 c l dn v ws w hfit hv hg
  rw [hr] at this
  exact this
set_option maxHeartbeats 800000 in
theorem pl_g1 (b0 b1 : ByteArray) (s0 s1 c l : Int) (dn : Bool) (v : Value) (ws : List Wr) (W : World) (hfit : Dk.fit ⟨⟨b0, s0⟩, ⟨b1, s1⟩, c, l, dn⟩) (hv : SlOf W v ws) (hs : ∀ x ∈ ws, x.b.size ≤ maxLen) (hg : 262144 < b0.size ∨ 262144 < b1.size) :
    Calls Try.prog 4 #[.agg #[.string b0, .int .i64 s0, .string b1, .int .i64 s1, .int .i64 c, .int .i64 l, .bool dn], v] W (RetB true W) := by
  obtain ⟨fa, fb, fc⟩ := id hfit
  have Hf := Lib.hid hfit; clear hfit
  have Hv := Lib.hid hv; clear hv
  have Hs := Lib.hid hs; clear hs
  have Hg := Lib.hid hg; clear hg
  go_enter Try.func4, Try.ntmps4
  go_wp2_with fail
  refine (great_yes _ _ _ _ _ _ _ _ fa fb Hg.out).mono ?_
  rintro en w1 ⟨rfl, hw1⟩
  have zhw1 := hw1.size
  try simp at zhw1
  go_wp2_with fail
  refine (wakes_any _).mono ?_
  rintro en wz ⟨rfl, hbz⟩
  have zz := hbz.size
  try simp at zz
  go_wp2_with fail
  go_ret
  refine ⟨rfl, ?_⟩
  repeat' (first | (with_reducible exact Below.refl _ _) | (with_reducible assumption) | (with_reducible refine below_call ?_ (by with_reducible assumption)) | (with_reducible refine below_draws ?_ _) | (with_reducible refine Below.drew ?_) | (with_reducible refine Below.alloc ?_ ?_ _) | (with_reducible refine Below.setCell ?_ ?_ _) | omega | (simp; done) | (simp; omega))
set_option maxHeartbeats 800000 in
theorem pl_g2 (b0 b1 : ByteArray) (s0 s1 c l : Int) (dn : Bool) (v : Value) (ws : List Wr) (W : World) (hfit : Dk.fit ⟨⟨b0, s0⟩, ⟨b1, s1⟩, c, l, dn⟩) (hv : SlOf W v ws) (hs : ∀ x ∈ ws, x.b.size ≤ maxLen) (hg : ¬ (262144 < b0.size ∨ 262144 < b1.size)) (hg2 : GreatW ws) :
    Calls Try.prog 4 #[.agg #[.string b0, .int .i64 s0, .string b1, .int .i64 s1, .int .i64 c, .int .i64 l, .bool dn], v] W (RetB true W) := by
  obtain ⟨fa, fb, fc⟩ := id hfit
  have Hf := Lib.hid hfit; clear hfit
  have Hv := Lib.hid hv; clear hv
  have Hs := Lib.hid hs; clear hs
  have Hg := Lib.hid hg; clear hg
  have Hg2 := Lib.hid hg2; clear hg2
  go_enter Try.func4, Try.ntmps4
  go_wp2_with fail
  refine (great_no _ _ _ _ _ _ _ _ fa fb Hg.out).mono ?_
  rintro en w1 ⟨rfl, hw1⟩
  have zhw1 := hw1.size
  try simp at zhw1
  have kd : Blk w1 W.heap.size #[.string b0, .int .i64 s0, .string b1, .int .i64 s1, .int .i64 c, .int .i64 l, .bool dn] 26 := by repeat' (first | (with_reducible assumption) | (with_reducible exact Blk.new _ _ _) | ((with_reducible refine Blk.new' _ _ _ ?_); simp; done) | (with_reducible refine Blk.alloc ?_ _) | (with_reducible refine Blk.drew ?_) | (with_reducible refine Blk.drewN ?_ _) | (with_reducible apply Blk.set) | (with_reducible refine Blk.set' ?_ ?_) | (with_reducible refine Blk.below ?_ (by with_reducible assumption)) | (show @Eq (Array Value) _ _; rfl) | (simp; done) | (simp; omega))
  have cd := kd.cell; have fd := kd.froz; have qd := kd.lt
  go_wp2_with fail
  refine (greatw_yes _ ws _ (Hv.out.below (by repeat' (first | (with_reducible exact Below.refl _ _) | (with_reducible assumption) | (with_reducible refine below_call ?_ (by with_reducible assumption)) | (with_reducible refine below_draws ?_ _) | (with_reducible refine Below.drew ?_) | (with_reducible refine Below.alloc ?_ ?_ _) | (with_reducible refine Below.setCell ?_ ?_ _) | omega | (simp; done) | (simp; omega)))) Hs.out Hg2.out).mono ?_
  rintro en w2 ⟨rfl, hw2⟩
  have zhw2 := hw2.size
  try simp at zhw2
  go_wp2_with fail
  refine (wakes_any _).mono ?_
  rintro en wz ⟨rfl, hbz⟩
  have zz := hbz.size
  try simp at zz
  go_wp2_with fail
  go_ret
  refine ⟨rfl, ?_⟩
  repeat' (first | (with_reducible exact Below.refl _ _) | (with_reducible assumption) | (with_reducible refine below_call ?_ (by with_reducible assumption)) | (with_reducible refine below_draws ?_ _) | (with_reducible refine Below.drew ?_) | (with_reducible refine Below.alloc ?_ ?_ _) | (with_reducible refine Below.setCell ?_ ?_ _) | omega | (simp; done) | (simp; omega))
set_option maxHeartbeats 1600000 in
theorem pl_ok (b0 b1 : ByteArray) (s0 s1 c l : Int) (dn : Bool) (v : Value) (ws : List Wr) (W : World) (hfit : Dk.fit ⟨⟨b0, s0⟩, ⟨b1, s1⟩, c, l, dn⟩) (hv : SlOf W v ws) (hs : ∀ x ∈ ws, x.b.size ≤ maxLen) (hg : ¬ (262144 < b0.size ∨ 262144 < b1.size)) (hg2 : ¬ GreatW ws) (z0 z1 : ByteArray) (r0 r1 zc zl e : Int) (zd : Bool) (k : Nat) (hr : allF ⟨⟨b0, s0⟩, ⟨b1, s1⟩, c, l, dn⟩ ws 0 = (⟨⟨z0, r0⟩, ⟨z1, r1⟩, zc, zl, zd⟩, k, e)) :
    Calls Try.prog 4 #[.agg #[.string b0, .int .i64 s0, .string b1, .int .i64 s1, .int .i64 c, .int .i64 l, .bool dn], v] W (RetB true W) := by
  obtain ⟨fa, fb, fc⟩ := id hfit
  have Hf := Lib.hid hfit; clear hfit
  have Hv := Lib.hid hv; clear hv
  have Hs := Lib.hid hs; clear hs
  have Hg := Lib.hid hg; clear hg
  have Hg2 := Lib.hid hg2; clear hg2
  have Hr := Lib.hid hr; clear hr
  have sbz := sameB_self z0 r0 z1 r1 zc zl zd
  go_enter Try.func4, Try.ntmps4
  go_wp2_with fail
  refine (great_no _ _ _ _ _ _ _ _ fa fb Hg.out).mono ?_
  rintro en w1 ⟨rfl, hw1⟩
  have zhw1 := hw1.size
  try simp at zhw1
  have kd : Blk w1 W.heap.size #[.string b0, .int .i64 s0, .string b1, .int .i64 s1, .int .i64 c, .int .i64 l, .bool dn] 26 := by repeat' (first | (with_reducible assumption) | (with_reducible exact Blk.new _ _ _) | ((with_reducible refine Blk.new' _ _ _ ?_); simp; done) | (with_reducible refine Blk.alloc ?_ _) | (with_reducible refine Blk.drew ?_) | (with_reducible refine Blk.drewN ?_ _) | (with_reducible apply Blk.set) | (with_reducible refine Blk.set' ?_ ?_) | (with_reducible refine Blk.below ?_ (by with_reducible assumption)) | (show @Eq (Array Value) _ _; rfl) | (simp; done) | (simp; omega))
  have cd := kd.cell; have fd := kd.froz; have qd := kd.lt
  go_wp2_with fail
  refine (greatw_no _ ws _ (Hv.out.below (by repeat' (first | (with_reducible exact Below.refl _ _) | (with_reducible assumption) | (with_reducible refine below_call ?_ (by with_reducible assumption)) | (with_reducible refine below_draws ?_ _) | (with_reducible refine Below.drew ?_) | (with_reducible refine Below.alloc ?_ ?_ _) | (with_reducible refine Below.setCell ?_ ?_ _) | omega | (simp; done) | (simp; omega)))) Hs.out Hg2.out).mono ?_
  rintro en w2 ⟨rfl, hw2⟩
  have zhw2 := hw2.size
  try simp at zhw2
  clear cd fd qd
  have kd : Blk w2 W.heap.size #[.string b0, .int .i64 s0, .string b1, .int .i64 s1, .int .i64 c, .int .i64 l, .bool dn] 26 := by repeat' (first | (with_reducible assumption) | (with_reducible exact Blk.new _ _ _) | ((with_reducible refine Blk.new' _ _ _ ?_); simp; done) | (with_reducible refine Blk.alloc ?_ _) | (with_reducible refine Blk.drew ?_) | (with_reducible refine Blk.drewN ?_ _) | (with_reducible apply Blk.set) | (with_reducible refine Blk.set' ?_ ?_) | (with_reducible refine Blk.below ?_ (by with_reducible assumption)) | (show @Eq (Array Value) _ _; rfl) | (simp; done) | (simp; omega))
  have cd := kd.cell; have fd := kd.froz; have qd := kd.lt
  go_wp2_with fail
  refine (all_r _ Hf.out (Hv.out.below (by repeat' (first | (with_reducible exact Below.refl _ _) | (with_reducible assumption) | (with_reducible refine below_call ?_ (by with_reducible assumption)) | (with_reducible refine below_draws ?_ _) | (with_reducible refine Below.drew ?_) | (with_reducible refine Below.alloc ?_ ?_ _) | (with_reducible refine Below.setCell ?_ ?_ _) | omega | (simp; done) | (simp; omega)))) Hg2.out Hr.out).mono ?_
  rintro en w3 ⟨rfl, hw3⟩
  have zhw3 := hw3.size
  try simp at zhw3
  clear cd fd qd
  have kd : Blk w3 W.heap.size #[.string b0, .int .i64 s0, .string b1, .int .i64 s1, .int .i64 c, .int .i64 l, .bool dn] 26 := by repeat' (first | (with_reducible assumption) | (with_reducible exact Blk.new _ _ _) | ((with_reducible refine Blk.new' _ _ _ ?_); simp; done) | (with_reducible refine Blk.alloc ?_ _) | (with_reducible refine Blk.drew ?_) | (with_reducible refine Blk.drewN ?_ _) | (with_reducible apply Blk.set) | (with_reducible refine Blk.set' ?_ ?_) | (with_reducible refine Blk.below ?_ (by with_reducible assumption)) | (show @Eq (Array Value) _ _; rfl) | (simp; done) | (simp; omega))
  have cd := kd.cell; have fd := kd.froz; have qd := kd.lt
  go_wp2_with fail
  refine (rall_r _ Hf.out (Hv.out.below (by repeat' (first | (with_reducible exact Below.refl _ _) | (with_reducible assumption) | (with_reducible refine below_call ?_ (by with_reducible assumption)) | (with_reducible refine below_draws ?_ _) | (with_reducible refine Below.drew ?_) | (with_reducible refine Below.alloc ?_ ?_ _) | (with_reducible refine Below.setCell ?_ ?_ _) | omega | (simp; done) | (simp; omega)))) Hg2.out Hr.out).mono ?_
  rintro en w4 ⟨rfl, hw4⟩
  have zhw4 := hw4.size
  try simp at zhw4
  clear cd fd qd
  have kd : Blk w4 W.heap.size #[.string b0, .int .i64 s0, .string b1, .int .i64 s1, .int .i64 c, .int .i64 l, .bool dn] 26 := by repeat' (first | (with_reducible assumption) | (with_reducible exact Blk.new _ _ _) | ((with_reducible refine Blk.new' _ _ _ ?_); simp; done) | (with_reducible refine Blk.alloc ?_ _) | (with_reducible refine Blk.drew ?_) | (with_reducible refine Blk.drewN ?_ _) | (with_reducible apply Blk.set) | (with_reducible refine Blk.set' ?_ ?_) | (with_reducible refine Blk.below ?_ (by with_reducible assumption)) | (show @Eq (Array Value) _ _; rfl) | (simp; done) | (simp; omega))
  have kx : Blk w4 w3.heap.size #[.string z0, .int .i64 r0, .string z1, .int .i64 r1, .int .i64 zc, .int .i64 zl, .bool zd] 26 := by repeat' (first | (with_reducible assumption) | (with_reducible exact Blk.new _ _ _) | ((with_reducible refine Blk.new' _ _ _ ?_); simp; done) | (with_reducible refine Blk.alloc ?_ _) | (with_reducible refine Blk.drew ?_) | (with_reducible refine Blk.drewN ?_ _) | (with_reducible apply Blk.set) | (with_reducible refine Blk.set' ?_ ?_) | (with_reducible refine Blk.below ?_ (by with_reducible assumption)) | (show @Eq (Array Value) _ _; rfl) | (simp; done) | (simp; omega))
  have cd := kd.cell; have fd := kd.froz; have qd := kd.lt; have cx := kx.cell; have fx := kx.froz; have qx := kx.lt
  go_wp2_with fail
  refine (rsame_b _ _ _ _ _ _ _ _ _ _ _ _ _ _ _).mono ?_
  rintro en w5 ⟨rfl, hw5⟩
  have zhw5 := hw5.size
  try simp at zhw5
  go_wp2_with fail
  refine (wakes_any _).mono ?_
  rintro en wz ⟨rfl, hbz⟩
  have zz := hbz.size
  try simp at zz
  go_wp2_with fail
  go_ret
  refine ⟨rfl, ?_⟩
  repeat' (first | (with_reducible exact Below.refl _ _) | (with_reducible assumption) | (with_reducible refine below_call ?_ (by with_reducible assumption)) | (with_reducible refine below_draws ?_ _) | (with_reducible refine Below.drew ?_) | (with_reducible refine Below.alloc ?_ ?_ _) | (with_reducible refine Below.setCell ?_ ?_ _) | omega | (simp; done) | (simp; omega))
open Go.ChangeShapes Go.WideShapes Go.ChangeAt
theorem plays_walk (b0 b1 : ByteArray) (s0 s1 c l : Int) (dn : Bool) (v : Value) (ws : List Wr) (W : World) (hfit : Dk.fit ⟨⟨b0, s0⟩, ⟨b1, s1⟩, c, l, dn⟩) (hv : SlOf W v ws) (hs : ∀ x ∈ ws, x.b.size ≤ maxLen) : Calls Try.prog 4 #[.agg #[.string b0, .int .i64 s0, .string b1, .int .i64 s1, .int .i64 c, .int .i64 l, .bool dn], v] W (RetB true W) := by
  by_cases hg : 262144 < b0.size ∨ 262144 < b1.size
  · exact pl_g1 b0 b1 s0 s1 c l dn v ws W hfit hv hs hg
  by_cases hg2 : GreatW ws
  · exact pl_g2 b0 b1 s0 s1 c l dn v ws W hfit hv hs hg hg2
  obtain ⟨⟨⟨⟨z0, r0⟩, ⟨z1, r1⟩, zc, zl, zd⟩, k, e⟩, hr⟩ : ∃ r, allF ⟨⟨b0, s0⟩, ⟨b1, s1⟩, c, l, dn⟩ ws 0 = r := ⟨_, rfl⟩
  exact pl_ok b0 b1 s0 s1 c l dn v ws W hfit hv hs hg hg2 z0 z1 r0 r1 zc zl e zd k hr

set_option maxRecDepth 100000 in
theorem diskPlays_lifted (os : Os) (started : os.Started) (H : Type) (enc : TypeId × Value → H) :
    ReturnsInHanded {} Try.checked os 4 .any (Rows.diskPlaysSpec.pre6 enc Try.prog Try.f4 Rows.diskPlaysRow.domain false) (Rows.diskPlaysSpec.post enc Try.prog Try.f4 false true false false) := by
  refine returnsInHanded_of_change (C := Try.checked) own started (by kernel_rfl) Try.func4
    (ChangeSpec.witness6 (enc := enc) (C := Try.checked) false ⟨#[], #[.agg #[.string ⟨#[]⟩, .int .i64 0, .string ⟨#[]⟩, .int .i64 0, .int .i64 0, .int .i64 0, .bool false], .slice none 0 0], []⟩ 8 (by kernel_rfl) (by kernel_rfl) (by kernel_rfl) (by kernel_rfl)) ?_
  intro W base args ds gs before hval0 hW hcnd _
  have hval : ∀ (j : Nat) t v, Try.f4.params[j]? = some t → args[j]? = some v → Value.okWide Try.prog W .any base t v := hval0
  have hW' := hW
  obtain ⟨p, q, hA0, hV, rfl, hfz, hnd⟩ := hW
  have hA : DataW.TrodAll enc Try.prog W 0 (fun _ => true) true Try.f4.params.toList args.toList ds p := hA0
  rw [Try.params4] at hA hval
  obtain ⟨v0, vs0, d0, ds0, p0, q0, hargs, rfl, rfl, h0, r0⟩ := trodAll_cons hA
  obtain ⟨v1, vs1, d1, ds1, p1, q1, rfl, rfl, rfl, h1, r1⟩ := trodAll_cons r0
  obtain ⟨rfl, rfl, rfl⟩ := trodAll_nil r1
  obtain rfl : args = #[v0, v1] := by cases args; simp_all
  obtain ⟨rfl, rfl⟩ := trodVars_none hV
  obtain ⟨b0, s0, b1, s1, c, l, dn, rfl, hfit⟩ := open_disk (hval 0 26 v0 rfl rfl) h0
  obtain ⟨ws, hv, hs⟩ := open_writes (hval 1 32 v1 rfl rfl) h1
  refine (plays_walk b0 b1 s0 s1 c l dn v1 ws W hfit hv hs).mono fun e W' ⟨he, hb⟩ => ⟨_, he, ?_⟩
  exact law_post rfl (by kernel_rfl) (by
    intro t ht
    have : t ∈ [26, 32] := by rw [Try.params4] at ht; exact ht
    simp only [List.mem_cons, List.not_mem_nil, or_false] at this
    rcases this with rfl | rfl <;> exact ⟨by kernel_rfl, of_decide_eq_true (by kernel_rfl)⟩) hW' rfl hb
theorem diskPlays_over : Rows.diskPlaysRow.holds Try.pinned (OpenSpec.ofChange Rows.diskPlaysSpec) :=
  OpenClaim.holds_of_wide 4 Try.f4 rfl rfl rfl rfl rfl rfl rfl ⟨rfl, rfl, rfl, rfl, rfl⟩ rfl rfl rfl rfl rfl (by kernel_rfl) Try.func4 (by kernel_rfl)
    (of_decide_eq_true (by kernel_rfl)) (by unfold Func.isWrapper; first | (rw [if_pos (by decide +kernel)]; kernel_rfl) | (rw [if_neg (by decide +kernel)]; exact ⟨rfl, rfl⟩))
    (fun os started H enc _ => diskPlays_lifted os started H enc)
theorem diskPlays_proved : Rows.DiskPlaysSaid := diskPlays_over
end Go.Proofs.Ytjgbnagacbiolaa
