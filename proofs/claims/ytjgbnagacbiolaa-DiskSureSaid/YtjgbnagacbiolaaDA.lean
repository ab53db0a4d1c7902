import Derived.Test.YtjgbnagacbiolaaJ
namespace Go.Proofs.Ytjgbnagacbiolaa
open Go.RowKit
set_option linter.unusedVariables false
set_option linter.unusedSimpArgs false
theorem doF_mk {x : Dk} {op zn n : Int} {b : ByteArray} (hok : x.ok = true) (hw : wrP x.z0.b.size x.z1.b.size op zn b.size n) (hd : x.d = false) (hl : x.l ≠ 0)
    (hf : ¬ ((zn = 0 ∧ x.c - x.z0.b.size < b.size) ∨ (zn = 1 ∧ x.c - x.z1.b.size < b.size))) :
    doF x op zn b n = (if zn = 0 then ⟨behF x.z0.b x.z0.s op b n, x.z1, x.c, if 0 < x.l then x.l - 1 else x.l, x.d⟩ else ⟨x.z0, behF x.z1.b x.z1.s op b n, x.c, if 0 < x.l then x.l - 1 else x.l, x.d⟩, 0) := by
  unfold doF
  rw [if_neg (by simp [hok]), if_neg (by simpa using hw), if_neg (by simp [hd]), if_neg hl, if_neg hf]
  split <;> rfl
theorem apart01 {d a b : Dk} {vo vn uo un : Int} {vb ub : ByteArray} (hl : d.l < 0) (ha : doF d vo 0 vb vn = (a, 0)) (hb : doF d uo 1 ub un = (b, 0)) :
    ∃ x, doF a uo 1 ub un = (x, 0) ∧ doF b vo 0 vb vn = (x, 0) := by
  obtain ⟨a1, a2, a3, a4, a5, a6⟩ := doF_zero ha
  obtain ⟨b1, b2, b3, b4, b5, b6⟩ := doF_zero hb
  have oka := (doF_ok ha).1
  have okb := (doF_ok hb).1
  have e1 : a = ⟨behF d.z0.b d.z0.s vo vb vn, d.z1, d.c, if 0 < d.l then d.l - 1 else d.l, d.d⟩ := by
    rcases a6 with h | h
    · exact h.2
    · exact absurd h.1 (by decide)
  have e2 : b = ⟨d.z0, behF d.z1.b d.z1.s uo ub un, d.c, if 0 < d.l then d.l - 1 else d.l, d.d⟩ := by
    rcases b6 with h | h
    · exact absurd h.1 (by decide)
    · exact h.2
  have hll : (if 0 < d.l then d.l - 1 else d.l) = d.l := if_neg (by omega)
  rw [hll] at e1 e2
  subst e1
  subst e2
  unfold wrP at a2 b2
  refine ⟨⟨behF d.z0.b d.z0.s vo vb vn, behF d.z1.b d.z1.s uo ub un, d.c, d.l, d.d⟩, ?_, ?_⟩
  · rw [doF_mk oka (show wrP (behF d.z0.b d.z0.s vo vb vn).b.size d.z1.b.size uo 1 ub.size un by unfold wrP; omega) a3 a4 (show ¬ (((1 : Int) = 0 ∧ d.c - ((behF d.z0.b d.z0.s vo vb vn).b.size : Int) < ub.size) ∨ ((1 : Int) = 1 ∧ d.c - (d.z1.b.size : Int) < ub.size)) by omega)]
    rw [if_neg (by decide)]
    simp only [hll]
  · rw [doF_mk okb (show wrP d.z0.b.size (behF d.z1.b d.z1.s uo ub un).b.size vo 0 vb.size vn by unfold wrP; omega) a3 a4 (show ¬ (((0 : Int) = 0 ∧ d.c - (d.z0.b.size : Int) < vb.size) ∨ ((0 : Int) = 1 ∧ d.c - ((behF d.z1.b d.z1.s uo ub un).b.size : Int) < vb.size)) by omega)]
    rw [if_pos rfl]
    simp only [hll]
theorem apart {d a b : Dk} {vo vz vn uo uz un : Int} {vb ub : ByteArray} (hz : vz ≠ uz) (hl : d.l < 0) (ha : doF d vo vz vb vn = (a, 0)) (hb : doF d uo uz ub un = (b, 0)) :
    ∃ x, doF a uo uz ub un = (x, 0) ∧ doF b vo vz vb vn = (x, 0) := by
  have h1 := (doF_zero ha).2.1.1
  have h2 := (doF_zero hb).2.1.1
  by_cases h : vz = 0
  · subst h
    obtain rfl : uz = 1 := by omega
    exact apart01 hl ha hb
  · obtain rfl : vz = 1 := by omega
    obtain rfl : uz = 0 := by omega
    obtain ⟨x, p, q⟩ := apart01 hl hb ha
    exact ⟨x, q, p⟩
theorem great_yes (b0 b1 : ByteArray) (s0 s1 c l : Int) (d : Bool) (w : World) (h0 : b0.size ≤ maxLen) (h1 : b1.size ≤ maxLen) (h : 262144 < b0.size ∨ 262144 < b1.size) :
    Calls Try.prog 8 #[.agg #[.string b0, .int .i64 s0, .string b1, .int .i64 s1, .int .i64 c, .int .i64 l, .bool d]] w (RetB true w) :=
  (great_any b0 b1 s0 s1 c l d w h0 h1).mono fun e w' ⟨p, he, hp, hb⟩ => ⟨by rw [he, hp.2 h], hb⟩
theorem great_no (b0 b1 : ByteArray) (s0 s1 c l : Int) (d : Bool) (w : World) (h0 : b0.size ≤ maxLen) (h1 : b1.size ≤ maxLen) (h : ¬ (262144 < b0.size ∨ 262144 < b1.size)) :
    Calls Try.prog 8 #[.agg #[.string b0, .int .i64 s0, .string b1, .int .i64 s1, .int .i64 c, .int .i64 l, .bool d]] w (RetB false w) :=
  (great_any b0 b1 s0 s1 c l d w h0 h1).mono fun e w' ⟨p, he, hp, hb⟩ => ⟨by rw [he, Bool.eq_false_iff.2 (fun hh => h (hp.1 hh))], hb⟩
/-- GreatWrites of two operations that lie in a block. -/
theorem gw2 {w : World} {g : Nat} {vo vz vn uo uz un : Int} {vb ub : ByteArray} (h : Blk w g #[.int .i8 vo, .int .i64 vz, .string vb, .int .i64 vn, .int .i8 uo, .int .i64 uz, .string ub, .int .i64 un] 29) (hv : vb.size ≤ maxLen) (hu : ub.size ≤ maxLen) :
    Calls Try.prog 9 #[.slice (some ⟨g, 0, none⟩) 2 2] w (RetP (4096 < vb.size ∨ 4096 < ub.size) w) := by
  have hw : WrAt w g 0 [⟨vo, vz, vb, vn⟩, ⟨uo, uz, ub, un⟩] := by
    intro i hi
    simp only [h.cell]
    have : i < 2 := hi
    match i, this with
    | 0, _ => exact ⟨rfl, rfl, rfl, rfl⟩
    | 1, _ => exact ⟨rfl, rfl, rfl, rfl⟩
  refine (greatw_slice g 0 2 [⟨vo, vz, vb, vn⟩, ⟨uo, uz, ub, un⟩] w hw (Nat.le_refl 2) (by unfold maxLen; decide) (by intro x hx; simp at hx; rcases hx with rfl | rfl <;> assumption)).mono fun e w' ⟨p, he, hp, hb⟩ => ⟨p, he, ?_, hb⟩
  rw [hp]; simp [GreatW]
theorem gw2_yes {w : World} {g : Nat} {vo vz vn uo uz un : Int} {vb ub : ByteArray} (h : Blk w g #[.int .i8 vo, .int .i64 vz, .string vb, .int .i64 vn, .int .i8 uo, .int .i64 uz, .string ub, .int .i64 un] 29) (hv : vb.size ≤ maxLen) (hu : ub.size ≤ maxLen) (hg : 4096 < vb.size ∨ 4096 < ub.size) :
    Calls Try.prog 9 #[.slice (some ⟨g, 0, none⟩) 2 2] w (RetB true w) := (gw2 h hv hu).mono fun e w' ⟨p, he, hp, hb⟩ => ⟨by rw [he, hp.2 hg], hb⟩
theorem gw2_no {w : World} {g : Nat} {vo vz vn uo uz un : Int} {vb ub : ByteArray} (h : Blk w g #[.int .i8 vo, .int .i64 vz, .string vb, .int .i64 vn, .int .i8 uo, .int .i64 uz, .string ub, .int .i64 un] 29) (hv : vb.size ≤ maxLen) (hu : ub.size ≤ maxLen) (hg : ¬ (4096 < vb.size ∨ 4096 < ub.size)) :
    Calls Try.prog 9 #[.slice (some ⟨g, 0, none⟩) 2 2] w (RetB false w) := (gw2 h hv hu).mono fun e w' ⟨p, he, hp, hb⟩ => ⟨by rw [he, Bool.eq_false_iff.2 (fun hh => hg (hp.1 hh))], hb⟩
theorem same_yes (b0 b1 : ByteArray) (s0 s1 c l : Int) (d : Bool) (w : World) :
    Calls Try.prog 22 #[.agg #[.string b0, .int .i64 s0, .string b1, .int .i64 s1, .int .i64 c, .int .i64 l, .bool d], .agg #[.string b0, .int .i64 s0, .string b1, .int .i64 s1, .int .i64 c, .int .i64 l, .bool d]] w (RetB true w) :=
  (same_any b0 b1 b0 b1 s0 s1 s0 s1 c l c l d d w).mono fun e w' ⟨p, he, hp, hb⟩ => ⟨by rw [he, hp.2 ⟨rfl, rfl, rfl, rfl, rfl, rfl, rfl⟩], hb⟩
set_option maxHeartbeats 800000 in
theorem ap_great (b0 b1 vb ub : ByteArray) (s0 s1 c l vo vz vn uo uz un : Int) (dn : Bool) (W : World) (hfit : Dk.fit ⟨⟨b0, s0⟩, ⟨b1, s1⟩, c, l, dn⟩) (hvb : vb.size ≤ maxLen) (hub : ub.size ≤ maxLen) (hg : 262144 < b0.size ∨ 262144 < b1.size) :
    Calls Try.prog 6 #[.agg #[.string b0, .int .i64 s0, .string b1, .int .i64 s1, .int .i64 c, .int .i64 l, .bool dn], .agg #[.int .i8 vo, .int .i64 vz, .string vb, .int .i64 vn], .agg #[.int .i8 uo, .int .i64 uz, .string ub, .int .i64 un]] W (RetB true W) := by
  obtain ⟨fa, fb, fc⟩ := hfit
  have Hg := Lib.hid hg; clear hg
  go_enter Try.func6, Try.ntmps6
  go_wp2_with fail
  refine (great_yes _ _ _ _ _ _ _ _ fa fb Hg.out).mono ?_
  rintro en w1 ⟨rfl, hw1⟩
  have zhw1 := hw1.size
  try simp at zhw1
  go_wp2_with fail
  refine (wakes_any _).mono ?_
  rintro en wz ⟨rfl, hbz⟩
  have zz := hbz.size
  try simp at zz
  go_wp2_with fail
  go_ret
  refine ⟨rfl, ?_⟩
  repeat' (first | (with_reducible exact Below.refl _ _) | (with_reducible assumption) | (with_reducible refine below_call ?_ (by with_reducible assumption)) | (with_reducible refine below_draws ?_ _) | (with_reducible refine Below.drew ?_) | (with_reducible refine Below.alloc ?_ ?_ _) | (with_reducible refine Below.setCell ?_ ?_ _) | omega | (simp; done) | (simp; omega))
set_option maxHeartbeats 800000 in
theorem ap_gw (b0 b1 vb ub : ByteArray) (s0 s1 c l vo vz vn uo uz un : Int) (dn : Bool) (W : World) (hfit : Dk.fit ⟨⟨b0, s0⟩, ⟨b1, s1⟩, c, l, dn⟩) (hvb : vb.size ≤ maxLen) (hub : ub.size ≤ maxLen) (hg : ¬ (262144 < b0.size ∨ 262144 < b1.size)) (hg2 : 4096 < vb.size ∨ 4096 < ub.size) :
    Calls Try.prog 6 #[.agg #[.string b0, .int .i64 s0, .string b1, .int .i64 s1, .int .i64 c, .int .i64 l, .bool dn], .agg #[.int .i8 vo, .int .i64 vz, .string vb, .int .i64 vn], .agg #[.int .i8 uo, .int .i64 uz, .string ub, .int .i64 un]] W (RetB true W) := by
  obtain ⟨fa, fb, fc⟩ := hfit
  have Hg := Lib.hid hg; clear hg
  have Hg2 := Lib.hid hg2; clear hg2
  go_enter Try.func6, Try.ntmps6
  go_wp2_with fail
  refine (great_no _ _ _ _ _ _ _ _ fa fb Hg.out).mono ?_
  rintro en w1 ⟨rfl, hw1⟩
  have zhw1 := hw1.size
  try simp at zhw1
  have kd : Blk w1 W.heap.size #[.string b0, .int .i64 s0, .string b1, .int .i64 s1, .int .i64 c, .int .i64 l, .bool dn] 26 := by repeat' (first | (with_reducible assumption) | (with_reducible exact Blk.new _ _ _) | ((with_reducible refine Blk.new' _ _ _ ?_); simp; done) | (with_reducible refine Blk.alloc ?_ _) | (with_reducible refine Blk.drew ?_) | (with_reducible refine Blk.drewN ?_ _) | (with_reducible apply Blk.set) | (with_reducible refine Blk.set' ?_ ?_) | (with_reducible refine Blk.below ?_ (by with_reducible assumption)) | (show @Eq (Array Value) _ _; rfl) | (simp; done) | (simp; omega))
  have kv : Blk w1 (W.heap.size + 1) #[.int .i8 vo, .int .i64 vz, .string vb, .int .i64 vn] 29 := by repeat' (first | (with_reducible assumption) | (with_reducible exact Blk.new _ _ _) | ((with_reducible refine Blk.new' _ _ _ ?_); simp; done) | (with_reducible refine Blk.alloc ?_ _) | (with_reducible refine Blk.drew ?_) | (with_reducible refine Blk.drewN ?_ _) | (with_reducible apply Blk.set) | (with_reducible refine Blk.set' ?_ ?_) | (with_reducible refine Blk.below ?_ (by with_reducible assumption)) | (show @Eq (Array Value) _ _; rfl) | (simp; done) | (simp; omega))
  have ku : Blk w1 (W.heap.size + 1 + 1) #[.int .i8 uo, .int .i64 uz, .string ub, .int .i64 un] 29 := by repeat' (first | (with_reducible assumption) | (with_reducible exact Blk.new _ _ _) | ((with_reducible refine Blk.new' _ _ _ ?_); simp; done) | (with_reducible refine Blk.alloc ?_ _) | (with_reducible refine Blk.drew ?_) | (with_reducible refine Blk.drewN ?_ _) | (with_reducible apply Blk.set) | (with_reducible refine Blk.set' ?_ ?_) | (with_reducible refine Blk.below ?_ (by with_reducible assumption)) | (show @Eq (Array Value) _ _; rfl) | (simp; done) | (simp; omega))
  have cd := kd.cell; have fd := kd.froz; have qd := kd.lt; have cv := kv.cell; have fv := kv.froz; have qv := kv.lt; have cu := ku.cell; have fu := ku.froz; have qu := ku.lt
  go_wp2_with fail
  refine (gw2_yes (Blk.new _ _ _) hvb hub Hg2.out).mono ?_
  rintro en w2 ⟨rfl, hw2⟩
  have zhw2 := hw2.size
  try simp at zhw2
  go_wp2_with fail
  refine (wakes_any _).mono ?_
  rintro en wz ⟨rfl, hbz⟩
  have zz := hbz.size
  try simp at zz
  go_wp2_with fail
  go_ret
  refine ⟨rfl, ?_⟩
  repeat' (first | (with_reducible exact Below.refl _ _) | (with_reducible assumption) | (with_reducible refine below_call ?_ (by with_reducible assumption)) | (with_reducible refine below_draws ?_ _) | (with_reducible refine Below.drew ?_) | (with_reducible refine Below.alloc ?_ ?_ _) | (with_reducible refine Below.setCell ?_ ?_ _) | omega | (simp; done) | (simp; omega))
set_option maxHeartbeats 800000 in
theorem ap_eq (b0 b1 vb ub : ByteArray) (s0 s1 c l vo vz vn uo uz un : Int) (dn : Bool) (W : World) (hfit : Dk.fit ⟨⟨b0, s0⟩, ⟨b1, s1⟩, c, l, dn⟩) (hvb : vb.size ≤ maxLen) (hub : ub.size ≤ maxLen) (hg : ¬ (262144 < b0.size ∨ 262144 < b1.size)) (hg2 : ¬ (4096 < vb.size ∨ 4096 < ub.size)) (hz : vz = uz) :
    Calls Try.prog 6 #[.agg #[.string b0, .int .i64 s0, .string b1, .int .i64 s1, .int .i64 c, .int .i64 l, .bool dn], .agg #[.int .i8 vo, .int .i64 vz, .string vb, .int .i64 vn], .agg #[.int .i8 uo, .int .i64 uz, .string ub, .int .i64 un]] W (RetB true W) := by
  obtain ⟨fa, fb, fc⟩ := hfit
  have Hg := Lib.hid hg; clear hg
  have Hg2 := Lib.hid hg2; clear hg2
  subst hz
  go_enter Try.func6, Try.ntmps6
  go_wp2_with fail
  refine (great_no _ _ _ _ _ _ _ _ fa fb Hg.out).mono ?_
  rintro en w1 ⟨rfl, hw1⟩
  have zhw1 := hw1.size
  try simp at zhw1
  have kd : Blk w1 W.heap.size #[.string b0, .int .i64 s0, .string b1, .int .i64 s1, .int .i64 c, .int .i64 l, .bool dn] 26 := by repeat' (first | (with_reducible assumption) | (with_reducible exact Blk.new _ _ _) | ((with_reducible refine Blk.new' _ _ _ ?_); simp; done) | (with_reducible refine Blk.alloc ?_ _) | (with_reducible refine Blk.drew ?_) | (with_reducible refine Blk.drewN ?_ _) | (with_reducible apply Blk.set) | (with_reducible refine Blk.set' ?_ ?_) | (with_reducible refine Blk.below ?_ (by with_reducible assumption)) | (show @Eq (Array Value) _ _; rfl) | (simp; done) | (simp; omega))
  have kv : Blk w1 (W.heap.size + 1) #[.int .i8 vo, .int .i64 vz, .string vb, .int .i64 vn] 29 := by repeat' (first | (with_reducible assumption) | (with_reducible exact Blk.new _ _ _) | ((with_reducible refine Blk.new' _ _ _ ?_); simp; done) | (with_reducible refine Blk.alloc ?_ _) | (with_reducible refine Blk.drew ?_) | (with_reducible refine Blk.drewN ?_ _) | (with_reducible apply Blk.set) | (with_reducible refine Blk.set' ?_ ?_) | (with_reducible refine Blk.below ?_ (by with_reducible assumption)) | (show @Eq (Array Value) _ _; rfl) | (simp; done) | (simp; omega))
  have ku : Blk w1 (W.heap.size + 1 + 1) #[.int .i8 uo, .int .i64 vz, .string ub, .int .i64 un] 29 := by repeat' (first | (with_reducible assumption) | (with_reducible exact Blk.new _ _ _) | ((with_reducible refine Blk.new' _ _ _ ?_); simp; done) | (with_reducible refine Blk.alloc ?_ _) | (with_reducible refine Blk.drew ?_) | (with_reducible refine Blk.drewN ?_ _) | (with_reducible apply Blk.set) | (with_reducible refine Blk.set' ?_ ?_) | (with_reducible refine Blk.below ?_ (by with_reducible assumption)) | (show @Eq (Array Value) _ _; rfl) | (simp; done) | (simp; omega))
  have cd := kd.cell; have fd := kd.froz; have qd := kd.lt; have cv := kv.cell; have fv := kv.froz; have qv := kv.lt; have cu := ku.cell; have fu := ku.froz; have qu := ku.lt
  go_wp2_with fail
  refine (gw2_no (Blk.new _ _ _) hvb hub Hg2.out).mono ?_
  rintro en w2 ⟨rfl, hw2⟩
  have zhw2 := hw2.size
  try simp at zhw2
  clear cd fd qd cv fv qv cu fu qu
  have kd : Blk w2 W.heap.size #[.string b0, .int .i64 s0, .string b1, .int .i64 s1, .int .i64 c, .int .i64 l, .bool dn] 26 := by repeat' (first | (with_reducible assumption) | (with_reducible exact Blk.new _ _ _) | ((with_reducible refine Blk.new' _ _ _ ?_); simp; done) | (with_reducible refine Blk.alloc ?_ _) | (with_reducible refine Blk.drew ?_) | (with_reducible refine Blk.drewN ?_ _) | (with_reducible apply Blk.set) | (with_reducible refine Blk.set' ?_ ?_) | (with_reducible refine Blk.below ?_ (by with_reducible assumption)) | (show @Eq (Array Value) _ _; rfl) | (simp; done) | (simp; omega))
  have kv : Blk w2 (W.heap.size + 1) #[.int .i8 vo, .int .i64 vz, .string vb, .int .i64 vn] 29 := by repeat' (first | (with_reducible assumption) | (with_reducible exact Blk.new _ _ _) | ((with_reducible refine Blk.new' _ _ _ ?_); simp; done) | (with_reducible refine Blk.alloc ?_ _) | (with_reducible refine Blk.drew ?_) | (with_reducible refine Blk.drewN ?_ _) | (with_reducible apply Blk.set) | (with_reducible refine Blk.set' ?_ ?_) | (with_reducible refine Blk.below ?_ (by with_reducible assumption)) | (show @Eq (Array Value) _ _; rfl) | (simp; done) | (simp; omega))
  have ku : Blk w2 (W.heap.size + 1 + 1) #[.int .i8 uo, .int .i64 vz, .string ub, .int .i64 un] 29 := by repeat' (first | (with_reducible assumption) | (with_reducible exact Blk.new _ _ _) | ((with_reducible refine Blk.new' _ _ _ ?_); simp; done) | (with_reducible refine Blk.alloc ?_ _) | (with_reducible refine Blk.drew ?_) | (with_reducible refine Blk.drewN ?_ _) | (with_reducible apply Blk.set) | (with_reducible refine Blk.set' ?_ ?_) | (with_reducible refine Blk.below ?_ (by with_reducible assumption)) | (show @Eq (Array Value) _ _; rfl) | (simp; done) | (simp; omega))
  have cd := kd.cell; have fd := kd.froz; have qd := kd.lt; have cv := kv.cell; have fv := kv.froz; have qv := kv.lt; have cu := ku.cell; have fu := ku.froz; have qu := ku.lt
  go_wp2_with fail
  refine (wakes_any _).mono ?_
  rintro en wz ⟨rfl, hbz⟩
  have zz := hbz.size
  try simp at zz
  go_wp2_with fail
  go_ret
  refine ⟨rfl, ?_⟩
  repeat' (first | (with_reducible exact Below.refl _ _) | (with_reducible assumption) | (with_reducible refine below_call ?_ (by with_reducible assumption)) | (with_reducible refine below_draws ?_ _) | (with_reducible refine Below.drew ?_) | (with_reducible refine Below.alloc ?_ ?_ _) | (with_reducible refine Below.setCell ?_ ?_ _) | omega | (simp; done) | (simp; omega))
set_option maxHeartbeats 800000 in
theorem ap_left (b0 b1 vb ub : ByteArray) (s0 s1 c l vo vz vn uo uz un : Int) (dn : Bool) (W : World) (hfit : Dk.fit ⟨⟨b0, s0⟩, ⟨b1, s1⟩, c, l, dn⟩) (hvb : vb.size ≤ maxLen) (hub : ub.size ≤ maxLen) (hg : ¬ (262144 < b0.size ∨ 262144 < b1.size)) (hg2 : ¬ (4096 < vb.size ∨ 4096 < ub.size)) (hz : vz ≠ uz) (hl : 0 ≤ l) :
    Calls Try.prog 6 #[.agg #[.string b0, .int .i64 s0, .string b1, .int .i64 s1, .int .i64 c, .int .i64 l, .bool dn], .agg #[.int .i8 vo, .int .i64 vz, .string vb, .int .i64 vn], .agg #[.int .i8 uo, .int .i64 uz, .string ub, .int .i64 un]] W (RetB true W) := by
  obtain ⟨fa, fb, fc⟩ := hfit
  have Hg := Lib.hid hg; clear hg
  have Hg2 := Lib.hid hg2; clear hg2
  have hz1 : (vz == uz) = false := by rw [beq_eq_false_iff_ne]; exact hz
  have Hz := Lib.hid hz; clear hz
  go_enter Try.func6, Try.ntmps6
  go_wp2_with fail
  refine (great_no _ _ _ _ _ _ _ _ fa fb Hg.out).mono ?_
  rintro en w1 ⟨rfl, hw1⟩
  have zhw1 := hw1.size
  try simp at zhw1
  have kd : Blk w1 W.heap.size #[.string b0, .int .i64 s0, .string b1, .int .i64 s1, .int .i64 c, .int .i64 l, .bool dn] 26 := by repeat' (first | (with_reducible assumption) | (with_reducible exact Blk.new _ _ _) | ((with_reducible refine Blk.new' _ _ _ ?_); simp; done) | (with_reducible refine Blk.alloc ?_ _) | (with_reducible refine Blk.drew ?_) | (with_reducible refine Blk.drewN ?_ _) | (with_reducible apply Blk.set) | (with_reducible refine Blk.set' ?_ ?_) | (with_reducible refine Blk.below ?_ (by with_reducible assumption)) | (show @Eq (Array Value) _ _; rfl) | (simp; done) | (simp; omega))
  have kv : Blk w1 (W.heap.size + 1) #[.int .i8 vo, .int .i64 vz, .string vb, .int .i64 vn] 29 := by repeat' (first | (with_reducible assumption) | (with_reducible exact Blk.new _ _ _) | ((with_reducible refine Blk.new' _ _ _ ?_); simp; done) | (with_reducible refine Blk.alloc ?_ _) | (with_reducible refine Blk.drew ?_) | (with_reducible refine Blk.drewN ?_ _) | (with_reducible apply Blk.set) | (with_reducible refine Blk.set' ?_ ?_) | (with_reducible refine Blk.below ?_ (by with_reducible assumption)) | (show @Eq (Array Value) _ _; rfl) | (simp; done) | (simp; omega))
  have ku : Blk w1 (W.heap.size + 1 + 1) #[.int .i8 uo, .int .i64 uz, .string ub, .int .i64 un] 29 := by repeat' (first | (with_reducible assumption) | (with_reducible exact Blk.new _ _ _) | ((with_reducible refine Blk.new' _ _ _ ?_); simp; done) | (with_reducible refine Blk.alloc ?_ _) | (with_reducible refine Blk.drew ?_) | (with_reducible refine Blk.drewN ?_ _) | (with_reducible apply Blk.set) | (with_reducible refine Blk.set' ?_ ?_) | (with_reducible refine Blk.below ?_ (by with_reducible assumption)) | (show @Eq (Array Value) _ _; rfl) | (simp; done) | (simp; omega))
  have cd := kd.cell; have fd := kd.froz; have qd := kd.lt; have cv := kv.cell; have fv := kv.froz; have qv := kv.lt; have cu := ku.cell; have fu := ku.froz; have qu := ku.lt
  go_wp2_with fail
  refine (gw2_no (Blk.new _ _ _) hvb hub Hg2.out).mono ?_
  rintro en w2 ⟨rfl, hw2⟩
  have zhw2 := hw2.size
  try simp at zhw2
  clear cd fd qd cv fv qv cu fu qu
  have kd : Blk w2 W.heap.size #[.string b0, .int .i64 s0, .string b1, .int .i64 s1, .int .i64 c, .int .i64 l, .bool dn] 26 := by repeat' (first | (with_reducible assumption) | (with_reducible exact Blk.new _ _ _) | ((with_reducible refine Blk.new' _ _ _ ?_); simp; done) | (with_reducible refine Blk.alloc ?_ _) | (with_reducible refine Blk.drew ?_) | (with_reducible refine Blk.drewN ?_ _) | (with_reducible apply Blk.set) | (with_reducible refine Blk.set' ?_ ?_) | (with_reducible refine Blk.below ?_ (by with_reducible assumption)) | (show @Eq (Array Value) _ _; rfl) | (simp; done) | (simp; omega))
  have kv : Blk w2 (W.heap.size + 1) #[.int .i8 vo, .int .i64 vz, .string vb, .int .i64 vn] 29 := by repeat' (first | (with_reducible assumption) | (with_reducible exact Blk.new _ _ _) | ((with_reducible refine Blk.new' _ _ _ ?_); simp; done) | (with_reducible refine Blk.alloc ?_ _) | (with_reducible refine Blk.drew ?_) | (with_reducible refine Blk.drewN ?_ _) | (with_reducible apply Blk.set) | (with_reducible refine Blk.set' ?_ ?_) | (with_reducible refine Blk.below ?_ (by with_reducible assumption)) | (show @Eq (Array Value) _ _; rfl) | (simp; done) | (simp; omega))
  have ku : Blk w2 (W.heap.size + 1 + 1) #[.int .i8 uo, .int .i64 uz, .string ub, .int .i64 un] 29 := by repeat' (first | (with_reducible assumption) | (with_reducible exact Blk.new _ _ _) | ((with_reducible refine Blk.new' _ _ _ ?_); simp; done) | (with_reducible refine Blk.alloc ?_ _) | (with_reducible refine Blk.drew ?_) | (with_reducible refine Blk.drewN ?_ _) | (with_reducible apply Blk.set) | (with_reducible refine Blk.set' ?_ ?_) | (with_reducible refine Blk.below ?_ (by with_reducible assumption)) | (show @Eq (Array Value) _ _; rfl) | (simp; done) | (simp; omega))
  have cd := kd.cell; have fd := kd.froz; have qd := kd.lt; have cv := kv.cell; have fv := kv.froz; have qv := kv.lt; have cu := ku.cell; have fu := ku.froz; have qu := ku.lt
  go_wp2_with fail
  refine (wakes_any _).mono ?_
  rintro en wz ⟨rfl, hbz⟩
  have zz := hbz.size
  try simp at zz
  go_wp2_with fail
  go_ret
  refine ⟨rfl, ?_⟩
  repeat' (first | (with_reducible exact Below.refl _ _) | (with_reducible assumption) | (with_reducible refine below_call ?_ (by with_reducible assumption)) | (with_reducible refine below_draws ?_ _) | (with_reducible refine Below.drew ?_) | (with_reducible refine Below.alloc ?_ ?_ _) | (with_reducible refine Below.setCell ?_ ?_ _) | omega | (simp; done) | (simp; omega))
set_option maxHeartbeats 1600000 in
theorem ap_e1 (b0 b1 vb ub : ByteArray) (s0 s1 c l vo vz vn uo uz un : Int) (dn : Bool) (W : World) (hfit : Dk.fit ⟨⟨b0, s0⟩, ⟨b1, s1⟩, c, l, dn⟩) (hvb : vb.size ≤ maxLen) (hub : ub.size ≤ maxLen) (hg : ¬ (262144 < b0.size ∨ 262144 < b1.size)) (hg2 : ¬ (4096 < vb.size ∨ 4096 < ub.size)) (hz : vz ≠ uz) (hl : l < 0) (a0 a1 e0 e1 : ByteArray) (p0 p1 ac al g0 g1 ec el x1 x2 : Int) (ad ed : Bool) (hr1 : doF ⟨⟨b0, s0⟩, ⟨b1, s1⟩, c, l, dn⟩ vo vz vb vn = (⟨⟨a0, p0⟩, ⟨a1, p1⟩, ac, al, ad⟩, x1)) (hr2 : doF ⟨⟨b0, s0⟩, ⟨b1, s1⟩, c, l, dn⟩ uo uz ub un = (⟨⟨e0, g0⟩, ⟨e1, g1⟩, ec, el, ed⟩, x2)) (hx : x1 ≠ 0) :
    Calls Try.prog 6 #[.agg #[.string b0, .int .i64 s0, .string b1, .int .i64 s1, .int .i64 c, .int .i64 l, .bool dn], .agg #[.int .i8 vo, .int .i64 vz, .string vb, .int .i64 vn], .agg #[.int .i8 uo, .int .i64 uz, .string ub, .int .i64 un]] W (RetB true W) := by
  obtain ⟨fa, fb, fc⟩ := hfit
  have hvs : vb.size ≤ 4096 := by omega
  have hus : ub.size ≤ 4096 := by omega
  have Hg := Lib.hid hg; clear hg
  have Hg2 := Lib.hid hg2; clear hg2
  have hz1 : (vz == uz) = false := by rw [beq_eq_false_iff_ne]; exact hz
  have Hz := Lib.hid hz; clear hz
  have hl1 : decide (0 ≤ l) = false := by simp; omega
  have Hr1 := Lib.hid hr1; clear hr1
  have Hr2 := Lib.hid hr2; clear hr2
  have hx1 : (x1 != 0) = true := by rw [bne_iff_ne]; exact hx
  have Hx := Lib.hid hx; clear hx
  go_enter Try.func6, Try.ntmps6
  go_wp2_with fail
  refine (great_no _ _ _ _ _ _ _ _ fa fb Hg.out).mono ?_
  rintro en w1 ⟨rfl, hw1⟩
  have zhw1 := hw1.size
  try simp at zhw1
  have kd : Blk w1 W.heap.size #[.string b0, .int .i64 s0, .string b1, .int .i64 s1, .int .i64 c, .int .i64 l, .bool dn] 26 := by repeat' (first | (with_reducible assumption) | (with_reducible exact Blk.new _ _ _) | ((with_reducible refine Blk.new' _ _ _ ?_); simp; done) | (with_reducible refine Blk.alloc ?_ _) | (with_reducible refine Blk.drew ?_) | (with_reducible refine Blk.drewN ?_ _) | (with_reducible apply Blk.set) | (with_reducible refine Blk.set' ?_ ?_) | (with_reducible refine Blk.below ?_ (by with_reducible assumption)) | (show @Eq (Array Value) _ _; rfl) | (simp; done) | (simp; omega))
  have kv : Blk w1 (W.heap.size + 1) #[.int .i8 vo, .int .i64 vz, .string vb, .int .i64 vn] 29 := by repeat' (first | (with_reducible assumption) | (with_reducible exact Blk.new _ _ _) | ((with_reducible refine Blk.new' _ _ _ ?_); simp; done) | (with_reducible refine Blk.alloc ?_ _) | (with_reducible refine Blk.drew ?_) | (with_reducible refine Blk.drewN ?_ _) | (with_reducible apply Blk.set) | (with_reducible refine Blk.set' ?_ ?_) | (with_reducible refine Blk.below ?_ (by with_reducible assumption)) | (show @Eq (Array Value) _ _; rfl) | (simp; done) | (simp; omega))
  have ku : Blk w1 (W.heap.size + 1 + 1) #[.int .i8 uo, .int .i64 uz, .string ub, .int .i64 un] 29 := by repeat' (first | (with_reducible assumption) | (with_reducible exact Blk.new _ _ _) | ((with_reducible refine Blk.new' _ _ _ ?_); simp; done) | (with_reducible refine Blk.alloc ?_ _) | (with_reducible refine Blk.drew ?_) | (with_reducible refine Blk.drewN ?_ _) | (with_reducible apply Blk.set) | (with_reducible refine Blk.set' ?_ ?_) | (with_reducible refine Blk.below ?_ (by with_reducible assumption)) | (show @Eq (Array Value) _ _; rfl) | (simp; done) | (simp; omega))
  have cd := kd.cell; have fd := kd.froz; have qd := kd.lt; have cv := kv.cell; have fv := kv.froz; have qv := kv.lt; have cu := ku.cell; have fu := ku.froz; have qu := ku.lt
  go_wp2_with fail
  refine (gw2_no (Blk.new _ _ _) hvb hub Hg2.out).mono ?_
  rintro en w2 ⟨rfl, hw2⟩
  have zhw2 := hw2.size
  try simp at zhw2
  clear cd fd qd cv fv qv cu fu qu
  have kd : Blk w2 W.heap.size #[.string b0, .int .i64 s0, .string b1, .int .i64 s1, .int .i64 c, .int .i64 l, .bool dn] 26 := by repeat' (first | (with_reducible assumption) | (with_reducible exact Blk.new _ _ _) | ((with_reducible refine Blk.new' _ _ _ ?_); simp; done) | (with_reducible refine Blk.alloc ?_ _) | (with_reducible refine Blk.drew ?_) | (with_reducible refine Blk.drewN ?_ _) | (with_reducible apply Blk.set) | (with_reducible refine Blk.set' ?_ ?_) | (with_reducible refine Blk.below ?_ (by with_reducible assumption)) | (show @Eq (Array Value) _ _; rfl) | (simp; done) | (simp; omega))
  have kv : Blk w2 (W.heap.size + 1) #[.int .i8 vo, .int .i64 vz, .string vb, .int .i64 vn] 29 := by repeat' (first | (with_reducible assumption) | (with_reducible exact Blk.new _ _ _) | ((with_reducible refine Blk.new' _ _ _ ?_); simp; done) | (with_reducible refine Blk.alloc ?_ _) | (with_reducible refine Blk.drew ?_) | (with_reducible refine Blk.drewN ?_ _) | (with_reducible apply Blk.set) | (with_reducible refine Blk.set' ?_ ?_) | (with_reducible refine Blk.below ?_ (by with_reducible assumption)) | (show @Eq (Array Value) _ _; rfl) | (simp; done) | (simp; omega))
  have ku : Blk w2 (W.heap.size + 1 + 1) #[.int .i8 uo, .int .i64 uz, .string ub, .int .i64 un] 29 := by repeat' (first | (with_reducible assumption) | (with_reducible exact Blk.new _ _ _) | ((with_reducible refine Blk.new' _ _ _ ?_); simp; done) | (with_reducible refine Blk.alloc ?_ _) | (with_reducible refine Blk.drew ?_) | (with_reducible refine Blk.drewN ?_ _) | (with_reducible apply Blk.set) | (with_reducible refine Blk.set' ?_ ?_) | (with_reducible refine Blk.below ?_ (by with_reducible assumption)) | (show @Eq (Array Value) _ _; rfl) | (simp; done) | (simp; omega))
  have cd := kd.cell; have fd := kd.froz; have qd := kd.lt; have cv := kv.cell; have fv := kv.froz; have qv := kv.lt; have cu := ku.cell; have fu := ku.froz; have qu := ku.lt
  go_wp2_with fail
  refine (do_r _ fa fb hvs fc Hr1.out).mono ?_
  rintro en w3 ⟨rfl, hw3⟩
  have zhw3 := hw3.size
  try simp at zhw3
  clear cd fd qd cv fv qv cu fu qu
  have kd : Blk w3 W.heap.size #[.string b0, .int .i64 s0, .string b1, .int .i64 s1, .int .i64 c, .int .i64 l, .bool dn] 26 := by repeat' (first | (with_reducible assumption) | (with_reducible exact Blk.new _ _ _) | ((with_reducible refine Blk.new' _ _ _ ?_); simp; done) | (with_reducible refine Blk.alloc ?_ _) | (with_reducible refine Blk.drew ?_) | (with_reducible refine Blk.drewN ?_ _) | (with_reducible apply Blk.set) | (with_reducible refine Blk.set' ?_ ?_) | (with_reducible refine Blk.below ?_ (by with_reducible assumption)) | (show @Eq (Array Value) _ _; rfl) | (simp; done) | (simp; omega))
  have kv : Blk w3 (W.heap.size + 1) #[.int .i8 vo, .int .i64 vz, .string vb, .int .i64 vn] 29 := by repeat' (first | (with_reducible assumption) | (with_reducible exact Blk.new _ _ _) | ((with_reducible refine Blk.new' _ _ _ ?_); simp; done) | (with_reducible refine Blk.alloc ?_ _) | (with_reducible refine Blk.drew ?_) | (with_reducible refine Blk.drewN ?_ _) | (with_reducible apply Blk.set) | (with_reducible refine Blk.set' ?_ ?_) | (with_reducible refine Blk.below ?_ (by with_reducible assumption)) | (show @Eq (Array Value) _ _; rfl) | (simp; done) | (simp; omega))
  have ku : Blk w3 (W.heap.size + 1 + 1) #[.int .i8 uo, .int .i64 uz, .string ub, .int .i64 un] 29 := by repeat' (first | (with_reducible assumption) | (with_reducible exact Blk.new _ _ _) | ((with_reducible refine Blk.new' _ _ _ ?_); simp; done) | (with_reducible refine Blk.alloc ?_ _) | (with_reducible refine Blk.drew ?_) | (with_reducible refine Blk.drewN ?_ _) | (with_reducible apply Blk.set) | (with_reducible refine Blk.set' ?_ ?_) | (with_reducible refine Blk.below ?_ (by with_reducible assumption)) | (show @Eq (Array Value) _ _; rfl) | (simp; done) | (simp; omega))
  have cd := kd.cell; have fd := kd.froz; have qd := kd.lt; have cv := kv.cell; have fv := kv.froz; have qv := kv.lt; have cu := ku.cell; have fu := ku.froz; have qu := ku.lt
  go_wp2_with fail
  refine (do_r _ fa fb hus fc Hr2.out).mono ?_
  rintro en w4 ⟨rfl, hw4⟩
  have zhw4 := hw4.size
  try simp at zhw4
  clear cd fd qd cv fv qv cu fu qu
  have kd : Blk w4 W.heap.size #[.string b0, .int .i64 s0, .string b1, .int .i64 s1, .int .i64 c, .int .i64 l, .bool dn] 26 := by repeat' (first | (with_reducible assumption) | (with_reducible exact Blk.new _ _ _) | ((with_reducible refine Blk.new' _ _ _ ?_); simp; done) | (with_reducible refine Blk.alloc ?_ _) | (with_reducible refine Blk.drew ?_) | (with_reducible refine Blk.drewN ?_ _) | (with_reducible apply Blk.set) | (with_reducible refine Blk.set' ?_ ?_) | (with_reducible refine Blk.below ?_ (by with_reducible assumption)) | (show @Eq (Array Value) _ _; rfl) | (simp; done) | (simp; omega))
  have kv : Blk w4 (W.heap.size + 1) #[.int .i8 vo, .int .i64 vz, .string vb, .int .i64 vn] 29 := by repeat' (first | (with_reducible assumption) | (with_reducible exact Blk.new _ _ _) | ((with_reducible refine Blk.new' _ _ _ ?_); simp; done) | (with_reducible refine Blk.alloc ?_ _) | (with_reducible refine Blk.drew ?_) | (with_reducible refine Blk.drewN ?_ _) | (with_reducible apply Blk.set) | (with_reducible refine Blk.set' ?_ ?_) | (with_reducible refine Blk.below ?_ (by with_reducible assumption)) | (show @Eq (Array Value) _ _; rfl) | (simp; done) | (simp; omega))
  have ku : Blk w4 (W.heap.size + 1 + 1) #[.int .i8 uo, .int .i64 uz, .string ub, .int .i64 un] 29 := by repeat' (first | (with_reducible assumption) | (with_reducible exact Blk.new _ _ _) | ((with_reducible refine Blk.new' _ _ _ ?_); simp; done) | (with_reducible refine Blk.alloc ?_ _) | (with_reducible refine Blk.drew ?_) | (with_reducible refine Blk.drewN ?_ _) | (with_reducible apply Blk.set) | (with_reducible refine Blk.set' ?_ ?_) | (with_reducible refine Blk.below ?_ (by with_reducible assumption)) | (show @Eq (Array Value) _ _; rfl) | (simp; done) | (simp; omega))
  have ka : Blk w4 w3.heap.size #[.string a0, .int .i64 p0, .string a1, .int .i64 p1, .int .i64 ac, .int .i64 al, .bool ad] 26 := by repeat' (first | (with_reducible assumption) | (with_reducible exact Blk.new _ _ _) | ((with_reducible refine Blk.new' _ _ _ ?_); simp; done) | (with_reducible refine Blk.alloc ?_ _) | (with_reducible refine Blk.drew ?_) | (with_reducible refine Blk.drewN ?_ _) | (with_reducible apply Blk.set) | (with_reducible refine Blk.set' ?_ ?_) | (with_reducible refine Blk.below ?_ (by with_reducible assumption)) | (show @Eq (Array Value) _ _; rfl) | (simp; done) | (simp; omega))
  have cd := kd.cell; have fd := kd.froz; have qd := kd.lt; have cv := kv.cell; have fv := kv.froz; have qv := kv.lt; have cu := ku.cell; have fu := ku.froz; have qu := ku.lt; have ca := ka.cell; have fa := ka.froz; have qa := ka.lt
  go_wp2_with fail
  refine (wakes_any _).mono ?_
  rintro en wz ⟨rfl, hbz⟩
  have zz := hbz.size
  try simp at zz
  go_wp2_with fail
  go_ret
  refine ⟨rfl, ?_⟩
  repeat' (first | (with_reducible exact Below.refl _ _) | (with_reducible assumption) | (with_reducible refine below_call ?_ (by with_reducible assumption)) | (with_reducible refine below_draws ?_ _) | (with_reducible refine Below.drew ?_) | (with_reducible refine Below.alloc ?_ ?_ _) | (with_reducible refine Below.setCell ?_ ?_ _) | omega | (simp; done) | (simp; omega))
set_option maxHeartbeats 1600000 in
theorem ap_e2 (b0 b1 vb ub : ByteArray) (s0 s1 c l vo vz vn uo uz un : Int) (dn : Bool) (W : World) (hfit : Dk.fit ⟨⟨b0, s0⟩, ⟨b1, s1⟩, c, l, dn⟩) (hvb : vb.size ≤ maxLen) (hub : ub.size ≤ maxLen) (hg : ¬ (262144 < b0.size ∨ 262144 < b1.size)) (hg2 : ¬ (4096 < vb.size ∨ 4096 < ub.size)) (hz : vz ≠ uz) (hl : l < 0) (a0 a1 e0 e1 : ByteArray) (p0 p1 ac al g0 g1 ec el x2 : Int) (ad ed : Bool) (hr1 : doF ⟨⟨b0, s0⟩, ⟨b1, s1⟩, c, l, dn⟩ vo vz vb vn = (⟨⟨a0, p0⟩, ⟨a1, p1⟩, ac, al, ad⟩, 0)) (hr2 : doF ⟨⟨b0, s0⟩, ⟨b1, s1⟩, c, l, dn⟩ uo uz ub un = (⟨⟨e0, g0⟩, ⟨e1, g1⟩, ec, el, ed⟩, x2)) (hx : x2 ≠ 0) :
    Calls Try.prog 6 #[.agg #[.string b0, .int .i64 s0, .string b1, .int .i64 s1, .int .i64 c, .int .i64 l, .bool dn], .agg #[.int .i8 vo, .int .i64 vz, .string vb, .int .i64 vn], .agg #[.int .i8 uo, .int .i64 uz, .string ub, .int .i64 un]] W (RetB true W) := by
  obtain ⟨fa, fb, fc⟩ := hfit
  have hvs : vb.size ≤ 4096 := by omega
  have hus : ub.size ≤ 4096 := by omega
  have Hg := Lib.hid hg; clear hg
  have Hg2 := Lib.hid hg2; clear hg2
  have hz1 : (vz == uz) = false := by rw [beq_eq_false_iff_ne]; exact hz
  have Hz := Lib.hid hz; clear hz
  have hl1 : decide (0 ≤ l) = false := by simp; omega
  have Hr1 := Lib.hid hr1; clear hr1
  have Hr2 := Lib.hid hr2; clear hr2
  have hx1 : (x2 != 0) = true := by rw [bne_iff_ne]; exact hx
  have Hx := Lib.hid hx; clear hx
  go_enter Try.func6, Try.ntmps6
  go_wp2_with fail
  refine (great_no _ _ _ _ _ _ _ _ fa fb Hg.out).mono ?_
  rintro en w1 ⟨rfl, hw1⟩
  have zhw1 := hw1.size
  try simp at zhw1
  have kd : Blk w1 W.heap.size #[.string b0, .int .i64 s0, .string b1, .int .i64 s1, .int .i64 c, .int .i64 l, .bool dn] 26 := by repeat' (first | (with_reducible assumption) | (with_reducible exact Blk.new _ _ _) | ((with_reducible refine Blk.new' _ _ _ ?_); simp; done) | (with_reducible refine Blk.alloc ?_ _) | (with_reducible refine Blk.drew ?_) | (with_reducible refine Blk.drewN ?_ _) | (with_reducible apply Blk.set) | (with_reducible refine Blk.set' ?_ ?_) | (with_reducible refine Blk.below ?_ (by with_reducible assumption)) | (show @Eq (Array Value) _ _; rfl) | (simp; done) | (simp; omega))
  have kv : Blk w1 (W.heap.size + 1) #[.int .i8 vo, .int .i64 vz, .string vb, .int .i64 vn] 29 := by repeat' (first | (with_reducible assumption) | (with_reducible exact Blk.new _ _ _) | ((with_reducible refine Blk.new' _ _ _ ?_); simp; done) | (with_reducible refine Blk.alloc ?_ _) | (with_reducible refine Blk.drew ?_) | (with_reducible refine Blk.drewN ?_ _) | (with_reducible apply Blk.set) | (with_reducible refine Blk.set' ?_ ?_) | (with_reducible refine Blk.below ?_ (by with_reducible assumption)) | (show @Eq (Array Value) _ _; rfl) | (simp; done) | (simp; omega))
  have ku : Blk w1 (W.heap.size + 1 + 1) #[.int .i8 uo, .int .i64 uz, .string ub, .int .i64 un] 29 := by repeat' (first | (with_reducible assumption) | (with_reducible exact Blk.new _ _ _) | ((with_reducible refine Blk.new' _ _ _ ?_); simp; done) | (with_reducible refine Blk.alloc ?_ _) | (with_reducible refine Blk.drew ?_) | (with_reducible refine Blk.drewN ?_ _) | (with_reducible apply Blk.set) | (with_reducible refine Blk.set' ?_ ?_) | (with_reducible refine Blk.below ?_ (by with_reducible assumption)) | (show @Eq (Array Value) _ _; rfl) | (simp; done) | (simp; omega))
  have cd := kd.cell; have fd := kd.froz; have qd := kd.lt; have cv := kv.cell; have fv := kv.froz; have qv := kv.lt; have cu := ku.cell; have fu := ku.froz; have qu := ku.lt
  go_wp2_with fail
  refine (gw2_no (Blk.new _ _ _) hvb hub Hg2.out).mono ?_
  rintro en w2 ⟨rfl, hw2⟩
  have zhw2 := hw2.size
  try simp at zhw2
  clear cd fd qd cv fv qv cu fu qu
  have kd : Blk w2 W.heap.size #[.string b0, .int .i64 s0, .string b1, .int .i64 s1, .int .i64 c, .int .i64 l, .bool dn] 26 := by repeat' (first | (with_reducible assumption) | (with_reducible exact Blk.new _ _ _) | ((with_reducible refine Blk.new' _ _ _ ?_); simp; done) | (with_reducible refine Blk.alloc ?_ _) | (with_reducible refine Blk.drew ?_) | (with_reducible refine Blk.drewN ?_ _) | (with_reducible apply Blk.set) | (with_reducible refine Blk.set' ?_ ?_) | (with_reducible refine Blk.below ?_ (by with_reducible assumption)) | (show @Eq (Array Value) _ _; rfl) | (simp; done) | (simp; omega))
  have kv : Blk w2 (W.heap.size + 1) #[.int .i8 vo, .int .i64 vz, .string vb, .int .i64 vn] 29 := by repeat' (first | (with_reducible assumption) | (with_reducible exact Blk.new _ _ _) | ((with_reducible refine Blk.new' _ _ _ ?_); simp; done) | (with_reducible refine Blk.alloc ?_ _) | (with_reducible refine Blk.drew ?_) | (with_reducible refine Blk.drewN ?_ _) | (with_reducible apply Blk.set) | (with_reducible refine Blk.set' ?_ ?_) | (with_reducible refine Blk.below ?_ (by with_reducible assumption)) | (show @Eq (Array Value) _ _; rfl) | (simp; done) | (simp; omega))
  have ku : Blk w2 (W.heap.size + 1 + 1) #[.int .i8 uo, .int .i64 uz, .string ub, .int .i64 un] 29 := by repeat' (first | (with_reducible assumption) | (with_reducible exact Blk.new _ _ _) | ((with_reducible refine Blk.new' _ _ _ ?_); simp; done) | (with_reducible refine Blk.alloc ?_ _) | (with_reducible refine Blk.drew ?_) | (with_reducible refine Blk.drewN ?_ _) | (with_reducible apply Blk.set) | (with_reducible refine Blk.set' ?_ ?_) | (with_reducible refine Blk.below ?_ (by with_reducible assumption)) | (show @Eq (Array Value) _ _; rfl) | (simp; done) | (simp; omega))
  have cd := kd.cell; have fd := kd.froz; have qd := kd.lt; have cv := kv.cell; have fv := kv.froz; have qv := kv.lt; have cu := ku.cell; have fu := ku.froz; have qu := ku.lt
  go_wp2_with fail
  refine (do_r _ fa fb hvs fc Hr1.out).mono ?_
  rintro en w3 ⟨rfl, hw3⟩
  have zhw3 := hw3.size
  try simp at zhw3
  clear cd fd qd cv fv qv cu fu qu
  have kd : Blk w3 W.heap.size #[.string b0, .int .i64 s0, .string b1, .int .i64 s1, .int .i64 c, .int .i64 l, .bool dn] 26 := by repeat' (first | (with_reducible assumption) | (with_reducible exact Blk.new _ _ _) | ((with_reducible refine Blk.new' _ _ _ ?_); simp; done) | (with_reducible refine Blk.alloc ?_ _) | (with_reducible refine Blk.drew ?_) | (with_reducible refine Blk.drewN ?_ _) | (with_reducible apply Blk.set) | (with_reducible refine Blk.set' ?_ ?_) | (with_reducible refine Blk.below ?_ (by with_reducible assumption)) | (show @Eq (Array Value) _ _; rfl) | (simp; done) | (simp; omega))
  have kv : Blk w3 (W.heap.size + 1) #[.int .i8 vo, .int .i64 vz, .string vb, .int .i64 vn] 29 := by repeat' (first | (with_reducible assumption) | (with_reducible exact Blk.new _ _ _) | ((with_reducible refine Blk.new' _ _ _ ?_); simp; done) | (with_reducible refine Blk.alloc ?_ _) | (with_reducible refine Blk.drew ?_) | (with_reducible refine Blk.drewN ?_ _) | (with_reducible apply Blk.set) | (with_reducible refine Blk.set' ?_ ?_) | (with_reducible refine Blk.below ?_ (by with_reducible assumption)) | (show @Eq (Array Value) _ _; rfl) | (simp; done) | (simp; omega))
  have ku : Blk w3 (W.heap.size + 1 + 1) #[.int .i8 uo, .int .i64 uz, .string ub, .int .i64 un] 29 := by repeat' (first | (with_reducible assumption) | (with_reducible exact Blk.new _ _ _) | ((with_reducible refine Blk.new' _ _ _ ?_); simp; done) | (with_reducible refine Blk.alloc ?_ _) | (with_reducible refine Blk.drew ?_) | (with_reducible refine Blk.drewN ?_ _) | (with_reducible apply Blk.set) | (with_reducible refine Blk.set' ?_ ?_) | (with_reducible refine Blk.below ?_ (by with_reducible assumption)) | (show @Eq (Array Value) _ _; rfl) | (simp; done) | (simp; omega))
  have cd := kd.cell; have fd := kd.froz; have qd := kd.lt; have cv := kv.cell; have fv := kv.froz; have qv := kv.lt; have cu := ku.cell; have fu := ku.froz; have qu := ku.lt
  go_wp2_with fail
  refine (do_r _ fa fb hus fc Hr2.out).mono ?_
  rintro en w4 ⟨rfl, hw4⟩
  have zhw4 := hw4.size
  try simp at zhw4
  clear cd fd qd cv fv qv cu fu qu
  have kd : Blk w4 W.heap.size #[.string b0, .int .i64 s0, .string b1, .int .i64 s1, .int .i64 c, .int .i64 l, .bool dn] 26 := by repeat' (first | (with_reducible assumption) | (with_reducible exact Blk.new _ _ _) | ((with_reducible refine Blk.new' _ _ _ ?_); simp; done) | (with_reducible refine Blk.alloc ?_ _) | (with_reducible refine Blk.drew ?_) | (with_reducible refine Blk.drewN ?_ _) | (with_reducible apply Blk.set) | (with_reducible refine Blk.set' ?_ ?_) | (with_reducible refine Blk.below ?_ (by with_reducible assumption)) | (show @Eq (Array Value) _ _; rfl) | (simp; done) | (simp; omega))
  have kv : Blk w4 (W.heap.size + 1) #[.int .i8 vo, .int .i64 vz, .string vb, .int .i64 vn] 29 := by repeat' (first | (with_reducible assumption) | (with_reducible exact Blk.new _ _ _) | ((with_reducible refine Blk.new' _ _ _ ?_); simp; done) | (with_reducible refine Blk.alloc ?_ _) | (with_reducible refine Blk.drew ?_) | (with_reducible refine Blk.drewN ?_ _) | (with_reducible apply Blk.set) | (with_reducible refine Blk.set' ?_ ?_) | (with_reducible refine Blk.below ?_ (by with_reducible assumption)) | (show @Eq (Array Value) _ _; rfl) | (simp; done) | (simp; omega))
  have ku : Blk w4 (W.heap.size + 1 + 1) #[.int .i8 uo, .int .i64 uz, .string ub, .int .i64 un] 29 := by repeat' (first | (with_reducible assumption) | (with_reducible exact Blk.new _ _ _) | ((with_reducible refine Blk.new' _ _ _ ?_); simp; done) | (with_reducible refine Blk.alloc ?_ _) | (with_reducible refine Blk.drew ?_) | (with_reducible refine Blk.drewN ?_ _) | (with_reducible apply Blk.set) | (with_reducible refine Blk.set' ?_ ?_) | (with_reducible refine Blk.below ?_ (by with_reducible assumption)) | (show @Eq (Array Value) _ _; rfl) | (simp; done) | (simp; omega))
  have ka : Blk w4 w3.heap.size #[.string a0, .int .i64 p0, .string a1, .int .i64 p1, .int .i64 ac, .int .i64 al, .bool ad] 26 := by repeat' (first | (with_reducible assumption) | (with_reducible exact Blk.new _ _ _) | ((with_reducible refine Blk.new' _ _ _ ?_); simp; done) | (with_reducible refine Blk.alloc ?_ _) | (with_reducible refine Blk.drew ?_) | (with_reducible refine Blk.drewN ?_ _) | (with_reducible apply Blk.set) | (with_reducible refine Blk.set' ?_ ?_) | (with_reducible refine Blk.below ?_ (by with_reducible assumption)) | (show @Eq (Array Value) _ _; rfl) | (simp; done) | (simp; omega))
  have cd := kd.cell; have fd := kd.froz; have qd := kd.lt; have cv := kv.cell; have fv := kv.froz; have qv := kv.lt; have cu := ku.cell; have fu := ku.froz; have qu := ku.lt; have ca := ka.cell; have fa := ka.froz; have qa := ka.lt
  go_wp2_with fail
  refine (wakes_any _).mono ?_
  rintro en wz ⟨rfl, hbz⟩
  have zz := hbz.size
  try simp at zz
  go_wp2_with fail
  go_ret
  refine ⟨rfl, ?_⟩
  repeat' (first | (with_reducible exact Below.refl _ _) | (with_reducible assumption) | (with_reducible refine below_call ?_ (by with_reducible assumption)) | (with_reducible refine below_draws ?_ _) | (with_reducible refine Below.drew ?_) | (with_reducible refine Below.alloc ?_ ?_ _) | (with_reducible refine Below.setCell ?_ ?_ _) | omega | (simp; done) | (simp; omega))
set_option maxHeartbeats 3200000 in
theorem ap_ok (b0 b1 vb ub : ByteArray) (s0 s1 c l vo vz vn uo uz un : Int) (dn : Bool) (W : World) (hfit : Dk.fit ⟨⟨b0, s0⟩, ⟨b1, s1⟩, c, l, dn⟩) (hvb : vb.size ≤ maxLen) (hub : ub.size ≤ maxLen) (hg : ¬ (262144 < b0.size ∨ 262144 < b1.size)) (hg2 : ¬ (4096 < vb.size ∨ 4096 < ub.size)) (hz : vz ≠ uz) (hl : l < 0) (a0 a1 e0 e1 : ByteArray) (p0 p1 ac al g0 g1 ec el : Int) (ad ed : Bool) (hr1 : doF ⟨⟨b0, s0⟩, ⟨b1, s1⟩, c, l, dn⟩ vo vz vb vn = (⟨⟨a0, p0⟩, ⟨a1, p1⟩, ac, al, ad⟩, 0)) (hr2 : doF ⟨⟨b0, s0⟩, ⟨b1, s1⟩, c, l, dn⟩ uo uz ub un = (⟨⟨e0, g0⟩, ⟨e1, g1⟩, ec, el, ed⟩, 0)) (m0 m1 : ByteArray) (n0 n1 mc ml : Int) (md : Bool) (hr3 : doF ⟨⟨a0, p0⟩, ⟨a1, p1⟩, ac, al, ad⟩ uo uz ub un = (⟨⟨m0, n0⟩, ⟨m1, n1⟩, mc, ml, md⟩, 0)) (hr4 : doF ⟨⟨e0, g0⟩, ⟨e1, g1⟩, ec, el, ed⟩ vo vz vb vn = (⟨⟨m0, n0⟩, ⟨m1, n1⟩, mc, ml, md⟩, 0)) (hfa : Dk.fit ⟨⟨a0, p0⟩, ⟨a1, p1⟩, ac, al, ad⟩) (hfe : Dk.fit ⟨⟨e0, g0⟩, ⟨e1, g1⟩, ec, el, ed⟩) :
    Calls Try.prog 6 #[.agg #[.string b0, .int .i64 s0, .string b1, .int .i64 s1, .int .i64 c, .int .i64 l, .bool dn], .agg #[.int .i8 vo, .int .i64 vz, .string vb, .int .i64 vn], .agg #[.int .i8 uo, .int .i64 uz, .string ub, .int .i64 un]] W (RetB true W) := by
  obtain ⟨fa, fb, fc⟩ := hfit
  have hvs : vb.size ≤ 4096 := by omega
  have hus : ub.size ≤ 4096 := by omega
  have Hg := Lib.hid hg; clear hg
  have Hg2 := Lib.hid hg2; clear hg2
  have hz1 : (vz == uz) = false := by rw [beq_eq_false_iff_ne]; exact hz
  have Hz := Lib.hid hz; clear hz
  have hl1 : decide (0 ≤ l) = false := by simp; omega
  have Hr1 := Lib.hid hr1; clear hr1
  have Hr2 := Lib.hid hr2; clear hr2
  have Hr3 := Lib.hid hr3; clear hr3
  have Hr4 := Lib.hid hr4; clear hr4
  obtain ⟨ga, gb, gc⟩ := hfa
  obtain ⟨ea, eb, ec'⟩ := hfe
  go_enter Try.func6, Try.ntmps6
  go_wp2_with fail
  refine (great_no _ _ _ _ _ _ _ _ fa fb Hg.out).mono ?_
  rintro en w1 ⟨rfl, hw1⟩
  have zhw1 := hw1.size
  try simp at zhw1
  have kd : Blk w1 W.heap.size #[.string b0, .int .i64 s0, .string b1, .int .i64 s1, .int .i64 c, .int .i64 l, .bool dn] 26 := by repeat' (first | (with_reducible assumption) | (with_reducible exact Blk.new _ _ _) | ((with_reducible refine Blk.new' _ _ _ ?_); simp; done) | (with_reducible refine Blk.alloc ?_ _) | (with_reducible refine Blk.drew ?_) | (with_reducible refine Blk.drewN ?_ _) | (with_reducible apply Blk.set) | (with_reducible refine Blk.set' ?_ ?_) | (with_reducible refine Blk.below ?_ (by with_reducible assumption)) | (show @Eq (Array Value) _ _; rfl) | (simp; done) | (simp; omega))
  have kv : Blk w1 (W.heap.size + 1) #[.int .i8 vo, .int .i64 vz, .string vb, .int .i64 vn] 29 := by repeat' (first | (with_reducible assumption) | (with_reducible exact Blk.new _ _ _) | ((with_reducible refine Blk.new' _ _ _ ?_); simp; done) | (with_reducible refine Blk.alloc ?_ _) | (with_reducible refine Blk.drew ?_) | (with_reducible refine Blk.drewN ?_ _) | (with_reducible apply Blk.set) | (with_reducible refine Blk.set' ?_ ?_) | (with_reducible refine Blk.below ?_ (by with_reducible assumption)) | (show @Eq (Array Value) _ _; rfl) | (simp; done) | (simp; omega))
  have ku : Blk w1 (W.heap.size + 1 + 1) #[.int .i8 uo, .int .i64 uz, .string ub, .int .i64 un] 29 := by repeat' (first | (with_reducible assumption) | (with_reducible exact Blk.new _ _ _) | ((with_reducible refine Blk.new' _ _ _ ?_); simp; done) | (with_reducible refine Blk.alloc ?_ _) | (with_reducible refine Blk.drew ?_) | (with_reducible refine Blk.drewN ?_ _) | (with_reducible apply Blk.set) | (with_reducible refine Blk.set' ?_ ?_) | (with_reducible refine Blk.below ?_ (by with_reducible assumption)) | (show @Eq (Array Value) _ _; rfl) | (simp; done) | (simp; omega))
  have cd := kd.cell; have fd := kd.froz; have qd := kd.lt; have cv := kv.cell; have fv := kv.froz; have qv := kv.lt; have cu := ku.cell; have fu := ku.froz; have qu := ku.lt
  go_wp2_with fail
  refine (gw2_no (Blk.new _ _ _) hvb hub Hg2.out).mono ?_
  rintro en w2 ⟨rfl, hw2⟩
  have zhw2 := hw2.size
  try simp at zhw2
  clear cd fd qd cv fv qv cu fu qu
  have kd : Blk w2 W.heap.size #[.string b0, .int .i64 s0, .string b1, .int .i64 s1, .int .i64 c, .int .i64 l, .bool dn] 26 := by repeat' (first | (with_reducible assumption) | (with_reducible exact Blk.new _ _ _) | ((with_reducible refine Blk.new' _ _ _ ?_); simp; done) | (with_reducible refine Blk.alloc ?_ _) | (with_reducible refine Blk.drew ?_) | (with_reducible refine Blk.drewN ?_ _) | (with_reducible apply Blk.set) | (with_reducible refine Blk.set' ?_ ?_) | (with_reducible refine Blk.below ?_ (by with_reducible assumption)) | (show @Eq (Array Value) _ _; rfl) | (simp; done) | (simp; omega))
  have kv : Blk w2 (W.heap.size + 1) #[.int .i8 vo, .int .i64 vz, .string vb, .int .i64 vn] 29 := by repeat' (first | (with_reducible assumption) | (with_reducible exact Blk.new _ _ _) | ((with_reducible refine Blk.new' _ _ _ ?_); simp; done) | (with_reducible refine Blk.alloc ?_ _) | (with_reducible refine Blk.drew ?_) | (with_reducible refine Blk.drewN ?_ _) | (with_reducible apply Blk.set) | (with_reducible refine Blk.set' ?_ ?_) | (with_reducible refine Blk.below ?_ (by with_reducible assumption)) | (show @Eq (Array Value) _ _; rfl) | (simp; done) | (simp; omega))
  have ku : Blk w2 (W.heap.size + 1 + 1) #[.int .i8 uo, .int .i64 uz, .string ub, .int .i64 un] 29 := by repeat' (first | (with_reducible assumption) | (with_reducible exact Blk.new _ _ _) | ((with_reducible refine Blk.new' _ _ _ ?_); simp; done) | (with_reducible refine Blk.alloc ?_ _) | (with_reducible refine Blk.drew ?_) | (with_reducible refine Blk.drewN ?_ _) | (with_reducible apply Blk.set) | (with_reducible refine Blk.set' ?_ ?_) | (with_reducible refine Blk.below ?_ (by with_reducible assumption)) | (show @Eq (Array Value) _ _; rfl) | (simp; done) | (simp; omega))
  have cd := kd.cell; have fd := kd.froz; have qd := kd.lt; have cv := kv.cell; have fv := kv.froz; have qv := kv.lt; have cu := ku.cell; have fu := ku.froz; have qu := ku.lt
  go_wp2_with fail
  refine (do_r _ fa fb hvs fc Hr1.out).mono ?_
  rintro en w3 ⟨rfl, hw3⟩
  have zhw3 := hw3.size
  try simp at zhw3
  clear cd fd qd cv fv qv cu fu qu
  have kd : Blk w3 W.heap.size #[.string b0, .int .i64 s0, .string b1, .int .i64 s1, .int .i64 c, .int .i64 l, .bool dn] 26 := by repeat' (first | (with_reducible assumption) | (with_reducible exact Blk.new _ _ _) | ((with_reducible refine Blk.new' _ _ _ ?_); simp; done) | (with_reducible refine Blk.alloc ?_ _) | (with_reducible refine Blk.drew ?_) | (with_reducible refine Blk.drewN ?_ _) | (with_reducible apply Blk.set) | (with_reducible refine Blk.set' ?_ ?_) | (with_reducible refine Blk.below ?_ (by with_reducible assumption)) | (show @Eq (Array Value) _ _; rfl) | (simp; done) | (simp; omega))
  have kv : Blk w3 (W.heap.size + 1) #[.int .i8 vo, .int .i64 vz, .string vb, .int .i64 vn] 29 := by repeat' (first | (with_reducible assumption) | (with_reducible exact Blk.new _ _ _) | ((with_reducible refine Blk.new' _ _ _ ?_); simp; done) | (with_reducible refine Blk.alloc ?_ _) | (with_reducible refine Blk.drew ?_) | (with_reducible refine Blk.drewN ?_ _) | (with_reducible apply Blk.set) | (with_reducible refine Blk.set' ?_ ?_) | (with_reducible refine Blk.below ?_ (by with_reducible assumption)) | (show @Eq (Array Value) _ _; rfl) | (simp; done) | (simp; omega))
  have ku : Blk w3 (W.heap.size + 1 + 1) #[.int .i8 uo, .int .i64 uz, .string ub, .int .i64 un] 29 := by repeat' (first | (with_reducible assumption) | (with_reducible exact Blk.new _ _ _) | ((with_reducible refine Blk.new' _ _ _ ?_); simp; done) | (with_reducible refine Blk.alloc ?_ _) | (with_reducible refine Blk.drew ?_) | (with_reducible refine Blk.drewN ?_ _) | (with_reducible apply Blk.set) | (with_reducible refine Blk.set' ?_ ?_) | (with_reducible refine Blk.below ?_ (by with_reducible assumption)) | (show @Eq (Array Value) _ _; rfl) | (simp; done) | (simp; omega))
  have cd := kd.cell; have fd := kd.froz; have qd := kd.lt; have cv := kv.cell; have fv := kv.froz; have qv := kv.lt; have cu := ku.cell; have fu := ku.froz; have qu := ku.lt
  go_wp2_with fail
  refine (do_r _ fa fb hus fc Hr2.out).mono ?_
  rintro en w4 ⟨rfl, hw4⟩
  have zhw4 := hw4.size
  try simp at zhw4
  clear cd fd qd cv fv qv cu fu qu
  have kd : Blk w4 W.heap.size #[.string b0, .int .i64 s0, .string b1, .int .i64 s1, .int .i64 c, .int .i64 l, .bool dn] 26 := by repeat' (first | (with_reducible assumption) | (with_reducible exact Blk.new _ _ _) | ((with_reducible refine Blk.new' _ _ _ ?_); simp; done) | (with_reducible refine Blk.alloc ?_ _) | (with_reducible refine Blk.drew ?_) | (with_reducible refine Blk.drewN ?_ _) | (with_reducible apply Blk.set) | (with_reducible refine Blk.set' ?_ ?_) | (with_reducible refine Blk.below ?_ (by with_reducible assumption)) | (show @Eq (Array Value) _ _; rfl) | (simp; done) | (simp; omega))
  have kv : Blk w4 (W.heap.size + 1) #[.int .i8 vo, .int .i64 vz, .string vb, .int .i64 vn] 29 := by repeat' (first | (with_reducible assumption) | (with_reducible exact Blk.new _ _ _) | ((with_reducible refine Blk.new' _ _ _ ?_); simp; done) | (with_reducible refine Blk.alloc ?_ _) | (with_reducible refine Blk.drew ?_) | (with_reducible refine Blk.drewN ?_ _) | (with_reducible apply Blk.set) | (with_reducible refine Blk.set' ?_ ?_) | (with_reducible refine Blk.below ?_ (by with_reducible assumption)) | (show @Eq (Array Value) _ _; rfl) | (simp; done) | (simp; omega))
  have ku : Blk w4 (W.heap.size + 1 + 1) #[.int .i8 uo, .int .i64 uz, .string ub, .int .i64 un] 29 := by repeat' (first | (with_reducible assumption) | (with_reducible exact Blk.new _ _ _) | ((with_reducible refine Blk.new' _ _ _ ?_); simp; done) | (with_reducible refine Blk.alloc ?_ _) | (with_reducible refine Blk.drew ?_) | (with_reducible refine Blk.drewN ?_ _) | (with_reducible apply Blk.set) | (with_reducible refine Blk.set' ?_ ?_) | (with_reducible refine Blk.below ?_ (by with_reducible assumption)) | (show @Eq (Array Value) _ _; rfl) | (simp; done) | (simp; omega))
  have ka : Blk w4 w3.heap.size #[.string a0, .int .i64 p0, .string a1, .int .i64 p1, .int .i64 ac, .int .i64 al, .bool ad] 26 := by repeat' (first | (with_reducible assumption) | (with_reducible exact Blk.new _ _ _) | ((with_reducible refine Blk.new' _ _ _ ?_); simp; done) | (with_reducible refine Blk.alloc ?_ _) | (with_reducible refine Blk.drew ?_) | (with_reducible refine Blk.drewN ?_ _) | (with_reducible apply Blk.set) | (with_reducible refine Blk.set' ?_ ?_) | (with_reducible refine Blk.below ?_ (by with_reducible assumption)) | (show @Eq (Array Value) _ _; rfl) | (simp; done) | (simp; omega))
  have cd := kd.cell; have fd := kd.froz; have qd := kd.lt; have cv := kv.cell; have fv := kv.froz; have qv := kv.lt; have cu := ku.cell; have fu := ku.froz; have qu := ku.lt; have ca := ka.cell; have fa := ka.froz; have qa := ka.lt
  go_wp2_with fail
  refine (do_r _ ga gb hus gc Hr3.out).mono ?_
  rintro en w5 ⟨rfl, hw5⟩
  have zhw5 := hw5.size
  try simp at zhw5
  clear cd fd qd cv fv qv cu fu qu ca fa qa
  have kd : Blk w5 W.heap.size #[.string b0, .int .i64 s0, .string b1, .int .i64 s1, .int .i64 c, .int .i64 l, .bool dn] 26 := by repeat' (first | (with_reducible assumption) | (with_reducible exact Blk.new _ _ _) | ((with_reducible refine Blk.new' _ _ _ ?_); simp; done) | (with_reducible refine Blk.alloc ?_ _) | (with_reducible refine Blk.drew ?_) | (with_reducible refine Blk.drewN ?_ _) | (with_reducible apply Blk.set) | (with_reducible refine Blk.set' ?_ ?_) | (with_reducible refine Blk.below ?_ (by with_reducible assumption)) | (show @Eq (Array Value) _ _; rfl) | (simp; done) | (simp; omega))
  have kv : Blk w5 (W.heap.size + 1) #[.int .i8 vo, .int .i64 vz, .string vb, .int .i64 vn] 29 := by repeat' (first | (with_reducible assumption) | (with_reducible exact Blk.new _ _ _) | ((with_reducible refine Blk.new' _ _ _ ?_); simp; done) | (with_reducible refine Blk.alloc ?_ _) | (with_reducible refine Blk.drew ?_) | (with_reducible refine Blk.drewN ?_ _) | (with_reducible apply Blk.set) | (with_reducible refine Blk.set' ?_ ?_) | (with_reducible refine Blk.below ?_ (by with_reducible assumption)) | (show @Eq (Array Value) _ _; rfl) | (simp; done) | (simp; omega))
  have ku : Blk w5 (W.heap.size + 1 + 1) #[.int .i8 uo, .int .i64 uz, .string ub, .int .i64 un] 29 := by repeat' (first | (with_reducible assumption) | (with_reducible exact Blk.new _ _ _) | ((with_reducible refine Blk.new' _ _ _ ?_); simp; done) | (with_reducible refine Blk.alloc ?_ _) | (with_reducible refine Blk.drew ?_) | (with_reducible refine Blk.drewN ?_ _) | (with_reducible apply Blk.set) | (with_reducible refine Blk.set' ?_ ?_) | (with_reducible refine Blk.below ?_ (by with_reducible assumption)) | (show @Eq (Array Value) _ _; rfl) | (simp; done) | (simp; omega))
  have ka : Blk w5 w3.heap.size #[.string a0, .int .i64 p0, .string a1, .int .i64 p1, .int .i64 ac, .int .i64 al, .bool ad] 26 := by repeat' (first | (with_reducible assumption) | (with_reducible exact Blk.new _ _ _) | ((with_reducible refine Blk.new' _ _ _ ?_); simp; done) | (with_reducible refine Blk.alloc ?_ _) | (with_reducible refine Blk.drew ?_) | (with_reducible refine Blk.drewN ?_ _) | (with_reducible apply Blk.set) | (with_reducible refine Blk.set' ?_ ?_) | (with_reducible refine Blk.below ?_ (by with_reducible assumption)) | (show @Eq (Array Value) _ _; rfl) | (simp; done) | (simp; omega))
  have ke : Blk w5 w4.heap.size #[.string e0, .int .i64 g0, .string e1, .int .i64 g1, .int .i64 ec, .int .i64 el, .bool ed] 26 := by repeat' (first | (with_reducible assumption) | (with_reducible exact Blk.new _ _ _) | ((with_reducible refine Blk.new' _ _ _ ?_); simp; done) | (with_reducible refine Blk.alloc ?_ _) | (with_reducible refine Blk.drew ?_) | (with_reducible refine Blk.drewN ?_ _) | (with_reducible apply Blk.set) | (with_reducible refine Blk.set' ?_ ?_) | (with_reducible refine Blk.below ?_ (by with_reducible assumption)) | (show @Eq (Array Value) _ _; rfl) | (simp; done) | (simp; omega))
  have cd := kd.cell; have fd := kd.froz; have qd := kd.lt; have cv := kv.cell; have fv := kv.froz; have qv := kv.lt; have cu := ku.cell; have fu := ku.froz; have qu := ku.lt; have ca := ka.cell; have fa := ka.froz; have qa := ka.lt; have ce := ke.cell; have fe := ke.froz; have qe := ke.lt
  go_wp2_with fail
  refine (do_r _ ea eb hvs ec' Hr4.out).mono ?_
  rintro en w6 ⟨rfl, hw6⟩
  have zhw6 := hw6.size
  try simp at zhw6
  clear cd fd qd cv fv qv cu fu qu ca fa qa ce fe qe
  have kd : Blk w6 W.heap.size #[.string b0, .int .i64 s0, .string b1, .int .i64 s1, .int .i64 c, .int .i64 l, .bool dn] 26 := by repeat' (first | (with_reducible assumption) | (with_reducible exact Blk.new _ _ _) | ((with_reducible refine Blk.new' _ _ _ ?_); simp; done) | (with_reducible refine Blk.alloc ?_ _) | (with_reducible refine Blk.drew ?_) | (with_reducible refine Blk.drewN ?_ _) | (with_reducible apply Blk.set) | (with_reducible refine Blk.set' ?_ ?_) | (with_reducible refine Blk.below ?_ (by with_reducible assumption)) | (show @Eq (Array Value) _ _; rfl) | (simp; done) | (simp; omega))
  have kv : Blk w6 (W.heap.size + 1) #[.int .i8 vo, .int .i64 vz, .string vb, .int .i64 vn] 29 := by repeat' (first | (with_reducible assumption) | (with_reducible exact Blk.new _ _ _) | ((with_reducible refine Blk.new' _ _ _ ?_); simp; done) | (with_reducible refine Blk.alloc ?_ _) | (with_reducible refine Blk.drew ?_) | (with_reducible refine Blk.drewN ?_ _) | (with_reducible apply Blk.set) | (with_reducible refine Blk.set' ?_ ?_) | (with_reducible refine Blk.below ?_ (by with_reducible assumption)) | (show @Eq (Array Value) _ _; rfl) | (simp; done) | (simp; omega))
  have ku : Blk w6 (W.heap.size + 1 + 1) #[.int .i8 uo, .int .i64 uz, .string ub, .int .i64 un] 29 := by repeat' (first | (with_reducible assumption) | (with_reducible exact Blk.new _ _ _) | ((with_reducible refine Blk.new' _ _ _ ?_); simp; done) | (with_reducible refine Blk.alloc ?_ _) | (with_reducible refine Blk.drew ?_) | (with_reducible refine Blk.drewN ?_ _) | (with_reducible apply Blk.set) | (with_reducible refine Blk.set' ?_ ?_) | (with_reducible refine Blk.below ?_ (by with_reducible assumption)) | (show @Eq (Array Value) _ _; rfl) | (simp; done) | (simp; omega))
  have ka : Blk w6 w3.heap.size #[.string a0, .int .i64 p0, .string a1, .int .i64 p1, .int .i64 ac, .int .i64 al, .bool ad] 26 := by repeat' (first | (with_reducible assumption) | (with_reducible exact Blk.new _ _ _) | ((with_reducible refine Blk.new' _ _ _ ?_); simp; done) | (with_reducible refine Blk.alloc ?_ _) | (with_reducible refine Blk.drew ?_) | (with_reducible refine Blk.drewN ?_ _) | (with_reducible apply Blk.set) | (with_reducible refine Blk.set' ?_ ?_) | (with_reducible refine Blk.below ?_ (by with_reducible assumption)) | (show @Eq (Array Value) _ _; rfl) | (simp; done) | (simp; omega))
  have ke : Blk w6 w4.heap.size #[.string e0, .int .i64 g0, .string e1, .int .i64 g1, .int .i64 ec, .int .i64 el, .bool ed] 26 := by repeat' (first | (with_reducible assumption) | (with_reducible exact Blk.new _ _ _) | ((with_reducible refine Blk.new' _ _ _ ?_); simp; done) | (with_reducible refine Blk.alloc ?_ _) | (with_reducible refine Blk.drew ?_) | (with_reducible refine Blk.drewN ?_ _) | (with_reducible apply Blk.set) | (with_reducible refine Blk.set' ?_ ?_) | (with_reducible refine Blk.below ?_ (by with_reducible assumption)) | (show @Eq (Array Value) _ _; rfl) | (simp; done) | (simp; omega))
  have kx : Blk w6 w5.heap.size #[.string m0, .int .i64 n0, .string m1, .int .i64 n1, .int .i64 mc, .int .i64 ml, .bool md] 26 := by repeat' (first | (with_reducible assumption) | (with_reducible exact Blk.new _ _ _) | ((with_reducible refine Blk.new' _ _ _ ?_); simp; done) | (with_reducible refine Blk.alloc ?_ _) | (with_reducible refine Blk.drew ?_) | (with_reducible refine Blk.drewN ?_ _) | (with_reducible apply Blk.set) | (with_reducible refine Blk.set' ?_ ?_) | (with_reducible refine Blk.below ?_ (by with_reducible assumption)) | (show @Eq (Array Value) _ _; rfl) | (simp; done) | (simp; omega))
  have cd := kd.cell; have fd := kd.froz; have qd := kd.lt; have cv := kv.cell; have fv := kv.froz; have qv := kv.lt; have cu := ku.cell; have fu := ku.froz; have qu := ku.lt; have ca := ka.cell; have fa := ka.froz; have qa := ka.lt; have ce := ke.cell; have fe := ke.froz; have qe := ke.lt; have cx := kx.cell; have fx := kx.froz; have qx := kx.lt
  go_wp2_with fail
  refine (same_yes _ _ _ _ _ _ _ _).mono ?_
  rintro en w7 ⟨rfl, hw7⟩
  have zhw7 := hw7.size
  try simp at zhw7
  go_wp2_with fail
  refine (wakes_any _).mono ?_
  rintro en wz ⟨rfl, hbz⟩
  have zz := hbz.size
  try simp at zz
  go_wp2_with fail
  go_ret
  refine ⟨rfl, ?_⟩
  repeat' (first | (with_reducible exact Below.refl _ _) | (with_reducible assumption) | (with_reducible refine below_call ?_ (by with_reducible assumption)) | (with_reducible refine below_draws ?_ _) | (with_reducible refine Below.drew ?_) | (with_reducible refine Below.alloc ?_ ?_ _) | (with_reducible refine Below.setCell ?_ ?_ _) | omega | (simp; done) | (simp; omega))
end Go.Proofs.Ytjgbnagacbiolaa
