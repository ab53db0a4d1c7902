import Derived.Test.YtjgbnagacbiolaaDA
import Derived.Test.YtjgbnagacbiolaaRL
namespace Go.Proofs.Ytjgbnagacbiolaa
open Go.RowKit
set_option linter.unusedVariables false
set_option linter.unusedSimpArgs false
def sameB (b0 : ByteArray) (s0 : Int) (b1 : ByteArray) (s1 c l : Int) (d : Bool) (a0 : ByteArray) (r0 : Int) (a1 : ByteArray) (r1 c' l' : Int) (d' : Bool) : Bool :=
  zeq b0 s0 a0 r0 && zeq b1 s1 a1 r1 && c == c' && l == l' && d == d'
theorem sameB_iff (b0 : ByteArray) (s0 : Int) (b1 : ByteArray) (s1 c l : Int) (d : Bool) (a0 : ByteArray) (r0 : Int) (a1 : ByteArray) (r1 c' l' : Int) (d' : Bool) :
    sameB b0 s0 b1 s1 c l d a0 r0 a1 r1 c' l' d' = true ↔ SameD b0 s0 b1 s1 c l d a0 r0 a1 r1 c' l' d' := by
  simp only [sameB, SameD, Bool.and_eq_true, zeq_iff, beq_iff_eq]
  constructor
  · rintro ⟨⟨⟨⟨⟨a, b⟩, c, d⟩, e⟩, f⟩, g⟩; exact ⟨a, b, c, d, e, f, g⟩
  · rintro ⟨a, b, c, d, e, f, g⟩; exact ⟨⟨⟨⟨⟨a, b⟩, c, d⟩, e⟩, f⟩, g⟩
theorem sameB_self (b0 : ByteArray) (s0 : Int) (b1 : ByteArray) (s1 c l : Int) (d : Bool) : sameB b0 s0 b1 s1 c l d b0 s0 b1 s1 c l d = true :=
  (sameB_iff ..).2 ⟨rfl, rfl, rfl, rfl, rfl, rfl, rfl⟩
theorem same_b (a0 a1 b0 b1 : ByteArray) (r0 r1 s0 s1 c l c' l' : Int) (d d' : Bool) (w : World) :
    Calls Try.prog 22 #[.agg #[.string b0, .int .i64 s0, .string b1, .int .i64 s1, .int .i64 c, .int .i64 l, .bool d], .agg #[.string a0, .int .i64 r0, .string a1, .int .i64 r1, .int .i64 c', .int .i64 l', .bool d']] w (RetB (sameB b0 s0 b1 s1 c l d a0 r0 a1 r1 c' l' d') w) :=
  (same_any a0 a1 b0 b1 r0 r1 s0 s1 c l c' l' d d' w).mono fun e w' ⟨p, he, hp, hb⟩ => ⟨by rw [he, show p = sameB b0 s0 b1 s1 c l d a0 r0 a1 r1 c' l' d' from by rw [Bool.eq_iff_iff, sameB_iff]; exact hp], hb⟩
theorem rsame_b (a0 a1 b0 b1 : ByteArray) (r0 r1 s0 s1 c l c' l' : Int) (d d' : Bool) (w : World) :
    Calls Try.prog 13 #[.agg #[.string b0, .int .i64 s0, .string b1, .int .i64 s1, .int .i64 c, .int .i64 l, .bool d], .agg #[.string a0, .int .i64 r0, .string a1, .int .i64 r1, .int .i64 c', .int .i64 l', .bool d']] w (RetB (sameB b0 s0 b1 s1 c l d a0 r0 a1 r1 c' l' d') w) :=
  (rsame_any a0 a1 b0 b1 r0 r1 s0 s1 c l c' l' d d' w).mono fun e w' ⟨p, he, hp, hb⟩ => ⟨by rw [he, show p = sameB b0 s0 b1 s1 c l d a0 r0 a1 r1 c' l' d' from by rw [Bool.eq_iff_iff, sameB_iff]; exact hp], hb⟩
theorem arm_r {b0 b1 : ByteArray} {s0 s1 c l n : Int} {d : Bool} (w : World) {z0 z1 : ByteArray} {r0 r1 zc zl e : Int} {zd : Bool} (h0 : b0.size ≤ maxLen) (h1 : b1.size ≤ maxLen)
    (hr : armF ⟨⟨b0, s0⟩, ⟨b1, s1⟩, c, l, d⟩ n = (⟨⟨z0, r0⟩, ⟨z1, r1⟩, zc, zl, zd⟩, e)) :
    Calls Try.prog 14 #[.agg #[.string b0, .int .i64 s0, .string b1, .int .i64 s1, .int .i64 c, .int .i64 l, .bool d], .int .i64 n] w fun en w' => en = .returned (.tuple #[.agg #[.string z0, .int .i64 r0, .string z1, .int .i64 r1, .int .i64 zc, .int .i64 zl, .bool zd], .int .i64 e]) ∧ Below w.heap.size w w' := by
  have := arm_any b0 b1 s0 s1 c l n d w h0 h1
  rw [hr] at this
  exact this
theorem rarm_r {b0 b1 : ByteArray} {s0 s1 c l n : Int} {d : Bool} (w : World) {z0 z1 : ByteArray} {r0 r1 zc zl e : Int} {zd : Bool} (h0 : b0.size ≤ maxLen) (h1 : b1.size ≤ maxLen)
    (hr : armF ⟨⟨b0, s0⟩, ⟨b1, s1⟩, c, l, d⟩ n = (⟨⟨z0, r0⟩, ⟨z1, r1⟩, zc, zl, zd⟩, e)) :
    Calls Try.prog 15 #[.agg #[.string b0, .int .i64 s0, .string b1, .int .i64 s1, .int .i64 c, .int .i64 l, .bool d], .int .i64 n] w fun en w' => en = .returned (.tuple #[.agg #[.string z0, .int .i64 r0, .string z1, .int .i64 r1, .int .i64 zc, .int .i64 zl, .bool zd], .int .i64 e]) ∧ Below w.heap.size w w' := by
  have := rarm_any b0 b1 s0 s1 c l n d w h0 h1
  rw [hr] at this
  exact this
theorem crash_r {b0 b1 : ByteArray} {s0 s1 c l m n : Int} {d : Bool} (w : World) {z0 z1 : ByteArray} {r0 r1 zc zl e : Int} {zd : Bool} (h0 : b0.size ≤ maxLen) (h1 : b1.size ≤ maxLen)
    (hr : crashF ⟨⟨b0, s0⟩, ⟨b1, s1⟩, c, l, d⟩ m n = (⟨⟨z0, r0⟩, ⟨z1, r1⟩, zc, zl, zd⟩, e)) :
    Calls Try.prog 16 #[.agg #[.string b0, .int .i64 s0, .string b1, .int .i64 s1, .int .i64 c, .int .i64 l, .bool d], .int .i64 m, .int .i64 n] w fun en w' => en = .returned (.tuple #[.agg #[.string z0, .int .i64 r0, .string z1, .int .i64 r1, .int .i64 zc, .int .i64 zl, .bool zd], .int .i64 e]) ∧ Below w.heap.size w w' := by
  have := crash_any b0 b1 s0 s1 c l m n d w h0 h1
  rw [hr] at this
  exact this
theorem rcrash_r {b0 b1 : ByteArray} {s0 s1 c l m n : Int} {d : Bool} (w : World) {z0 z1 : ByteArray} {r0 r1 zc zl e : Int} {zd : Bool} (h0 : b0.size ≤ maxLen) (h1 : b1.size ≤ maxLen)
    (hr : crashF ⟨⟨b0, s0⟩, ⟨b1, s1⟩, c, l, d⟩ m n = (⟨⟨z0, r0⟩, ⟨z1, r1⟩, zc, zl, zd⟩, e)) :
    Calls Try.prog 17 #[.agg #[.string b0, .int .i64 s0, .string b1, .int .i64 s1, .int .i64 c, .int .i64 l, .bool d], .int .i64 m, .int .i64 n] w fun en w' => en = .returned (.tuple #[.agg #[.string z0, .int .i64 r0, .string z1, .int .i64 r1, .int .i64 zc, .int .i64 zl, .bool zd], .int .i64 e]) ∧ Below w.heap.size w w' := by
  have := rcrash_any b0 b1 s0 s1 c l m n d w h0 h1
  rw [hr] at this
  exact this
theorem new_r {n : Int} (w : World) {z0 z1 : ByteArray} {r0 r1 zc zl e : Int} {zd : Bool} (hr : newF n = (⟨⟨z0, r0⟩, ⟨z1, r1⟩, zc, zl, zd⟩, e)) :
    Calls Try.prog 18 #[.int .i64 n] w fun en w' => en = .returned (.tuple #[.agg #[.string z0, .int .i64 r0, .string z1, .int .i64 r1, .int .i64 zc, .int .i64 zl, .bool zd], .int .i64 e]) ∧ Below w.heap.size w w' := by
  have := new_any n w
  rw [hr] at this
  exact this
theorem rnew_r {n : Int} (w : World) {z0 z1 : ByteArray} {r0 r1 zc zl e : Int} {zd : Bool} (hr : newF n = (⟨⟨z0, r0⟩, ⟨z1, r1⟩, zc, zl, zd⟩, e)) :
    Calls Try.prog 19 #[.int .i64 n] w fun en w' => en = .returned (.tuple #[.agg #[.string z0, .int .i64 r0, .string z1, .int .i64 r1, .int .i64 zc, .int .i64 zl, .bool zd], .int .i64 e]) ∧ Below w.heap.size w w' := by
  have := rnew_any n w
  rw [hr] at this
  exact this
/-- GreatWrites of one operation that lies in a block. -/
theorem gw1 {w : World} {g : Nat} {vo vz vn : Int} {vb : ByteArray} (h : Blk w g #[.int .i8 vo, .int .i64 vz, .string vb, .int .i64 vn] 29) (hv : vb.size ≤ maxLen) :
    Calls Try.prog 9 #[.slice (some ⟨g, 0, none⟩) 1 1] w (RetP (4096 < vb.size) w) := by
  have hw : WrAt w g 0 [⟨vo, vz, vb, vn⟩] := by
    intro i hi
    simp only [h.cell]
    have : i < 1 := hi
    match i, this with
    | 0, _ => exact ⟨rfl, rfl, rfl, rfl⟩
  refine (greatw_slice g 0 1 [⟨vo, vz, vb, vn⟩] w hw (Nat.le_refl 1) (by unfold maxLen; decide) (by intro x hx; simp at hx; subst hx; assumption)).mono fun e w' ⟨p, he, hp, hb⟩ => ⟨p, he, ?_, hb⟩
  rw [hp]; simp [GreatW]
theorem gw1_yes {w : World} {g : Nat} {vo vz vn : Int} {vb : ByteArray} (h : Blk w g #[.int .i8 vo, .int .i64 vz, .string vb, .int .i64 vn] 29) (hv : vb.size ≤ maxLen) (hg : 4096 < vb.size) :
    Calls Try.prog 9 #[.slice (some ⟨g, 0, none⟩) 1 1] w (RetB true w) := (gw1 h hv).mono fun e w' ⟨p, he, hp, hb⟩ => ⟨by rw [he, hp.2 hg], hb⟩
theorem gw1_no {w : World} {g : Nat} {vo vz vn : Int} {vb : ByteArray} (h : Blk w g #[.int .i8 vo, .int .i64 vz, .string vb, .int .i64 vn] 29) (hv : vb.size ≤ maxLen) (hg : ¬ 4096 < vb.size) :
    Calls Try.prog 9 #[.slice (some ⟨g, 0, none⟩) 1 1] w (RetB false w) := (gw1 h hv).mono fun e w' ⟨p, he, hp, hb⟩ => ⟨by rw [he, Bool.eq_false_iff.2 (fun hh => hg (hp.1 hh))], hb⟩
set_option maxHeartbeats 1600000 in
theorem te_g1 (b0 b1 y0 y1 vb : ByteArray) (s0 s1 c l t0 t1 oc ol vo vz vn n a b : Int) (dn on : Bool) (W : World) (fa : b0.size ≤ maxLen) (fb : b1.size ≤ maxLen) (fc : l ≤ 9223372036854775807) (ga : y0.size ≤ maxLen) (gb : y1.size ≤ maxLen) (hvb : vb.size ≤ maxLen) (hg : 262144 < b0.size ∨ 262144 < b1.size) :
    Calls Try.prog 3 #[.agg #[.string b0, .int .i64 s0, .string b1, .int .i64 s1, .int .i64 c, .int .i64 l, .bool dn], .agg #[.string y0, .int .i64 t0, .string y1, .int .i64 t1, .int .i64 oc, .int .i64 ol, .bool on], .agg #[.int .i8 vo, .int .i64 vz, .string vb, .int .i64 vn], .int .i64 n, .int .i64 a, .int .i64 b] W (RetB true W) := by
  have Hg := Lib.hid hg; clear hg
  go_enter Try.func3, Try.ntmps3
  go_wp2_with fail
  refine (great_yes _ _ _ _ _ _ _ _ fa fb Hg.out).mono ?_
  rintro en w1 ⟨rfl, hw1⟩
  have zhw1 := hw1.size
  try simp at zhw1
  go_wp2_with fail
  refine (wakes_any _).mono ?_
  rintro en wz ⟨rfl, hbz⟩
  have zz := hbz.size
  try simp at zz
  go_wp2_with fail
  go_ret
  refine ⟨rfl, ?_⟩
  repeat' (first | (with_reducible exact Below.refl _ _) | (with_reducible assumption) | (with_reducible refine below_call ?_ (by with_reducible assumption)) | (with_reducible refine below_draws ?_ _) | (with_reducible refine Below.drew ?_) | (with_reducible refine Below.alloc ?_ ?_ _) | (with_reducible refine Below.setCell ?_ ?_ _) | omega | (simp; done) | (simp; omega))
set_option maxHeartbeats 1600000 in
theorem te_g2 (b0 b1 y0 y1 vb : ByteArray) (s0 s1 c l t0 t1 oc ol vo vz vn n a b : Int) (dn on : Bool) (W : World) (fa : b0.size ≤ maxLen) (fb : b1.size ≤ maxLen) (fc : l ≤ 9223372036854775807) (ga : y0.size ≤ maxLen) (gb : y1.size ≤ maxLen) (hvb : vb.size ≤ maxLen) (hg : ¬ (262144 < b0.size ∨ 262144 < b1.size)) (hg2 : 262144 < y0.size ∨ 262144 < y1.size) :
    Calls Try.prog 3 #[.agg #[.string b0, .int .i64 s0, .string b1, .int .i64 s1, .int .i64 c, .int .i64 l, .bool dn], .agg #[.string y0, .int .i64 t0, .string y1, .int .i64 t1, .int .i64 oc, .int .i64 ol, .bool on], .agg #[.int .i8 vo, .int .i64 vz, .string vb, .int .i64 vn], .int .i64 n, .int .i64 a, .int .i64 b] W (RetB true W) := by
  have Hg := Lib.hid hg; clear hg
  have Hg2 := Lib.hid hg2; clear hg2
  go_enter Try.func3, Try.ntmps3
  go_wp2_with fail
  refine (great_no _ _ _ _ _ _ _ _ fa fb Hg.out).mono ?_
  rintro en w1 ⟨rfl, hw1⟩
  have zhw1 := hw1.size
  try simp at zhw1
  have kd : Blk w1 W.heap.size #[.string b0, .int .i64 s0, .string b1, .int .i64 s1, .int .i64 c, .int .i64 l, .bool dn] 26 := by repeat' (first | (with_reducible assumption) | (with_reducible exact Blk.new _ _ _) | ((with_reducible refine Blk.new' _ _ _ ?_); simp; done) | (with_reducible refine Blk.alloc ?_ _) | (with_reducible refine Blk.drew ?_) | (with_reducible refine Blk.drewN ?_ _) | (with_reducible apply Blk.set) | (with_reducible refine Blk.set' ?_ ?_) | (with_reducible refine Blk.below ?_ (by with_reducible assumption)) | (show @Eq (Array Value) _ _; rfl) | (simp; done) | (simp; omega))
  have ko : Blk w1 (W.heap.size + 1) #[.string y0, .int .i64 t0, .string y1, .int .i64 t1, .int .i64 oc, .int .i64 ol, .bool on] 26 := by repeat' (first | (with_reducible assumption) | (with_reducible exact Blk.new _ _ _) | ((with_reducible refine Blk.new' _ _ _ ?_); simp; done) | (with_reducible refine Blk.alloc ?_ _) | (with_reducible refine Blk.drew ?_) | (with_reducible refine Blk.drewN ?_ _) | (with_reducible apply Blk.set) | (with_reducible refine Blk.set' ?_ ?_) | (with_reducible refine Blk.below ?_ (by with_reducible assumption)) | (show @Eq (Array Value) _ _; rfl) | (simp; done) | (simp; omega))
  have kv : Blk w1 (W.heap.size + 1 + 1) #[.int .i8 vo, .int .i64 vz, .string vb, .int .i64 vn] 29 := by repeat' (first | (with_reducible assumption) | (with_reducible exact Blk.new _ _ _) | ((with_reducible refine Blk.new' _ _ _ ?_); simp; done) | (with_reducible refine Blk.alloc ?_ _) | (with_reducible refine Blk.drew ?_) | (with_reducible refine Blk.drewN ?_ _) | (with_reducible apply Blk.set) | (with_reducible refine Blk.set' ?_ ?_) | (with_reducible refine Blk.below ?_ (by with_reducible assumption)) | (show @Eq (Array Value) _ _; rfl) | (simp; done) | (simp; omega))
  have cd := kd.cell; have fd := kd.froz; have qd := kd.lt; have co := ko.cell; have fo := ko.froz; have qo := ko.lt; have cv := kv.cell; have fv := kv.froz; have qv := kv.lt
  go_wp2_with fail
  refine (great_yes _ _ _ _ _ _ _ _ ga gb Hg2.out).mono ?_
  rintro en w2 ⟨rfl, hw2⟩
  have zhw2 := hw2.size
  try simp at zhw2
  go_wp2_with fail
  refine (wakes_any _).mono ?_
  rintro en wz ⟨rfl, hbz⟩
  have zz := hbz.size
  try simp at zz
  go_wp2_with fail
  go_ret
  refine ⟨rfl, ?_⟩
  repeat' (first | (with_reducible exact Below.refl _ _) | (with_reducible assumption) | (with_reducible refine below_call ?_ (by with_reducible assumption)) | (with_reducible refine below_draws ?_ _) | (with_reducible refine Below.drew ?_) | (with_reducible refine Below.alloc ?_ ?_ _) | (with_reducible refine Below.setCell ?_ ?_ _) | omega | (simp; done) | (simp; omega))
set_option maxHeartbeats 1600000 in
theorem te_g3 (b0 b1 y0 y1 vb : ByteArray) (s0 s1 c l t0 t1 oc ol vo vz vn n a b : Int) (dn on : Bool) (W : World) (fa : b0.size ≤ maxLen) (fb : b1.size ≤ maxLen) (fc : l ≤ 9223372036854775807) (ga : y0.size ≤ maxLen) (gb : y1.size ≤ maxLen) (hvb : vb.size ≤ maxLen) (hg : ¬ (262144 < b0.size ∨ 262144 < b1.size)) (hg2 : ¬ (262144 < y0.size ∨ 262144 < y1.size)) (hg3 : 4096 < vb.size) :
    Calls Try.prog 3 #[.agg #[.string b0, .int .i64 s0, .string b1, .int .i64 s1, .int .i64 c, .int .i64 l, .bool dn], .agg #[.string y0, .int .i64 t0, .string y1, .int .i64 t1, .int .i64 oc, .int .i64 ol, .bool on], .agg #[.int .i8 vo, .int .i64 vz, .string vb, .int .i64 vn], .int .i64 n, .int .i64 a, .int .i64 b] W (RetB true W) := by
  have Hg := Lib.hid hg; clear hg
  have Hg2 := Lib.hid hg2; clear hg2
  have Hg3 := Lib.hid hg3; clear hg3
  go_enter Try.func3, Try.ntmps3
  go_wp2_with fail
  refine (great_no _ _ _ _ _ _ _ _ fa fb Hg.out).mono ?_
  rintro en w1 ⟨rfl, hw1⟩
  have zhw1 := hw1.size
  try simp at zhw1
  have kd : Blk w1 W.heap.size #[.string b0, .int .i64 s0, .string b1, .int .i64 s1, .int .i64 c, .int .i64 l, .bool dn] 26 := by repeat' (first | (with_reducible assumption) | (with_reducible exact Blk.new _ _ _) | ((with_reducible refine Blk.new' _ _ _ ?_); simp; done) | (with_reducible refine Blk.alloc ?_ _) | (with_reducible refine Blk.drew ?_) | (with_reducible refine Blk.drewN ?_ _) | (with_reducible apply Blk.set) | (with_reducible refine Blk.set' ?_ ?_) | (with_reducible refine Blk.below ?_ (by with_reducible assumption)) | (show @Eq (Array Value) _ _; rfl) | (simp; done) | (simp; omega))
  have ko : Blk w1 (W.heap.size + 1) #[.string y0, .int .i64 t0, .string y1, .int .i64 t1, .int .i64 oc, .int .i64 ol, .bool on] 26 := by repeat' (first | (with_reducible assumption) | (with_reducible exact Blk.new _ _ _) | ((with_reducible refine Blk.new' _ _ _ ?_); simp; done) | (with_reducible refine Blk.alloc ?_ _) | (with_reducible refine Blk.drew ?_) | (with_reducible refine Blk.drewN ?_ _) | (with_reducible apply Blk.set) | (with_reducible refine Blk.set' ?_ ?_) | (with_reducible refine Blk.below ?_ (by with_reducible assumption)) | (show @Eq (Array Value) _ _; rfl) | (simp; done) | (simp; omega))
  have kv : Blk w1 (W.heap.size + 1 + 1) #[.int .i8 vo, .int .i64 vz, .string vb, .int .i64 vn] 29 := by repeat' (first | (with_reducible assumption) | (with_reducible exact Blk.new _ _ _) | ((with_reducible refine Blk.new' _ _ _ ?_); simp; done) | (with_reducible refine Blk.alloc ?_ _) | (with_reducible refine Blk.drew ?_) | (with_reducible refine Blk.drewN ?_ _) | (with_reducible apply Blk.set) | (with_reducible refine Blk.set' ?_ ?_) | (with_reducible refine Blk.below ?_ (by with_reducible assumption)) | (show @Eq (Array Value) _ _; rfl) | (simp; done) | (simp; omega))
  have cd := kd.cell; have fd := kd.froz; have qd := kd.lt; have co := ko.cell; have fo := ko.froz; have qo := ko.lt; have cv := kv.cell; have fv := kv.froz; have qv := kv.lt
  go_wp2_with fail
  refine (great_no _ _ _ _ _ _ _ _ ga gb Hg2.out).mono ?_
  rintro en w2 ⟨rfl, hw2⟩
  have zhw2 := hw2.size
  try simp at zhw2
  clear cd fd qd co fo qo cv fv qv
  have kd : Blk w2 W.heap.size #[.string b0, .int .i64 s0, .string b1, .int .i64 s1, .int .i64 c, .int .i64 l, .bool dn] 26 := by repeat' (first | (with_reducible assumption) | (with_reducible exact Blk.new _ _ _) | ((with_reducible refine Blk.new' _ _ _ ?_); simp; done) | (with_reducible refine Blk.alloc ?_ _) | (with_reducible refine Blk.drew ?_) | (with_reducible refine Blk.drewN ?_ _) | (with_reducible apply Blk.set) | (with_reducible refine Blk.set' ?_ ?_) | (with_reducible refine Blk.below ?_ (by with_reducible assumption)) | (show @Eq (Array Value) _ _; rfl) | (simp; done) | (simp; omega))
  have ko : Blk w2 (W.heap.size + 1) #[.string y0, .int .i64 t0, .string y1, .int .i64 t1, .int .i64 oc, .int .i64 ol, .bool on] 26 := by repeat' (first | (with_reducible assumption) | (with_reducible exact Blk.new _ _ _) | ((with_reducible refine Blk.new' _ _ _ ?_); simp; done) | (with_reducible refine Blk.alloc ?_ _) | (with_reducible refine Blk.drew ?_) | (with_reducible refine Blk.drewN ?_ _) | (with_reducible apply Blk.set) | (with_reducible refine Blk.set' ?_ ?_) | (with_reducible refine Blk.below ?_ (by with_reducible assumption)) | (show @Eq (Array Value) _ _; rfl) | (simp; done) | (simp; omega))
  have kv : Blk w2 (W.heap.size + 1 + 1) #[.int .i8 vo, .int .i64 vz, .string vb, .int .i64 vn] 29 := by repeat' (first | (with_reducible assumption) | (with_reducible exact Blk.new _ _ _) | ((with_reducible refine Blk.new' _ _ _ ?_); simp; done) | (with_reducible refine Blk.alloc ?_ _) | (with_reducible refine Blk.drew ?_) | (with_reducible refine Blk.drewN ?_ _) | (with_reducible apply Blk.set) | (with_reducible refine Blk.set' ?_ ?_) | (with_reducible refine Blk.below ?_ (by with_reducible assumption)) | (show @Eq (Array Value) _ _; rfl) | (simp; done) | (simp; omega))
  have cd := kd.cell; have fd := kd.froz; have qd := kd.lt; have co := ko.cell; have fo := ko.froz; have qo := ko.lt; have cv := kv.cell; have fv := kv.froz; have qv := kv.lt
  go_wp2_with fail
  refine (gw1_yes (Blk.new _ _ _) hvb Hg3.out).mono ?_
  rintro en w3 ⟨rfl, hw3⟩
  have zhw3 := hw3.size
  try simp at zhw3
  go_wp2_with fail
  refine (wakes_any _).mono ?_
  rintro en wz ⟨rfl, hbz⟩
  have zz := hbz.size
  try simp at zz
  go_wp2_with fail
  go_ret
  refine ⟨rfl, ?_⟩
  repeat' (first | (with_reducible exact Below.refl _ _) | (with_reducible assumption) | (with_reducible refine below_call ?_ (by with_reducible assumption)) | (with_reducible refine below_draws ?_ _) | (with_reducible refine Below.drew ?_) | (with_reducible refine Below.alloc ?_ ?_ _) | (with_reducible refine Below.setCell ?_ ?_ _) | omega | (simp; done) | (simp; omega))
set_option maxHeartbeats 6400000 in
theorem te_ok (b0 b1 y0 y1 vb : ByteArray) (s0 s1 c l t0 t1 oc ol vo vz vn n a b : Int) (dn on : Bool) (W : World) (fa : b0.size ≤ maxLen) (fb : b1.size ≤ maxLen) (fc : l ≤ 9223372036854775807) (ga : y0.size ≤ maxLen) (gb : y1.size ≤ maxLen) (hvb : vb.size ≤ maxLen)  {K0 K1 : ByteArray} {Ks Kt Kc Kl Ke : Int} {Kd : Bool} {M0 M1 : ByteArray} {Ms Mt Mc Ml Me : Int} {Md : Bool} {J0 J1 : ByteArray} {Js Jt Jc Jl Je : Int} {Jd : Bool} {I0 I1 : ByteArray} {Is It Ic Il Ie : Int} {Id : Bool} (hr1 : doF ⟨⟨b0, s0⟩, ⟨b1, s1⟩, c, l, dn⟩ vo vz vb vn = (⟨⟨K0, Ks⟩, ⟨K1, Kt⟩, Kc, Kl, Kd⟩, Ke)) (hr2 : armF ⟨⟨b0, s0⟩, ⟨b1, s1⟩, c, l, dn⟩ n = (⟨⟨M0, Ms⟩, ⟨M1, Mt⟩, Mc, Ml, Md⟩, Me)) (hr3 : crashF ⟨⟨b0, s0⟩, ⟨b1, s1⟩, c, l, dn⟩ a b = (⟨⟨J0, Js⟩, ⟨J1, Jt⟩, Jc, Jl, Jd⟩, Je)) (hr4 : newF n = (⟨⟨I0, Is⟩, ⟨I1, It⟩, Ic, Il, Id⟩, Ie)) (hg : ¬ (262144 < b0.size ∨ 262144 < b1.size)) (hg2 : ¬ (262144 < y0.size ∨ 262144 < y1.size)) (hg3 : ¬ 4096 < vb.size) :
    Calls Try.prog 3 #[.agg #[.string b0, .int .i64 s0, .string b1, .int .i64 s1, .int .i64 c, .int .i64 l, .bool dn], .agg #[.string y0, .int .i64 t0, .string y1, .int .i64 t1, .int .i64 oc, .int .i64 ol, .bool on], .agg #[.int .i8 vo, .int .i64 vz, .string vb, .int .i64 vn], .int .i64 n, .int .i64 a, .int .i64 b] W (RetB true W) := by
  have hvs : vb.size ≤ 4096 := by omega
  have Hr1 := Lib.hid hr1; clear hr1
  have Hr2 := Lib.hid hr2; clear hr2
  have Hr3 := Lib.hid hr3; clear hr3
  have Hr4 := Lib.hid hr4; clear hr4
  have sbK := sameB_self K0 Ks K1 Kt Kc Kl Kd
  have sbM := sameB_self M0 Ms M1 Mt Mc Ml Md
  have sbJ := sameB_self J0 Js J1 Jt Jc Jl Jd
  have sbI := sameB_self I0 Is I1 It Ic Il Id
  have Hg := Lib.hid hg; clear hg
  have Hg2 := Lib.hid hg2; clear hg2
  have Hg3 := Lib.hid hg3; clear hg3
  go_enter Try.func3, Try.ntmps3
  go_wp2_with fail
  refine (great_no _ _ _ _ _ _ _ _ fa fb Hg.out).mono ?_
  rintro en w1 ⟨rfl, hw1⟩
  have zhw1 := hw1.size
  try simp at zhw1
  have kd : Blk w1 W.heap.size #[.string b0, .int .i64 s0, .string b1, .int .i64 s1, .int .i64 c, .int .i64 l, .bool dn] 26 := by repeat' (first | (with_reducible assumption) | (with_reducible exact Blk.new _ _ _) | ((with_reducible refine Blk.new' _ _ _ ?_); simp; done) | (with_reducible refine Blk.alloc ?_ _) | (with_reducible refine Blk.drew ?_) | (with_reducible refine Blk.drewN ?_ _) | (with_reducible apply Blk.set) | (with_reducible refine Blk.set' ?_ ?_) | (with_reducible refine Blk.below ?_ (by with_reducible assumption)) | (show @Eq (Array Value) _ _; rfl) | (simp; done) | (simp; omega))
  have ko : Blk w1 (W.heap.size + 1) #[.string y0, .int .i64 t0, .string y1, .int .i64 t1, .int .i64 oc, .int .i64 ol, .bool on] 26 := by repeat' (first | (with_reducible assumption) | (with_reducible exact Blk.new _ _ _) | ((with_reducible refine Blk.new' _ _ _ ?_); simp; done) | (with_reducible refine Blk.alloc ?_ _) | (with_reducible refine Blk.drew ?_) | (with_reducible refine Blk.drewN ?_ _) | (with_reducible apply Blk.set) | (with_reducible refine Blk.set' ?_ ?_) | (with_reducible refine Blk.below ?_ (by with_reducible assumption)) | (show @Eq (Array Value) _ _; rfl) | (simp; done) | (simp; omega))
  have kv : Blk w1 (W.heap.size + 1 + 1) #[.int .i8 vo, .int .i64 vz, .string vb, .int .i64 vn] 29 := by repeat' (first | (with_reducible assumption) | (with_reducible exact Blk.new _ _ _) | ((with_reducible refine Blk.new' _ _ _ ?_); simp; done) | (with_reducible refine Blk.alloc ?_ _) | (with_reducible refine Blk.drew ?_) | (with_reducible refine Blk.drewN ?_ _) | (with_reducible apply Blk.set) | (with_reducible refine Blk.set' ?_ ?_) | (with_reducible refine Blk.below ?_ (by with_reducible assumption)) | (show @Eq (Array Value) _ _; rfl) | (simp; done) | (simp; omega))
  have cd := kd.cell; have fd := kd.froz; have qd := kd.lt; have co := ko.cell; have fo := ko.froz; have qo := ko.lt; have cv := kv.cell; have fv := kv.froz; have qv := kv.lt
  go_wp2_with fail
  refine (great_no _ _ _ _ _ _ _ _ ga gb Hg2.out).mono ?_
  rintro en w2 ⟨rfl, hw2⟩
  have zhw2 := hw2.size
  try simp at zhw2
  clear cd fd qd co fo qo cv fv qv
  have kd : Blk w2 W.heap.size #[.string b0, .int .i64 s0, .string b1, .int .i64 s1, .int .i64 c, .int .i64 l, .bool dn] 26 := by repeat' (first | (with_reducible assumption) | (with_reducible exact Blk.new _ _ _) | ((with_reducible refine Blk.new' _ _ _ ?_); simp; done) | (with_reducible refine Blk.alloc ?_ _) | (with_reducible refine Blk.drew ?_) | (with_reducible refine Blk.drewN ?_ _) | (with_reducible apply Blk.set) | (with_reducible refine Blk.set' ?_ ?_) | (with_reducible refine Blk.below ?_ (by with_reducible assumption)) | (show @Eq (Array Value) _ _; rfl) | (simp; done) | (simp; omega))
  have ko : Blk w2 (W.heap.size + 1) #[.string y0, .int .i64 t0, .string y1, .int .i64 t1, .int .i64 oc, .int .i64 ol, .bool on] 26 := by repeat' (first | (with_reducible assumption) | (with_reducible exact Blk.new _ _ _) | ((with_reducible refine Blk.new' _ _ _ ?_); simp; done) | (with_reducible refine Blk.alloc ?_ _) | (with_reducible refine Blk.drew ?_) | (with_reducible refine Blk.drewN ?_ _) | (with_reducible apply Blk.set) | (with_reducible refine Blk.set' ?_ ?_) | (with_reducible refine Blk.below ?_ (by with_reducible assumption)) | (show @Eq (Array Value) _ _; rfl) | (simp; done) | (simp; omega))
  have kv : Blk w2 (W.heap.size + 1 + 1) #[.int .i8 vo, .int .i64 vz, .string vb, .int .i64 vn] 29 := by repeat' (first | (with_reducible assumption) | (with_reducible exact Blk.new _ _ _) | ((with_reducible refine Blk.new' _ _ _ ?_); simp; done) | (with_reducible refine Blk.alloc ?_ _) | (with_reducible refine Blk.drew ?_) | (with_reducible refine Blk.drewN ?_ _) | (with_reducible apply Blk.set) | (with_reducible refine Blk.set' ?_ ?_) | (with_reducible refine Blk.below ?_ (by with_reducible assumption)) | (show @Eq (Array Value) _ _; rfl) | (simp; done) | (simp; omega))
  have cd := kd.cell; have fd := kd.froz; have qd := kd.lt; have co := ko.cell; have fo := ko.froz; have qo := ko.lt; have cv := kv.cell; have fv := kv.froz; have qv := kv.lt
  go_wp2_with fail
  refine (gw1_no (Blk.new _ _ _) hvb Hg3.out).mono ?_
  rintro en w3 ⟨rfl, hw3⟩
  have zhw3 := hw3.size
  try simp at zhw3
  clear cd fd qd co fo qo cv fv qv
  have kd : Blk w3 W.heap.size #[.string b0, .int .i64 s0, .string b1, .int .i64 s1, .int .i64 c, .int .i64 l, .bool dn] 26 := by repeat' (first | (with_reducible assumption) | (with_reducible exact Blk.new _ _ _) | ((with_reducible refine Blk.new' _ _ _ ?_); simp; done) | (with_reducible refine Blk.alloc ?_ _) | (with_reducible refine Blk.drew ?_) | (with_reducible refine Blk.drewN ?_ _) | (with_reducible apply Blk.set) | (with_reducible refine Blk.set' ?_ ?_) | (with_reducible refine Blk.below ?_ (by with_reducible assumption)) | (show @Eq (Array Value) _ _; rfl) | (simp; done) | (simp; omega))
  have ko : Blk w3 (W.heap.size + 1) #[.string y0, .int .i64 t0, .string y1, .int .i64 t1, .int .i64 oc, .int .i64 ol, .bool on] 26 := by repeat' (first | (with_reducible assumption) | (with_reducible exact Blk.new _ _ _) | ((with_reducible refine Blk.new' _ _ _ ?_); simp; done) | (with_reducible refine Blk.alloc ?_ _) | (with_reducible refine Blk.drew ?_) | (with_reducible refine Blk.drewN ?_ _) | (with_reducible apply Blk.set) | (with_reducible refine Blk.set' ?_ ?_) | (with_reducible refine Blk.below ?_ (by with_reducible assumption)) | (show @Eq (Array Value) _ _; rfl) | (simp; done) | (simp; omega))
  have kv : Blk w3 (W.heap.size + 1 + 1) #[.int .i8 vo, .int .i64 vz, .string vb, .int .i64 vn] 29 := by repeat' (first | (with_reducible assumption) | (with_reducible exact Blk.new _ _ _) | ((with_reducible refine Blk.new' _ _ _ ?_); simp; done) | (with_reducible refine Blk.alloc ?_ _) | (with_reducible refine Blk.drew ?_) | (with_reducible refine Blk.drewN ?_ _) | (with_reducible apply Blk.set) | (with_reducible refine Blk.set' ?_ ?_) | (with_reducible refine Blk.below ?_ (by with_reducible assumption)) | (show @Eq (Array Value) _ _; rfl) | (simp; done) | (simp; omega))
  have cd := kd.cell; have fd := kd.froz; have qd := kd.lt; have co := ko.cell; have fo := ko.froz; have qo := ko.lt; have cv := kv.cell; have fv := kv.froz; have qv := kv.lt
  go_wp2_with fail
  refine (do_r _ fa fb hvs fc Hr1.out).mono ?_
  rintro en w4 ⟨rfl, hw4⟩
  have zhw4 := hw4.size
  try simp at zhw4
  clear cd fd qd co fo qo cv fv qv
  have kd : Blk w4 W.heap.size #[.string b0, .int .i64 s0, .string b1, .int .i64 s1, .int .i64 c, .int .i64 l, .bool dn] 26 := by repeat' (first | (with_reducible assumption) | (with_reducible exact Blk.new _ _ _) | ((with_reducible refine Blk.new' _ _ _ ?_); simp; done) | (with_reducible refine Blk.alloc ?_ _) | (with_reducible refine Blk.drew ?_) | (with_reducible refine Blk.drewN ?_ _) | (with_reducible apply Blk.set) | (with_reducible refine Blk.set' ?_ ?_) | (with_reducible refine Blk.below ?_ (by with_reducible assumption)) | (show @Eq (Array Value) _ _; rfl) | (simp; done) | (simp; omega))
  have ko : Blk w4 (W.heap.size + 1) #[.string y0, .int .i64 t0, .string y1, .int .i64 t1, .int .i64 oc, .int .i64 ol, .bool on] 26 := by repeat' (first | (with_reducible assumption) | (with_reducible exact Blk.new _ _ _) | ((with_reducible refine Blk.new' _ _ _ ?_); simp; done) | (with_reducible refine Blk.alloc ?_ _) | (with_reducible refine Blk.drew ?_) | (with_reducible refine Blk.drewN ?_ _) | (with_reducible apply Blk.set) | (with_reducible refine Blk.set' ?_ ?_) | (with_reducible refine Blk.below ?_ (by with_reducible assumption)) | (show @Eq (Array Value) _ _; rfl) | (simp; done) | (simp; omega))
  have kv : Blk w4 (W.heap.size + 1 + 1) #[.int .i8 vo, .int .i64 vz, .string vb, .int .i64 vn] 29 := by repeat' (first | (with_reducible assumption) | (with_reducible exact Blk.new _ _ _) | ((with_reducible refine Blk.new' _ _ _ ?_); simp; done) | (with_reducible refine Blk.alloc ?_ _) | (with_reducible refine Blk.drew ?_) | (with_reducible refine Blk.drewN ?_ _) | (with_reducible apply Blk.set) | (with_reducible refine Blk.set' ?_ ?_) | (with_reducible refine Blk.below ?_ (by with_reducible assumption)) | (show @Eq (Array Value) _ _; rfl) | (simp; done) | (simp; omega))
  have cd := kd.cell; have fd := kd.froz; have qd := kd.lt; have co := ko.cell; have fo := ko.froz; have qo := ko.lt; have cv := kv.cell; have fv := kv.froz; have qv := kv.lt
  go_wp2_with fail
  refine (rdo_r _ fa fb hvs fc Hr1.out).mono ?_
  rintro en w5 ⟨rfl, hw5⟩
  have zhw5 := hw5.size
  try simp at zhw5
  clear cd fd qd co fo qo cv fv qv
  have kd : Blk w5 W.heap.size #[.string b0, .int .i64 s0, .string b1, .int .i64 s1, .int .i64 c, .int .i64 l, .bool dn] 26 := by repeat' (first | (with_reducible assumption) | (with_reducible exact Blk.new _ _ _) | ((with_reducible refine Blk.new' _ _ _ ?_); simp; done) | (with_reducible refine Blk.alloc ?_ _) | (with_reducible refine Blk.drew ?_) | (with_reducible refine Blk.drewN ?_ _) | (with_reducible apply Blk.set) | (with_reducible refine Blk.set' ?_ ?_) | (with_reducible refine Blk.below ?_ (by with_reducible assumption)) | (show @Eq (Array Value) _ _; rfl) | (simp; done) | (simp; omega))
  have ko : Blk w5 (W.heap.size + 1) #[.string y0, .int .i64 t0, .string y1, .int .i64 t1, .int .i64 oc, .int .i64 ol, .bool on] 26 := by repeat' (first | (with_reducible assumption) | (with_reducible exact Blk.new _ _ _) | ((with_reducible refine Blk.new' _ _ _ ?_); simp; done) | (with_reducible refine Blk.alloc ?_ _) | (with_reducible refine Blk.drew ?_) | (with_reducible refine Blk.drewN ?_ _) | (with_reducible apply Blk.set) | (with_reducible refine Blk.set' ?_ ?_) | (with_reducible refine Blk.below ?_ (by with_reducible assumption)) | (show @Eq (Array Value) _ _; rfl) | (simp; done) | (simp; omega))
  have kv : Blk w5 (W.heap.size + 1 + 1) #[.int .i8 vo, .int .i64 vz, .string vb, .int .i64 vn] 29 := by repeat' (first | (with_reducible assumption) | (with_reducible exact Blk.new _ _ _) | ((with_reducible refine Blk.new' _ _ _ ?_); simp; done) | (with_reducible refine Blk.alloc ?_ _) | (with_reducible refine Blk.drew ?_) | (with_reducible refine Blk.drewN ?_ _) | (with_reducible apply Blk.set) | (with_reducible refine Blk.set' ?_ ?_) | (with_reducible refine Blk.below ?_ (by with_reducible assumption)) | (show @Eq (Array Value) _ _; rfl) | (simp; done) | (simp; omega))
  have kx : Blk w5 w4.heap.size #[.string K0, .int .i64 Ks, .string K1, .int .i64 Kt, .int .i64 Kc, .int .i64 Kl, .bool Kd] 26 := by repeat' (first | (with_reducible assumption) | (with_reducible exact Blk.new _ _ _) | ((with_reducible refine Blk.new' _ _ _ ?_); simp; done) | (with_reducible refine Blk.alloc ?_ _) | (with_reducible refine Blk.drew ?_) | (with_reducible refine Blk.drewN ?_ _) | (with_reducible apply Blk.set) | (with_reducible refine Blk.set' ?_ ?_) | (with_reducible refine Blk.below ?_ (by with_reducible assumption)) | (show @Eq (Array Value) _ _; rfl) | (simp; done) | (simp; omega))
  have cd := kd.cell; have fd := kd.froz; have qd := kd.lt; have co := ko.cell; have fo := ko.froz; have qo := ko.lt; have cv := kv.cell; have fv := kv.froz; have qv := kv.lt; have cx := kx.cell; have fx := kx.froz; have qx := kx.lt
  go_wp2_with fail
  refine (rsame_b _ _ _ _ _ _ _ _ _ _ _ _ _ _ _).mono ?_
  rintro en w6 ⟨rfl, hw6⟩
  have zhw6 := hw6.size
  try simp at zhw6
  clear cd fd qd co fo qo cv fv qv cx fx qx
  have kd : Blk w6 W.heap.size #[.string b0, .int .i64 s0, .string b1, .int .i64 s1, .int .i64 c, .int .i64 l, .bool dn] 26 := by repeat' (first | (with_reducible assumption) | (with_reducible exact Blk.new _ _ _) | ((with_reducible refine Blk.new' _ _ _ ?_); simp; done) | (with_reducible refine Blk.alloc ?_ _) | (with_reducible refine Blk.drew ?_) | (with_reducible refine Blk.drewN ?_ _) | (with_reducible apply Blk.set) | (with_reducible refine Blk.set' ?_ ?_) | (with_reducible refine Blk.below ?_ (by with_reducible assumption)) | (show @Eq (Array Value) _ _; rfl) | (simp; done) | (simp; omega))
  have ko : Blk w6 (W.heap.size + 1) #[.string y0, .int .i64 t0, .string y1, .int .i64 t1, .int .i64 oc, .int .i64 ol, .bool on] 26 := by repeat' (first | (with_reducible assumption) | (with_reducible exact Blk.new _ _ _) | ((with_reducible refine Blk.new' _ _ _ ?_); simp; done) | (with_reducible refine Blk.alloc ?_ _) | (with_reducible refine Blk.drew ?_) | (with_reducible refine Blk.drewN ?_ _) | (with_reducible apply Blk.set) | (with_reducible refine Blk.set' ?_ ?_) | (with_reducible refine Blk.below ?_ (by with_reducible assumption)) | (show @Eq (Array Value) _ _; rfl) | (simp; done) | (simp; omega))
  have kv : Blk w6 (W.heap.size + 1 + 1) #[.int .i8 vo, .int .i64 vz, .string vb, .int .i64 vn] 29 := by repeat' (first | (with_reducible assumption) | (with_reducible exact Blk.new _ _ _) | ((with_reducible refine Blk.new' _ _ _ ?_); simp; done) | (with_reducible refine Blk.alloc ?_ _) | (with_reducible refine Blk.drew ?_) | (with_reducible refine Blk.drewN ?_ _) | (with_reducible apply Blk.set) | (with_reducible refine Blk.set' ?_ ?_) | (with_reducible refine Blk.below ?_ (by with_reducible assumption)) | (show @Eq (Array Value) _ _; rfl) | (simp; done) | (simp; omega))
  have kx : Blk w6 w4.heap.size #[.string K0, .int .i64 Ks, .string K1, .int .i64 Kt, .int .i64 Kc, .int .i64 Kl, .bool Kd] 26 := by repeat' (first | (with_reducible assumption) | (with_reducible exact Blk.new _ _ _) | ((with_reducible refine Blk.new' _ _ _ ?_); simp; done) | (with_reducible refine Blk.alloc ?_ _) | (with_reducible refine Blk.drew ?_) | (with_reducible refine Blk.drewN ?_ _) | (with_reducible apply Blk.set) | (with_reducible refine Blk.set' ?_ ?_) | (with_reducible refine Blk.below ?_ (by with_reducible assumption)) | (show @Eq (Array Value) _ _; rfl) | (simp; done) | (simp; omega))
  have ky : Blk w6 w5.heap.size #[.string K0, .int .i64 Ks, .string K1, .int .i64 Kt, .int .i64 Kc, .int .i64 Kl, .bool Kd] 26 := by repeat' (first | (with_reducible assumption) | (with_reducible exact Blk.new _ _ _) | ((with_reducible refine Blk.new' _ _ _ ?_); simp; done) | (with_reducible refine Blk.alloc ?_ _) | (with_reducible refine Blk.drew ?_) | (with_reducible refine Blk.drewN ?_ _) | (with_reducible apply Blk.set) | (with_reducible refine Blk.set' ?_ ?_) | (with_reducible refine Blk.below ?_ (by with_reducible assumption)) | (show @Eq (Array Value) _ _; rfl) | (simp; done) | (simp; omega))
  have cd := kd.cell; have fd := kd.froz; have qd := kd.lt; have co := ko.cell; have fo := ko.froz; have qo := ko.lt; have cv := kv.cell; have fv := kv.froz; have qv := kv.lt; have cx := kx.cell; have fx := kx.froz; have qx := kx.lt; have cy := ky.cell; have fy := ky.froz; have qy := ky.lt
  go_wp2_with fail
  refine (arm_r _ fa fb Hr2.out).mono ?_
  rintro en w7 ⟨rfl, hw7⟩
  have zhw7 := hw7.size
  try simp at zhw7
  clear cd fd qd co fo qo cv fv qv cx fx qx cy fy qy
  have kd : Blk w7 W.heap.size #[.string b0, .int .i64 s0, .string b1, .int .i64 s1, .int .i64 c, .int .i64 l, .bool dn] 26 := by repeat' (first | (with_reducible assumption) | (with_reducible exact Blk.new _ _ _) | ((with_reducible refine Blk.new' _ _ _ ?_); simp; done) | (with_reducible refine Blk.alloc ?_ _) | (with_reducible refine Blk.drew ?_) | (with_reducible refine Blk.drewN ?_ _) | (with_reducible apply Blk.set) | (with_reducible refine Blk.set' ?_ ?_) | (with_reducible refine Blk.below ?_ (by with_reducible assumption)) | (show @Eq (Array Value) _ _; rfl) | (simp; done) | (simp; omega))
  have ko : Blk w7 (W.heap.size + 1) #[.string y0, .int .i64 t0, .string y1, .int .i64 t1, .int .i64 oc, .int .i64 ol, .bool on] 26 := by repeat' (first | (with_reducible assumption) | (with_reducible exact Blk.new _ _ _) | ((with_reducible refine Blk.new' _ _ _ ?_); simp; done) | (with_reducible refine Blk.alloc ?_ _) | (with_reducible refine Blk.drew ?_) | (with_reducible refine Blk.drewN ?_ _) | (with_reducible apply Blk.set) | (with_reducible refine Blk.set' ?_ ?_) | (with_reducible refine Blk.below ?_ (by with_reducible assumption)) | (show @Eq (Array Value) _ _; rfl) | (simp; done) | (simp; omega))
  have kv : Blk w7 (W.heap.size + 1 + 1) #[.int .i8 vo, .int .i64 vz, .string vb, .int .i64 vn] 29 := by repeat' (first | (with_reducible assumption) | (with_reducible exact Blk.new _ _ _) | ((with_reducible refine Blk.new' _ _ _ ?_); simp; done) | (with_reducible refine Blk.alloc ?_ _) | (with_reducible refine Blk.drew ?_) | (with_reducible refine Blk.drewN ?_ _) | (with_reducible apply Blk.set) | (with_reducible refine Blk.set' ?_ ?_) | (with_reducible refine Blk.below ?_ (by with_reducible assumption)) | (show @Eq (Array Value) _ _; rfl) | (simp; done) | (simp; omega))
  have kx : Blk w7 w4.heap.size #[.string K0, .int .i64 Ks, .string K1, .int .i64 Kt, .int .i64 Kc, .int .i64 Kl, .bool Kd] 26 := by repeat' (first | (with_reducible assumption) | (with_reducible exact Blk.new _ _ _) | ((with_reducible refine Blk.new' _ _ _ ?_); simp; done) | (with_reducible refine Blk.alloc ?_ _) | (with_reducible refine Blk.drew ?_) | (with_reducible refine Blk.drewN ?_ _) | (with_reducible apply Blk.set) | (with_reducible refine Blk.set' ?_ ?_) | (with_reducible refine Blk.below ?_ (by with_reducible assumption)) | (show @Eq (Array Value) _ _; rfl) | (simp; done) | (simp; omega))
  have ky : Blk w7 w5.heap.size #[.string K0, .int .i64 Ks, .string K1, .int .i64 Kt, .int .i64 Kc, .int .i64 Kl, .bool Kd] 26 := by repeat' (first | (with_reducible assumption) | (with_reducible exact Blk.new _ _ _) | ((with_reducible refine Blk.new' _ _ _ ?_); simp; done) | (with_reducible refine Blk.alloc ?_ _) | (with_reducible refine Blk.drew ?_) | (with_reducible refine Blk.drewN ?_ _) | (with_reducible apply Blk.set) | (with_reducible refine Blk.set' ?_ ?_) | (with_reducible refine Blk.below ?_ (by with_reducible assumption)) | (show @Eq (Array Value) _ _; rfl) | (simp; done) | (simp; omega))
  have cd := kd.cell; have fd := kd.froz; have qd := kd.lt; have co := ko.cell; have fo := ko.froz; have qo := ko.lt; have cv := kv.cell; have fv := kv.froz; have qv := kv.lt; have cx := kx.cell; have fx := kx.froz; have qx := kx.lt; have cy := ky.cell; have fy := ky.froz; have qy := ky.lt
  go_wp2_with fail
  refine (rarm_r _ fa fb Hr2.out).mono ?_
  rintro en w8 ⟨rfl, hw8⟩
  have zhw8 := hw8.size
  try simp at zhw8
  clear cd fd qd co fo qo cv fv qv cx fx qx cy fy qy
  have kd : Blk w8 W.heap.size #[.string b0, .int .i64 s0, .string b1, .int .i64 s1, .int .i64 c, .int .i64 l, .bool dn] 26 := by repeat' (first | (with_reducible assumption) | (with_reducible exact Blk.new _ _ _) | ((with_reducible refine Blk.new' _ _ _ ?_); simp; done) | (with_reducible refine Blk.alloc ?_ _) | (with_reducible refine Blk.drew ?_) | (with_reducible refine Blk.drewN ?_ _) | (with_reducible apply Blk.set) | (with_reducible refine Blk.set' ?_ ?_) | (with_reducible refine Blk.below ?_ (by with_reducible assumption)) | (show @Eq (Array Value) _ _; rfl) | (simp; done) | (simp; omega))
  have ko : Blk w8 (W.heap.size + 1) #[.string y0, .int .i64 t0, .string y1, .int .i64 t1, .int .i64 oc, .int .i64 ol, .bool on] 26 := by repeat' (first | (with_reducible assumption) | (with_reducible exact Blk.new _ _ _) | ((with_reducible refine Blk.new' _ _ _ ?_); simp; done) | (with_reducible refine Blk.alloc ?_ _) | (with_reducible refine Blk.drew ?_) | (with_reducible refine Blk.drewN ?_ _) | (with_reducible apply Blk.set) | (with_reducible refine Blk.set' ?_ ?_) | (with_reducible refine Blk.below ?_ (by with_reducible assumption)) | (show @Eq (Array Value) _ _; rfl) | (simp; done) | (simp; omega))
  have kv : Blk w8 (W.heap.size + 1 + 1) #[.int .i8 vo, .int .i64 vz, .string vb, .int .i64 vn] 29 := by repeat' (first | (with_reducible assumption) | (with_reducible exact Blk.new _ _ _) | ((with_reducible refine Blk.new' _ _ _ ?_); simp; done) | (with_reducible refine Blk.alloc ?_ _) | (with_reducible refine Blk.drew ?_) | (with_reducible refine Blk.drewN ?_ _) | (with_reducible apply Blk.set) | (with_reducible refine Blk.set' ?_ ?_) | (with_reducible refine Blk.below ?_ (by with_reducible assumption)) | (show @Eq (Array Value) _ _; rfl) | (simp; done) | (simp; omega))
  have kx : Blk w8 w4.heap.size #[.string M0, .int .i64 Ms, .string M1, .int .i64 Mt, .int .i64 Mc, .int .i64 Ml, .bool Md] 26 := by repeat' (first | (with_reducible assumption) | (with_reducible exact Blk.new _ _ _) | ((with_reducible refine Blk.new' _ _ _ ?_); simp; done) | (with_reducible refine Blk.alloc ?_ _) | (with_reducible refine Blk.drew ?_) | (with_reducible refine Blk.drewN ?_ _) | (with_reducible apply Blk.set) | (with_reducible refine Blk.set' ?_ ?_) | (with_reducible refine Blk.below ?_ (by with_reducible assumption)) | (show @Eq (Array Value) _ _; rfl) | (simp; done) | (simp; omega))
  have ky : Blk w8 w5.heap.size #[.string K0, .int .i64 Ks, .string K1, .int .i64 Kt, .int .i64 Kc, .int .i64 Kl, .bool Kd] 26 := by repeat' (first | (with_reducible assumption) | (with_reducible exact Blk.new _ _ _) | ((with_reducible refine Blk.new' _ _ _ ?_); simp; done) | (with_reducible refine Blk.alloc ?_ _) | (with_reducible refine Blk.drew ?_) | (with_reducible refine Blk.drewN ?_ _) | (with_reducible apply Blk.set) | (with_reducible refine Blk.set' ?_ ?_) | (with_reducible refine Blk.below ?_ (by with_reducible assumption)) | (show @Eq (Array Value) _ _; rfl) | (simp; done) | (simp; omega))
  have cd := kd.cell; have fd := kd.froz; have qd := kd.lt; have co := ko.cell; have fo := ko.froz; have qo := ko.lt; have cv := kv.cell; have fv := kv.froz; have qv := kv.lt; have cx := kx.cell; have fx := kx.froz; have qx := kx.lt; have cy := ky.cell; have fy := ky.froz; have qy := ky.lt
  go_wp2_with fail
  refine (rsame_b _ _ _ _ _ _ _ _ _ _ _ _ _ _ _).mono ?_
  rintro en w9 ⟨rfl, hw9⟩
  have zhw9 := hw9.size
  try simp at zhw9
  clear cd fd qd co fo qo cv fv qv cx fx qx cy fy qy
  have kd : Blk w9 W.heap.size #[.string b0, .int .i64 s0, .string b1, .int .i64 s1, .int .i64 c, .int .i64 l, .bool dn] 26 := by repeat' (first | (with_reducible assumption) | (with_reducible exact Blk.new _ _ _) | ((with_reducible refine Blk.new' _ _ _ ?_); simp; done) | (with_reducible refine Blk.alloc ?_ _) | (with_reducible refine Blk.drew ?_) | (with_reducible refine Blk.drewN ?_ _) | (with_reducible apply Blk.set) | (with_reducible refine Blk.set' ?_ ?_) | (with_reducible refine Blk.below ?_ (by with_reducible assumption)) | (show @Eq (Array Value) _ _; rfl) | (simp; done) | (simp; omega))
  have ko : Blk w9 (W.heap.size + 1) #[.string y0, .int .i64 t0, .string y1, .int .i64 t1, .int .i64 oc, .int .i64 ol, .bool on] 26 := by repeat' (first | (with_reducible assumption) | (with_reducible exact Blk.new _ _ _) | ((with_reducible refine Blk.new' _ _ _ ?_); simp; done) | (with_reducible refine Blk.alloc ?_ _) | (with_reducible refine Blk.drew ?_) | (with_reducible refine Blk.drewN ?_ _) | (with_reducible apply Blk.set) | (with_reducible refine Blk.set' ?_ ?_) | (with_reducible refine Blk.below ?_ (by with_reducible assumption)) | (show @Eq (Array Value) _ _; rfl) | (simp; done) | (simp; omega))
  have kv : Blk w9 (W.heap.size + 1 + 1) #[.int .i8 vo, .int .i64 vz, .string vb, .int .i64 vn] 29 := by repeat' (first | (with_reducible assumption) | (with_reducible exact Blk.new _ _ _) | ((with_reducible refine Blk.new' _ _ _ ?_); simp; done) | (with_reducible refine Blk.alloc ?_ _) | (with_reducible refine Blk.drew ?_) | (with_reducible refine Blk.drewN ?_ _) | (with_reducible apply Blk.set) | (with_reducible refine Blk.set' ?_ ?_) | (with_reducible refine Blk.below ?_ (by with_reducible assumption)) | (show @Eq (Array Value) _ _; rfl) | (simp; done) | (simp; omega))
  have kx : Blk w9 w4.heap.size #[.string M0, .int .i64 Ms, .string M1, .int .i64 Mt, .int .i64 Mc, .int .i64 Ml, .bool Md] 26 := by repeat' (first | (with_reducible assumption) | (with_reducible exact Blk.new _ _ _) | ((with_reducible refine Blk.new' _ _ _ ?_); simp; done) | (with_reducible refine Blk.alloc ?_ _) | (with_reducible refine Blk.drew ?_) | (with_reducible refine Blk.drewN ?_ _) | (with_reducible apply Blk.set) | (with_reducible refine Blk.set' ?_ ?_) | (with_reducible refine Blk.below ?_ (by with_reducible assumption)) | (show @Eq (Array Value) _ _; rfl) | (simp; done) | (simp; omega))
  have ky : Blk w9 w5.heap.size #[.string M0, .int .i64 Ms, .string M1, .int .i64 Mt, .int .i64 Mc, .int .i64 Ml, .bool Md] 26 := by repeat' (first | (with_reducible assumption) | (with_reducible exact Blk.new _ _ _) | ((with_reducible refine Blk.new' _ _ _ ?_); simp; done) | (with_reducible refine Blk.alloc ?_ _) | (with_reducible refine Blk.drew ?_) | (with_reducible refine Blk.drewN ?_ _) | (with_reducible apply Blk.set) | (with_reducible refine Blk.set' ?_ ?_) | (with_reducible refine Blk.below ?_ (by with_reducible assumption)) | (show @Eq (Array Value) _ _; rfl) | (simp; done) | (simp; omega))
  have cd := kd.cell; have fd := kd.froz; have qd := kd.lt; have co := ko.cell; have fo := ko.froz; have qo := ko.lt; have cv := kv.cell; have fv := kv.froz; have qv := kv.lt; have cx := kx.cell; have fx := kx.froz; have qx := kx.lt; have cy := ky.cell; have fy := ky.froz; have qy := ky.lt
  go_wp2_with fail
  refine (crash_r _ fa fb Hr3.out).mono ?_
  rintro en w10 ⟨rfl, hw10⟩
  have zhw10 := hw10.size
  try simp at zhw10
  clear cd fd qd co fo qo cv fv qv cx fx qx cy fy qy
  have kd : Blk w10 W.heap.size #[.string b0, .int .i64 s0, .string b1, .int .i64 s1, .int .i64 c, .int .i64 l, .bool dn] 26 := by repeat' (first | (with_reducible assumption) | (with_reducible exact Blk.new _ _ _) | ((with_reducible refine Blk.new' _ _ _ ?_); simp; done) | (with_reducible refine Blk.alloc ?_ _) | (with_reducible refine Blk.drew ?_) | (with_reducible refine Blk.drewN ?_ _) | (with_reducible apply Blk.set) | (with_reducible refine Blk.set' ?_ ?_) | (with_reducible refine Blk.below ?_ (by with_reducible assumption)) | (show @Eq (Array Value) _ _; rfl) | (simp; done) | (simp; omega))
  have ko : Blk w10 (W.heap.size + 1) #[.string y0, .int .i64 t0, .string y1, .int .i64 t1, .int .i64 oc, .int .i64 ol, .bool on] 26 := by repeat' (first | (with_reducible assumption) | (with_reducible exact Blk.new _ _ _) | ((with_reducible refine Blk.new' _ _ _ ?_); simp; done) | (with_reducible refine Blk.alloc ?_ _) | (with_reducible refine Blk.drew ?_) | (with_reducible refine Blk.drewN ?_ _) | (with_reducible apply Blk.set) | (with_reducible refine Blk.set' ?_ ?_) | (with_reducible refine Blk.below ?_ (by with_reducible assumption)) | (show @Eq (Array Value) _ _; rfl) | (simp; done) | (simp; omega))
  have kv : Blk w10 (W.heap.size + 1 + 1) #[.int .i8 vo, .int .i64 vz, .string vb, .int .i64 vn] 29 := by repeat' (first | (with_reducible assumption) | (with_reducible exact Blk.new _ _ _) | ((with_reducible refine Blk.new' _ _ _ ?_); simp; done) | (with_reducible refine Blk.alloc ?_ _) | (with_reducible refine Blk.drew ?_) | (with_reducible refine Blk.drewN ?_ _) | (with_reducible apply Blk.set) | (with_reducible refine Blk.set' ?_ ?_) | (with_reducible refine Blk.below ?_ (by with_reducible assumption)) | (show @Eq (Array Value) _ _; rfl) | (simp; done) | (simp; omega))
  have kx : Blk w10 w4.heap.size #[.string M0, .int .i64 Ms, .string M1, .int .i64 Mt, .int .i64 Mc, .int .i64 Ml, .bool Md] 26 := by repeat' (first | (with_reducible assumption) | (with_reducible exact Blk.new _ _ _) | ((with_reducible refine Blk.new' _ _ _ ?_); simp; done) | (with_reducible refine Blk.alloc ?_ _) | (with_reducible refine Blk.drew ?_) | (with_reducible refine Blk.drewN ?_ _) | (with_reducible apply Blk.set) | (with_reducible refine Blk.set' ?_ ?_) | (with_reducible refine Blk.below ?_ (by with_reducible assumption)) | (show @Eq (Array Value) _ _; rfl) | (simp; done) | (simp; omega))
  have ky : Blk w10 w5.heap.size #[.string M0, .int .i64 Ms, .string M1, .int .i64 Mt, .int .i64 Mc, .int .i64 Ml, .bool Md] 26 := by repeat' (first | (with_reducible assumption) | (with_reducible exact Blk.new _ _ _) | ((with_reducible refine Blk.new' _ _ _ ?_); simp; done) | (with_reducible refine Blk.alloc ?_ _) | (with_reducible refine Blk.drew ?_) | (with_reducible refine Blk.drewN ?_ _) | (with_reducible apply Blk.set) | (with_reducible refine Blk.set' ?_ ?_) | (with_reducible refine Blk.below ?_ (by with_reducible assumption)) | (show @Eq (Array Value) _ _; rfl) | (simp; done) | (simp; omega))
  have cd := kd.cell; have fd := kd.froz; have qd := kd.lt; have co := ko.cell; have fo := ko.froz; have qo := ko.lt; have cv := kv.cell; have fv := kv.froz; have qv := kv.lt; have cx := kx.cell; have fx := kx.froz; have qx := kx.lt; have cy := ky.cell; have fy := ky.froz; have qy := ky.lt
  go_wp2_with fail
  refine (rcrash_r _ fa fb Hr3.out).mono ?_
  rintro en w11 ⟨rfl, hw11⟩
  have zhw11 := hw11.size
  try simp at zhw11
  clear cd fd qd co fo qo cv fv qv cx fx qx cy fy qy
  have kd : Blk w11 W.heap.size #[.string b0, .int .i64 s0, .string b1, .int .i64 s1, .int .i64 c, .int .i64 l, .bool dn] 26 := by repeat' (first | (with_reducible assumption) | (with_reducible exact Blk.new _ _ _) | ((with_reducible refine Blk.new' _ _ _ ?_); simp; done) | (with_reducible refine Blk.alloc ?_ _) | (with_reducible refine Blk.drew ?_) | (with_reducible refine Blk.drewN ?_ _) | (with_reducible apply Blk.set) | (with_reducible refine Blk.set' ?_ ?_) | (with_reducible refine Blk.below ?_ (by with_reducible assumption)) | (show @Eq (Array Value) _ _; rfl) | (simp; done) | (simp; omega))
  have ko : Blk w11 (W.heap.size + 1) #[.string y0, .int .i64 t0, .string y1, .int .i64 t1, .int .i64 oc, .int .i64 ol, .bool on] 26 := by repeat' (first | (with_reducible assumption) | (with_reducible exact Blk.new _ _ _) | ((with_reducible refine Blk.new' _ _ _ ?_); simp; done) | (with_reducible refine Blk.alloc ?_ _) | (with_reducible refine Blk.drew ?_) | (with_reducible refine Blk.drewN ?_ _) | (with_reducible apply Blk.set) | (with_reducible refine Blk.set' ?_ ?_) | (with_reducible refine Blk.below ?_ (by with_reducible assumption)) | (show @Eq (Array Value) _ _; rfl) | (simp; done) | (simp; omega))
  have kv : Blk w11 (W.heap.size + 1 + 1) #[.int .i8 vo, .int .i64 vz, .string vb, .int .i64 vn] 29 := by repeat' (first | (with_reducible assumption) | (with_reducible exact Blk.new _ _ _) | ((with_reducible refine Blk.new' _ _ _ ?_); simp; done) | (with_reducible refine Blk.alloc ?_ _) | (with_reducible refine Blk.drew ?_) | (with_reducible refine Blk.drewN ?_ _) | (with_reducible apply Blk.set) | (with_reducible refine Blk.set' ?_ ?_) | (with_reducible refine Blk.below ?_ (by with_reducible assumption)) | (show @Eq (Array Value) _ _; rfl) | (simp; done) | (simp; omega))
  have kx : Blk w11 w4.heap.size #[.string J0, .int .i64 Js, .string J1, .int .i64 Jt, .int .i64 Jc, .int .i64 Jl, .bool Jd] 26 := by repeat' (first | (with_reducible assumption) | (with_reducible exact Blk.new _ _ _) | ((with_reducible refine Blk.new' _ _ _ ?_); simp; done) | (with_reducible refine Blk.alloc ?_ _) | (with_reducible refine Blk.drew ?_) | (with_reducible refine Blk.drewN ?_ _) | (with_reducible apply Blk.set) | (with_reducible refine Blk.set' ?_ ?_) | (with_reducible refine Blk.below ?_ (by with_reducible assumption)) | (show @Eq (Array Value) _ _; rfl) | (simp; done) | (simp; omega))
  have ky : Blk w11 w5.heap.size #[.string M0, .int .i64 Ms, .string M1, .int .i64 Mt, .int .i64 Mc, .int .i64 Ml, .bool Md] 26 := by repeat' (first | (with_reducible assumption) | (with_reducible exact Blk.new _ _ _) | ((with_reducible refine Blk.new' _ _ _ ?_); simp; done) | (with_reducible refine Blk.alloc ?_ _) | (with_reducible refine Blk.drew ?_) | (with_reducible refine Blk.drewN ?_ _) | (with_reducible apply Blk.set) | (with_reducible refine Blk.set' ?_ ?_) | (with_reducible refine Blk.below ?_ (by with_reducible assumption)) | (show @Eq (Array Value) _ _; rfl) | (simp; done) | (simp; omega))
  have cd := kd.cell; have fd := kd.froz; have qd := kd.lt; have co := ko.cell; have fo := ko.froz; have qo := ko.lt; have cv := kv.cell; have fv := kv.froz; have qv := kv.lt; have cx := kx.cell; have fx := kx.froz; have qx := kx.lt; have cy := ky.cell; have fy := ky.froz; have qy := ky.lt
  go_wp2_with fail
  refine (rsame_b _ _ _ _ _ _ _ _ _ _ _ _ _ _ _).mono ?_
  rintro en w12 ⟨rfl, hw12⟩
  have zhw12 := hw12.size
  try simp at zhw12
  clear cd fd qd co fo qo cv fv qv cx fx qx cy fy qy
  have kd : Blk w12 W.heap.size #[.string b0, .int .i64 s0, .string b1, .int .i64 s1, .int .i64 c, .int .i64 l, .bool dn] 26 := by repeat' (first | (with_reducible assumption) | (with_reducible exact Blk.new _ _ _) | ((with_reducible refine Blk.new' _ _ _ ?_); simp; done) | (with_reducible refine Blk.alloc ?_ _) | (with_reducible refine Blk.drew ?_) | (with_reducible refine Blk.drewN ?_ _) | (with_reducible apply Blk.set) | (with_reducible refine Blk.set' ?_ ?_) | (with_reducible refine Blk.below ?_ (by with_reducible assumption)) | (show @Eq (Array Value) _ _; rfl) | (simp; done) | (simp; omega))
  have ko : Blk w12 (W.heap.size + 1) #[.string y0, .int .i64 t0, .string y1, .int .i64 t1, .int .i64 oc, .int .i64 ol, .bool on] 26 := by repeat' (first | (with_reducible assumption) | (with_reducible exact Blk.new _ _ _) | ((with_reducible refine Blk.new' _ _ _ ?_); simp; done) | (with_reducible refine Blk.alloc ?_ _) | (with_reducible refine Blk.drew ?_) | (with_reducible refine Blk.drewN ?_ _) | (with_reducible apply Blk.set) | (with_reducible refine Blk.set' ?_ ?_) | (with_reducible refine Blk.below ?_ (by with_reducible assumption)) | (show @Eq (Array Value) _ _; rfl) | (simp; done) | (simp; omega))
  have kv : Blk w12 (W.heap.size + 1 + 1) #[.int .i8 vo, .int .i64 vz, .string vb, .int .i64 vn] 29 := by repeat' (first | (with_reducible assumption) | (with_reducible exact Blk.new _ _ _) | ((with_reducible refine Blk.new' _ _ _ ?_); simp; done) | (with_reducible refine Blk.alloc ?_ _) | (with_reducible refine Blk.drew ?_) | (with_reducible refine Blk.drewN ?_ _) | (with_reducible apply Blk.set) | (with_reducible refine Blk.set' ?_ ?_) | (with_reducible refine Blk.below ?_ (by with_reducible assumption)) | (show @Eq (Array Value) _ _; rfl) | (simp; done) | (simp; omega))
  have kx : Blk w12 w4.heap.size #[.string J0, .int .i64 Js, .string J1, .int .i64 Jt, .int .i64 Jc, .int .i64 Jl, .bool Jd] 26 := by repeat' (first | (with_reducible assumption) | (with_reducible exact Blk.new _ _ _) | ((with_reducible refine Blk.new' _ _ _ ?_); simp; done) | (with_reducible refine Blk.alloc ?_ _) | (with_reducible refine Blk.drew ?_) | (with_reducible refine Blk.drewN ?_ _) | (with_reducible apply Blk.set) | (with_reducible refine Blk.set' ?_ ?_) | (with_reducible refine Blk.below ?_ (by with_reducible assumption)) | (show @Eq (Array Value) _ _; rfl) | (simp; done) | (simp; omega))
  have ky : Blk w12 w5.heap.size #[.string J0, .int .i64 Js, .string J1, .int .i64 Jt, .int .i64 Jc, .int .i64 Jl, .bool Jd] 26 := by repeat' (first | (with_reducible assumption) | (with_reducible exact Blk.new _ _ _) | ((with_reducible refine Blk.new' _ _ _ ?_); simp; done) | (with_reducible refine Blk.alloc ?_ _) | (with_reducible refine Blk.drew ?_) | (with_reducible refine Blk.drewN ?_ _) | (with_reducible apply Blk.set) | (with_reducible refine Blk.set' ?_ ?_) | (with_reducible refine Blk.below ?_ (by with_reducible assumption)) | (show @Eq (Array Value) _ _; rfl) | (simp; done) | (simp; omega))
  have cd := kd.cell; have fd := kd.froz; have qd := kd.lt; have co := ko.cell; have fo := ko.froz; have qo := ko.lt; have cv := kv.cell; have fv := kv.froz; have qv := kv.lt; have cx := kx.cell; have fx := kx.froz; have qx := kx.lt; have cy := ky.cell; have fy := ky.froz; have qy := ky.lt
  go_wp2_with fail
  refine (new_r _ Hr4.out).mono ?_
  rintro en w13 ⟨rfl, hw13⟩
  have zhw13 := hw13.size
  try simp at zhw13
  clear cd fd qd co fo qo cv fv qv cx fx qx cy fy qy
  have kd : Blk w13 W.heap.size #[.string b0, .int .i64 s0, .string b1, .int .i64 s1, .int .i64 c, .int .i64 l, .bool dn] 26 := by repeat' (first | (with_reducible assumption) | (with_reducible exact Blk.new _ _ _) | ((with_reducible refine Blk.new' _ _ _ ?_); simp; done) | (with_reducible refine Blk.alloc ?_ _) | (with_reducible refine Blk.drew ?_) | (with_reducible refine Blk.drewN ?_ _) | (with_reducible apply Blk.set) | (with_reducible refine Blk.set' ?_ ?_) | (with_reducible refine Blk.below ?_ (by with_reducible assumption)) | (show @Eq (Array Value) _ _; rfl) | (simp; done) | (simp; omega))
  have ko : Blk w13 (W.heap.size + 1) #[.string y0, .int .i64 t0, .string y1, .int .i64 t1, .int .i64 oc, .int .i64 ol, .bool on] 26 := by repeat' (first | (with_reducible assumption) | (with_reducible exact Blk.new _ _ _) | ((with_reducible refine Blk.new' _ _ _ ?_); simp; done) | (with_reducible refine Blk.alloc ?_ _) | (with_reducible refine Blk.drew ?_) | (with_reducible refine Blk.drewN ?_ _) | (with_reducible apply Blk.set) | (with_reducible refine Blk.set' ?_ ?_) | (with_reducible refine Blk.below ?_ (by with_reducible assumption)) | (show @Eq (Array Value) _ _; rfl) | (simp; done) | (simp; omega))
  have kv : Blk w13 (W.heap.size + 1 + 1) #[.int .i8 vo, .int .i64 vz, .string vb, .int .i64 vn] 29 := by repeat' (first | (with_reducible assumption) | (with_reducible exact Blk.new _ _ _) | ((with_reducible refine Blk.new' _ _ _ ?_); simp; done) | (with_reducible refine Blk.alloc ?_ _) | (with_reducible refine Blk.drew ?_) | (with_reducible refine Blk.drewN ?_ _) | (with_reducible apply Blk.set) | (with_reducible refine Blk.set' ?_ ?_) | (with_reducible refine Blk.below ?_ (by with_reducible assumption)) | (show @Eq (Array Value) _ _; rfl) | (simp; done) | (simp; omega))
  have kx : Blk w13 w4.heap.size #[.string J0, .int .i64 Js, .string J1, .int .i64 Jt, .int .i64 Jc, .int .i64 Jl, .bool Jd] 26 := by repeat' (first | (with_reducible assumption) | (with_reducible exact Blk.new _ _ _) | ((with_reducible refine Blk.new' _ _ _ ?_); simp; done) | (with_reducible refine Blk.alloc ?_ _) | (with_reducible refine Blk.drew ?_) | (with_reducible refine Blk.drewN ?_ _) | (with_reducible apply Blk.set) | (with_reducible refine Blk.set' ?_ ?_) | (with_reducible refine Blk.below ?_ (by with_reducible assumption)) | (show @Eq (Array Value) _ _; rfl) | (simp; done) | (simp; omega))
  have ky : Blk w13 w5.heap.size #[.string J0, .int .i64 Js, .string J1, .int .i64 Jt, .int .i64 Jc, .int .i64 Jl, .bool Jd] 26 := by repeat' (first | (with_reducible assumption) | (with_reducible exact Blk.new _ _ _) | ((with_reducible refine Blk.new' _ _ _ ?_); simp; done) | (with_reducible refine Blk.alloc ?_ _) | (with_reducible refine Blk.drew ?_) | (with_reducible refine Blk.drewN ?_ _) | (with_reducible apply Blk.set) | (with_reducible refine Blk.set' ?_ ?_) | (with_reducible refine Blk.below ?_ (by with_reducible assumption)) | (show @Eq (Array Value) _ _; rfl) | (simp; done) | (simp; omega))
  have cd := kd.cell; have fd := kd.froz; have qd := kd.lt; have co := ko.cell; have fo := ko.froz; have qo := ko.lt; have cv := kv.cell; have fv := kv.froz; have qv := kv.lt; have cx := kx.cell; have fx := kx.froz; have qx := kx.lt; have cy := ky.cell; have fy := ky.froz; have qy := ky.lt
  go_wp2_with fail
  refine (rnew_r _ Hr4.out).mono ?_
  rintro en w14 ⟨rfl, hw14⟩
  have zhw14 := hw14.size
  try simp at zhw14
  clear cd fd qd co fo qo cv fv qv cx fx qx cy fy qy
  have kd : Blk w14 W.heap.size #[.string b0, .int .i64 s0, .string b1, .int .i64 s1, .int .i64 c, .int .i64 l, .bool dn] 26 := by repeat' (first | (with_reducible assumption) | (with_reducible exact Blk.new _ _ _) | ((with_reducible refine Blk.new' _ _ _ ?_); simp; done) | (with_reducible refine Blk.alloc ?_ _) | (with_reducible refine Blk.drew ?_) | (with_reducible refine Blk.drewN ?_ _) | (with_reducible apply Blk.set) | (with_reducible refine Blk.set' ?_ ?_) | (with_reducible refine Blk.below ?_ (by with_reducible assumption)) | (show @Eq (Array Value) _ _; rfl) | (simp; done) | (simp; omega))
  have ko : Blk w14 (W.heap.size + 1) #[.string y0, .int .i64 t0, .string y1, .int .i64 t1, .int .i64 oc, .int .i64 ol, .bool on] 26 := by repeat' (first | (with_reducible assumption) | (with_reducible exact Blk.new _ _ _) | ((with_reducible refine Blk.new' _ _ _ ?_); simp; done) | (with_reducible refine Blk.alloc ?_ _) | (with_reducible refine Blk.drew ?_) | (with_reducible refine Blk.drewN ?_ _) | (with_reducible apply Blk.set) | (with_reducible refine Blk.set' ?_ ?_) | (with_reducible refine Blk.below ?_ (by with_reducible assumption)) | (show @Eq (Array Value) _ _; rfl) | (simp; done) | (simp; omega))
  have kv : Blk w14 (W.heap.size + 1 + 1) #[.int .i8 vo, .int .i64 vz, .string vb, .int .i64 vn] 29 := by repeat' (first | (with_reducible assumption) | (with_reducible exact Blk.new _ _ _) | ((with_reducible refine Blk.new' _ _ _ ?_); simp; done) | (with_reducible refine Blk.alloc ?_ _) | (with_reducible refine Blk.drew ?_) | (with_reducible refine Blk.drewN ?_ _) | (with_reducible apply Blk.set) | (with_reducible refine Blk.set' ?_ ?_) | (with_reducible refine Blk.below ?_ (by with_reducible assumption)) | (show @Eq (Array Value) _ _; rfl) | (simp; done) | (simp; omega))
  have kx : Blk w14 w4.heap.size #[.string I0, .int .i64 Is, .string I1, .int .i64 It, .int .i64 Ic, .int .i64 Il, .bool Id] 26 := by repeat' (first | (with_reducible assumption) | (with_reducible exact Blk.new _ _ _) | ((with_reducible refine Blk.new' _ _ _ ?_); simp; done) | (with_reducible refine Blk.alloc ?_ _) | (with_reducible refine Blk.drew ?_) | (with_reducible refine Blk.drewN ?_ _) | (with_reducible apply Blk.set) | (with_reducible refine Blk.set' ?_ ?_) | (with_reducible refine Blk.below ?_ (by with_reducible assumption)) | (show @Eq (Array Value) _ _; rfl) | (simp; done) | (simp; omega))
  have ky : Blk w14 w5.heap.size #[.string J0, .int .i64 Js, .string J1, .int .i64 Jt, .int .i64 Jc, .int .i64 Jl, .bool Jd] 26 := by repeat' (first | (with_reducible assumption) | (with_reducible exact Blk.new _ _ _) | ((with_reducible refine Blk.new' _ _ _ ?_); simp; done) | (with_reducible refine Blk.alloc ?_ _) | (with_reducible refine Blk.drew ?_) | (with_reducible refine Blk.drewN ?_ _) | (with_reducible apply Blk.set) | (with_reducible refine Blk.set' ?_ ?_) | (with_reducible refine Blk.below ?_ (by with_reducible assumption)) | (show @Eq (Array Value) _ _; rfl) | (simp; done) | (simp; omega))
  have cd := kd.cell; have fd := kd.froz; have qd := kd.lt; have co := ko.cell; have fo := ko.froz; have qo := ko.lt; have cv := kv.cell; have fv := kv.froz; have qv := kv.lt; have cx := kx.cell; have fx := kx.froz; have qx := kx.lt; have cy := ky.cell; have fy := ky.froz; have qy := ky.lt
  go_wp2_with fail
  go_region_held3 (fun wx => (Blk wx W.heap.size #[.string b0, .int .i64 s0, .string b1, .int .i64 s1, .int .i64 c, .int .i64 l, .bool dn] 26 ∧ ∀ o, wx.cell? ⟨W.heap.size, o, none⟩ = #[.string b0, .int .i64 s0, .string b1, .int .i64 s1, .int .i64 c, .int .i64 l, .bool dn][o]?) ∧ (Blk wx (W.heap.size + 1) #[.string y0, .int .i64 t0, .string y1, .int .i64 t1, .int .i64 oc, .int .i64 ol, .bool on] 26 ∧ ∀ o, wx.cell? ⟨(W.heap.size + 1), o, none⟩ = #[.string y0, .int .i64 t0, .string y1, .int .i64 t1, .int .i64 oc, .int .i64 ol, .bool on][o]?) ∧ (Blk wx w4.heap.size #[.string I0, .int .i64 Is, .string I1, .int .i64 It, .int .i64 Ic, .int .i64 Il, .bool Id] 26 ∧ ∀ o, wx.cell? ⟨w4.heap.size, o, none⟩ = #[.string I0, .int .i64 Is, .string I1, .int .i64 It, .int .i64 Ic, .int .i64 Il, .bool Id][o]?) ∧ (Blk wx w5.heap.size #[.string I0, .int .i64 Is, .string I1, .int .i64 It, .int .i64 Ic, .int .i64 Il, .bool Id] 26 ∧ ∀ o, wx.cell? ⟨w5.heap.size, o, none⟩ = #[.string I0, .int .i64 Is, .string I1, .int .i64 It, .int .i64 Ic, .int .i64 Il, .bool Id][o]?))
    (((refine ⟨blk_both ?_, blk_both ?_, blk_both ?_, blk_both ?_⟩) <;> repeat' (first | (with_reducible assumption) | (with_reducible exact Blk.new _ _ _) | ((with_reducible refine Blk.new' _ _ _ ?_); simp; done) | (with_reducible refine Blk.alloc ?_ _) | (with_reducible refine Blk.drew ?_) | (with_reducible refine Blk.drewN ?_ _) | (with_reducible apply Blk.set) | (with_reducible refine Blk.set' ?_ ?_) | (with_reducible refine Blk.below ?_ (by with_reducible assumption)) | (show @Eq (Array Value) _ _; rfl) | (simp; done) | (simp; omega))))
    (first
      | (go_at_call 13; (refine (rsame_b _ _ _ _ _ _ _ _ _ _ _ _ _ _ _).mono ?_; rintro en wq ⟨rfl, hq⟩))
      | (go_at_call 22; (refine (same_b _ _ _ _ _ _ _ _ _ _ _ _ _ _ _).mono ?_; rintro en wq ⟨rfl, hq⟩))
      | (go_at_call 20; (refine (check_any _ _ _ _ _ _ _ _ fa fb).mono ?_; rintro en wq ⟨rfl, hq⟩))
      | (go_at_call 21; (refine (rcheck_any _ _ _ _ _ _ _ _ fa fb).mono ?_; rintro en wq ⟨rfl, hq⟩))
      | (go_at_call 10; (refine (wakes_any _).mono ?_; rintro en wq ⟨rfl, hq⟩)))

  all_goals go_wp2_with fail
  all_goals go_ret
  all_goals refine ⟨rfl, ?_⟩
  all_goals (repeat' (first | (with_reducible exact Below.refl _ _) | (with_reducible assumption) | (with_reducible refine below_call ?_ (by with_reducible assumption)) | (with_reducible refine below_draws ?_ _) | (with_reducible refine Below.drew ?_) | (with_reducible refine Below.alloc ?_ ?_ _) | (with_reducible refine Below.setCell ?_ ?_ _) | omega | (simp; done) | (simp; omega)))
end Go.Proofs.Ytjgbnagacbiolaa
