/- LAYER 1: contracts of the functions of disk. -/
import Derived.Test.YtjgbnagacbiolaaL
namespace Go.Proofs.Ytjgbnagacbiolaa
open Go.RowKit
set_option linter.unusedVariables false
set_option linter.unusedSimpArgs false
structure Zn where
  b : ByteArray
  s : Int
structure Dk where
  z0 : Zn
  z1 : Zn
  c : Int
  l : Int
  d : Bool
@[reducible] def Dk.v (x : Dk) : Value := .agg #[.string x.z0.b, .int .i64 x.z0.s, .string x.z1.b, .int .i64 x.z1.s, .int .i64 x.c, .int .i64 x.l, .bool x.d]
def Dk.ok (x : Dk) : Bool := decide (0 ≤ x.c ∧ x.c ≤ 131072 ∧ (x.z0.b.size : Int) ≤ x.c ∧ 0 ≤ x.z0.s ∧ x.z0.s ≤ x.z0.b.size ∧ (x.z1.b.size : Int) ≤ x.c ∧ 0 ≤ x.z1.s ∧ x.z1.s ≤ x.z1.b.size)
def ckN (x : Dk) : Int := if x.ok then 0 else 2
set_option maxHeartbeats 400000 in
theorem check_any (b0 b1 : ByteArray) (s0 s1 c l : Int) (d : Bool) (w : World) (h0 : b0.size ≤ maxLen) (h1 : b1.size ≤ maxLen) :
    Calls Try.prog 20 #[.agg #[.string b0, .int .i64 s0, .string b1, .int .i64 s1, .int .i64 c, .int .i64 l, .bool d]] w (RetI (ckN ⟨⟨b0, s0⟩, ⟨b1, s1⟩, c, l, d⟩) w) := by
  unfold maxLen at h0 h1
  have i0 : ∀ w, (Instr.index 24 (.agg #[.string b0, .int .i64 s0, .string b1, .int .i64 s1]) (.int .i64 0)).run Try.prog w = .ok (.agg #[.string b0, .int .i64 s0]) w := fun _ => by kernel_rfl
  have i1 : ∀ w, (Instr.index 24 (.agg #[.string b0, .int .i64 s0, .string b1, .int .i64 s1]) (.int .i64 1)).run Try.prog w = .ok (.agg #[.string b1, .int .i64 s1]) w := fun _ => by kernel_rfl
  go_enter Try.func20, Try.ntmps20
  go_wp2
  rotate_left 1
  refine wp_loop_rounds 3 ?_
  repeat any_goals (rw [rounds_succ]; go_wp2)
  all_goals go_ret
  all_goals refine ⟨?_, by repeat' (first | (with_reducible exact Below.refl _ _) | (with_reducible assumption) | (with_reducible refine below_call ?_ (by with_reducible assumption)) | (with_reducible refine below_draws ?_ _) | (with_reducible refine Below.drew ?_) | (with_reducible refine Below.alloc ?_ ?_ _) | (with_reducible refine Below.setCell ?_ ?_ _) | omega | (simp; done) | (simp; omega))⟩
  all_goals (simp only [ckN, Dk.ok, decide_eq_true_eq]; first | (rw [if_pos (by omega)]; rfl) | (rw [if_neg (by omega)]; rfl))
def wrP (n0 n1 : Nat) (op zn : Int) (bs : Nat) (n : Int) : Prop :=
  (zn = 0 ∨ zn = 1) ∧ ((op = 0 ∧ bs ≠ 0 ∧ n = 0) ∨ (op = 1 ∧ bs = 0 ∧ n = 0) ∨ (op = 2 ∧ bs = 0 ∧ 0 ≤ n ∧ ((zn = 0 ∧ n ≤ n0) ∨ (zn = 1 ∧ n ≤ n1))))
set_option maxHeartbeats 400000 in
theorem isw_01 (b0 b1 b : ByteArray) (s0 s1 c l op zn n : Int) (d : Bool) (w : World) (h0 : b0.size ≤ maxLen) (h1 : b1.size ≤ maxLen) (ho : op ≠ 2) :
    Calls Try.prog 25 #[.agg #[.string b0, .int .i64 s0, .string b1, .int .i64 s1, .int .i64 c, .int .i64 l, .bool d], .agg #[.int .i8 op, .int .i64 zn, .string b, .int .i64 n]] w
      (RetP (wrP b0.size b1.size op zn b.size n) w) := by
  unfold maxLen at h0 h1
  have Hb := Lib.hid (nil_iff b)
  go_enter Try.func25, Try.ntmps25
  have ho' : (op == 2) = false := by simpa using ho
  go_wp2
  all_goals go_ret
  all_goals refine ⟨_, rfl, ?_, by repeat' (first | (with_reducible exact Below.refl _ _) | (with_reducible assumption) | (with_reducible refine below_call ?_ (by with_reducible assumption)) | (with_reducible refine below_draws ?_ _) | (with_reducible refine Below.drew ?_) | (with_reducible refine Below.alloc ?_ ?_ _) | (with_reducible refine Below.setCell ?_ ?_ _) | omega | (simp; done) | (simp; omega))⟩
  all_goals simp only [Hb.out, beq_iff_eq, bne_iff_ne, beq_eq_false_iff_ne, bne_eq_false_iff_eq] at *
  all_goals try simp only [emp_iff, nemp_iff, beq_iff_eq, bne_iff_ne, beq_eq_false_iff_ne, bne_eq_false_iff_eq, Bool.and_eq_true, Bool.or_eq_true, Bool.not_eq_true', decide_eq_true_eq, true_iff, false_iff, Bool.false_eq_true]
  all_goals unfold wrP
  all_goals omega
set_option maxHeartbeats 400000 in
theorem isw_2a (b0 b1 b : ByteArray) (s0 s1 c l zn n : Int) (d : Bool) (w : World) (h0 : b0.size ≤ maxLen) (h1 : b1.size ≤ maxLen) (hz : zn = 0 ∨ zn = 1) (hb : b.toList = []) (hn : 0 ≤ n) :
    Calls Try.prog 25 #[.agg #[.string b0, .int .i64 s0, .string b1, .int .i64 s1, .int .i64 c, .int .i64 l, .bool d], .agg #[.int .i8 2, .int .i64 zn, .string b, .int .i64 n]] w
      (RetP (wrP b0.size b1.size 2 zn b.size n) w) := by
  unfold maxLen at h0 h1
  have Hb := Lib.hid ((nil_iff b).1 hb)
  rcases hz with rfl | rfl
  all_goals (go_enter Try.func25, Try.ntmps25)
  all_goals go_wp2
  all_goals go_quiet (fail)
  all_goals go_wp2
  all_goals go_ret
  all_goals refine ⟨_, rfl, ?_, by refine below_draws ?_ _; repeat' (first | (with_reducible exact Below.refl _ _) | (with_reducible assumption) | (with_reducible refine below_call ?_ (by with_reducible assumption)) | (with_reducible refine below_draws ?_ _) | (with_reducible refine Below.drew ?_) | (with_reducible refine Below.alloc ?_ ?_ _) | (with_reducible refine Below.setCell ?_ ?_ _) | omega | (simp; done) | (simp; omega))⟩
  all_goals have hb := Hb.out
  all_goals try simp only [decide_eq_true_eq, true_iff, false_iff, Bool.false_eq_true]
  all_goals unfold wrP
  all_goals omega
set_option maxHeartbeats 400000 in
theorem isw_2b (b0 b1 b : ByteArray) (s0 s1 c l zn n : Int) (d : Bool) (w : World) (h0 : b0.size ≤ maxLen) (h1 : b1.size ≤ maxLen) (hz : zn = 0 ∨ zn = 1) (hb : b.toList = []) (hn : n < 0) :
    Calls Try.prog 25 #[.agg #[.string b0, .int .i64 s0, .string b1, .int .i64 s1, .int .i64 c, .int .i64 l, .bool d], .agg #[.int .i8 2, .int .i64 zn, .string b, .int .i64 n]] w
      (RetP (wrP b0.size b1.size 2 zn b.size n) w) := by
  unfold maxLen at h0 h1
  have hn' : decide (0 ≤ n) = false := by simpa using hn
  rcases hz with rfl | rfl
  all_goals (go_enter Try.func25, Try.ntmps25)
  all_goals go_wp2
  all_goals go_quiet (fail)
  all_goals go_wp2
  all_goals go_ret
  all_goals refine ⟨_, rfl, ?_, by refine below_draws ?_ _; repeat' (first | (with_reducible exact Below.refl _ _) | (with_reducible assumption) | (with_reducible refine below_call ?_ (by with_reducible assumption)) | (with_reducible refine below_draws ?_ _) | (with_reducible refine Below.drew ?_) | (with_reducible refine Below.alloc ?_ ?_ _) | (with_reducible refine Below.setCell ?_ ?_ _) | omega | (simp; done) | (simp; omega))⟩
  all_goals try simp only [decide_eq_true_eq, true_iff, false_iff, Bool.false_eq_true]
  all_goals unfold wrP
  all_goals omega
set_option maxHeartbeats 400000 in
theorem isw_2c (b0 b1 b : ByteArray) (s0 s1 c l zn n : Int) (d : Bool) (w : World) (h0 : b0.size ≤ maxLen) (h1 : b1.size ≤ maxLen) (hz : zn = 0 ∨ zn = 1) (hb : ¬ b.toList = []) :
    Calls Try.prog 25 #[.agg #[.string b0, .int .i64 s0, .string b1, .int .i64 s1, .int .i64 c, .int .i64 l, .bool d], .agg #[.int .i8 2, .int .i64 zn, .string b, .int .i64 n]] w
      (RetP (wrP b0.size b1.size 2 zn b.size n) w) := by
  unfold maxLen at h0 h1
  have Hb := Lib.hid ((not_congr (nil_iff b)).1 hb)
  have he : b.toList.isEmpty = false := by rw [nemp_iff]; exact Hb.out
  clear hb
  rcases hz with rfl | rfl
  all_goals (go_enter Try.func25, Try.ntmps25)
  all_goals go_wp2
  all_goals go_quiet (fail)
  all_goals go_wp2
  all_goals go_ret
  all_goals refine ⟨_, rfl, ?_, by refine below_draws ?_ _; repeat' (first | (with_reducible exact Below.refl _ _) | (with_reducible assumption) | (with_reducible refine below_call ?_ (by with_reducible assumption)) | (with_reducible refine below_draws ?_ _) | (with_reducible refine Below.drew ?_) | (with_reducible refine Below.alloc ?_ ?_ _) | (with_reducible refine Below.setCell ?_ ?_ _) | omega | (simp; done) | (simp; omega))⟩
  all_goals have hb := Hb.out
  all_goals try simp only [decide_eq_true_eq, true_iff, false_iff, Bool.false_eq_true]
  all_goals unfold wrP
  all_goals omega
set_option maxHeartbeats 400000 in
theorem isw_2d (b0 b1 b : ByteArray) (s0 s1 c l zn n : Int) (d : Bool) (w : World) (hz : ¬ zn = 0) (hz1 : ¬ zn = 1) :
    Calls Try.prog 25 #[.agg #[.string b0, .int .i64 s0, .string b1, .int .i64 s1, .int .i64 c, .int .i64 l, .bool d], .agg #[.int .i8 2, .int .i64 zn, .string b, .int .i64 n]] w
      (RetP (wrP b0.size b1.size 2 zn b.size n) w) := by
  have hq : (zn / 2 != 0) = true := by rw [bne_iff_ne]; omega
  go_enter Try.func25, Try.ntmps25
  go_wp2
  go_ret
  refine ⟨_, rfl, ?_, by repeat' (first | (with_reducible exact Below.refl _ _) | (with_reducible assumption) | (with_reducible refine below_call ?_ (by with_reducible assumption)) | (with_reducible refine below_draws ?_ _) | (with_reducible refine Below.drew ?_) | (with_reducible refine Below.alloc ?_ ?_ _) | (with_reducible refine Below.setCell ?_ ?_ _) | omega | (simp; done) | (simp; omega))⟩
  try simp only [decide_eq_true_eq, true_iff, false_iff, Bool.false_eq_true]
  unfold wrP
  omega
theorem isw_any (b0 b1 b : ByteArray) (s0 s1 c l op zn n : Int) (d : Bool) (w : World) (h0 : b0.size ≤ maxLen) (h1 : b1.size ≤ maxLen) :
    Calls Try.prog 25 #[.agg #[.string b0, .int .i64 s0, .string b1, .int .i64 s1, .int .i64 c, .int .i64 l, .bool d], .agg #[.int .i8 op, .int .i64 zn, .string b, .int .i64 n]] w
      (RetP (wrP b0.size b1.size op zn b.size n) w) := by
  by_cases ho : op = 2
  · subst ho
    by_cases hz : zn = 0 ∨ zn = 1
    · by_cases hb : b.toList = []
      · by_cases hn : 0 ≤ n
        · exact isw_2a b0 b1 b s0 s1 c l zn n d w h0 h1 hz hb hn
        · exact isw_2b b0 b1 b s0 s1 c l zn n d w h0 h1 hz hb (by omega)
      · exact isw_2c b0 b1 b s0 s1 c l zn n d w h0 h1 hz hb
    · exact isw_2d b0 b1 b s0 s1 c l zn n d w (by omega) (by omega)
  · exact isw_01 b0 b1 b s0 s1 c l op zn n d w h0 h1 ho
theorem check_yes (b0 b1 : ByteArray) (s0 s1 c l : Int) (d : Bool) (w : World) (h0 : b0.size ≤ maxLen) (h1 : b1.size ≤ maxLen) (h : Dk.ok ⟨⟨b0, s0⟩, ⟨b1, s1⟩, c, l, d⟩ = true) :
    Calls Try.prog 20 #[.agg #[.string b0, .int .i64 s0, .string b1, .int .i64 s1, .int .i64 c, .int .i64 l, .bool d]] w (RetI 0 w) := by
  have := check_any b0 b1 s0 s1 c l d w h0 h1
  rwa [show ckN ⟨⟨b0, s0⟩, ⟨b1, s1⟩, c, l, d⟩ = 0 by simp [ckN, h]] at this
theorem check_no (b0 b1 : ByteArray) (s0 s1 c l : Int) (d : Bool) (w : World) (h0 : b0.size ≤ maxLen) (h1 : b1.size ≤ maxLen) (h : Dk.ok ⟨⟨b0, s0⟩, ⟨b1, s1⟩, c, l, d⟩ = false) :
    Calls Try.prog 20 #[.agg #[.string b0, .int .i64 s0, .string b1, .int .i64 s1, .int .i64 c, .int .i64 l, .bool d]] w (RetI 2 w) := by
  have := check_any b0 b1 s0 s1 c l d w h0 h1
  rwa [show ckN ⟨⟨b0, s0⟩, ⟨b1, s1⟩, c, l, d⟩ = 2 by simp [ckN, h]] at this
theorem isw_yes (b0 b1 b : ByteArray) (s0 s1 c l op zn n : Int) (d : Bool) (w : World) (h0 : b0.size ≤ maxLen) (h1 : b1.size ≤ maxLen) (h : wrP b0.size b1.size op zn b.size n) :
    Calls Try.prog 25 #[.agg #[.string b0, .int .i64 s0, .string b1, .int .i64 s1, .int .i64 c, .int .i64 l, .bool d], .agg #[.int .i8 op, .int .i64 zn, .string b, .int .i64 n]] w (RetB true w) :=
  (isw_any b0 b1 b s0 s1 c l op zn n d w h0 h1).mono fun e w' ⟨p, he, hp, hb⟩ => ⟨by rw [he, hp.2 h], hb⟩
theorem isw_no (b0 b1 b : ByteArray) (s0 s1 c l op zn n : Int) (d : Bool) (w : World) (h0 : b0.size ≤ maxLen) (h1 : b1.size ≤ maxLen) (h : ¬ wrP b0.size b1.size op zn b.size n) :
    Calls Try.prog 25 #[.agg #[.string b0, .int .i64 s0, .string b1, .int .i64 s1, .int .i64 c, .int .i64 l, .bool d], .agg #[.int .i8 op, .int .i64 zn, .string b, .int .i64 n]] w (RetB false w) :=
  (isw_any b0 b1 b s0 s1 c l op zn n d w h0 h1).mono fun e w' ⟨p, he, hp, hb⟩ => ⟨by rw [he, Bool.eq_false_iff.2 (fun hh => h (hp.1 hh))], hb⟩
@[reducible] def Zn.v (z : Zn) : Value := .agg #[.string z.b, .int .i64 z.s]
def behF (b0 : ByteArray) (s0 op : Int) (b : ByteArray) (n : Int) : Zn :=
  if op = 0 then ⟨b0 ++ b, s0⟩ else if op = 2 then ⟨b0.extract 0 n.toNat, n⟩ else if op = 1 then ⟨b0, b0.size⟩ else ⟨b0, s0⟩
def RetZ (z : Zn) (w : World) (e : Ending) (w' : World) : Prop := e = .returned z.v ∧ Below w.heap.size w w'
theorem retZ_of {b b' : ByteArray} {s s' : Int} {w w' : World} {z : Zn} (h : z = ⟨b, s⟩) (hb : Below w.heap.size w w') : RetZ z w (.returned (.agg #[.string b, .int .i64 s])) w' := ⟨by rw [h], hb⟩
set_option maxHeartbeats 400000 in
theorem behind_any (b0 b : ByteArray) (s0 op zn n : Int) (w : World) (h0 : b0.size ≤ 131072) (h1 : b.size ≤ 4096) (hn : op = 2 → 0 ≤ n) (hl : op = 2 → n ≤ b0.size) :
    Calls Try.prog 26 #[.agg #[.string b0, .int .i64 s0], .agg #[.int .i8 op, .int .i64 zn, .string b, .int .i64 n]] w (RetZ (behF b0 s0 op b n) w) := by
  by_cases h2 : op = 2
  · have hn := hn h2
    have hl := hl h2
    subst h2
    go_enter Try.func26, Try.ntmps26
    go_wp2
    refine bodyPost_ret (v := .agg #[.string (b0.extract 0 n.toNat), .int .i64 (max n 0)]) (by simp [results, Try.results26, go_sem]; done) rfl ⟨?_, by repeat' (first | (with_reducible exact Below.refl _ _) | (with_reducible assumption) | (with_reducible refine below_call ?_ (by with_reducible assumption)) | (with_reducible refine below_draws ?_ _) | (with_reducible refine Below.drew ?_) | (with_reducible refine Below.alloc ?_ ?_ _) | (with_reducible refine Below.setCell ?_ ?_ _) | omega | (simp; done) | (simp; omega))⟩
    simp only [behF]
    rw [show max n 0 = n by omega]
    rfl
  · clear hn hl
    have ho' : (op == 2) = false := by simpa using h2
    go_enter Try.func26, Try.ntmps26
    go_wp2
    all_goals refine bodyPost_ret (by simp [results, Try.results26, go_sem]; rfl) rfl ⟨?_, by repeat' (first | (with_reducible exact Below.refl _ _) | (with_reducible assumption) | (with_reducible refine below_call ?_ (by with_reducible assumption)) | (with_reducible refine below_draws ?_ _) | (with_reducible refine Below.drew ?_) | (with_reducible refine Below.alloc ?_ ?_ _) | (with_reducible refine Below.setCell ?_ ?_ _) | omega | (simp; done) | (simp; omega))⟩
    all_goals simp only [beq_iff_eq, beq_eq_false_iff_ne] at *
    all_goals first | (subst op; rfl) | simp only [behF, *, if_false]
def zeroD : Dk := ⟨⟨⟨#[]⟩, 0⟩, ⟨⟨#[]⟩, 0⟩, 0, 0, false⟩
def RetD (r : Dk × Int) (w : World) (e : Ending) (w' : World) : Prop := e = .returned (.tuple #[r.1.v, .int .i64 r.2]) ∧ Below w.heap.size w w'

set_option maxHeartbeats 400000 in
theorem do_no1 (b0 b1 b : ByteArray) (s0 s1 c l op zn n : Int) (d : Bool) (w : World) (h0 : b0.size ≤ maxLen) (h1 : b1.size ≤ maxLen) (h : Dk.ok ⟨⟨b0, s0⟩, ⟨b1, s1⟩, c, l, d⟩ = false) :
    Calls Try.prog 11 #[.agg #[.string b0, .int .i64 s0, .string b1, .int .i64 s1, .int .i64 c, .int .i64 l, .bool d], .agg #[.int .i8 op, .int .i64 zn, .string b, .int .i64 n]] w (RetD (zeroD, 2) w) := by
  have hh := Lib.hid h; clear h
  go_enter Try.func11, Try.ntmps11
  go_wp2_with fail
  refine (check_no _ _ _ _ _ _ _ _ h0 h1 hh.out).mono ?_
  rintro e w' ⟨rfl, hb⟩
  have k0 : Blk w' w.heap.size #[.string b0, .int .i64 s0, .string b1, .int .i64 s1, .int .i64 c, .int .i64 l, .bool d] 26 := by repeat' (first | (with_reducible assumption) | (with_reducible exact Blk.new _ _ _) | (with_reducible refine Blk.new' _ _ _ ?_) | (with_reducible refine Blk.alloc ?_ _) | (with_reducible refine Blk.drew ?_) | (with_reducible refine Blk.drewN ?_ _) | (with_reducible refine Blk.below ?_ (by with_reducible assumption)) | (simp; done))
  have k1 : Blk w' (w.heap.size + 1) #[.int .i8 op, .int .i64 zn, .string b, .int .i64 n] 29 := by repeat' (first | (with_reducible assumption) | (with_reducible exact Blk.new _ _ _) | (with_reducible refine Blk.new' _ _ _ ?_) | (with_reducible refine Blk.alloc ?_ _) | (with_reducible refine Blk.drew ?_) | (with_reducible refine Blk.drewN ?_ _) | (with_reducible refine Blk.below ?_ (by with_reducible assumption)) | (simp; done))
  have k2 : Blk w' (w.heap.size + 1 + 1) #[.string ⟨#[]⟩, .int .i64 0, .string ⟨#[]⟩, .int .i64 0, .int .i64 0, .int .i64 0, .bool false] 26 := by repeat' (first | (with_reducible assumption) | (with_reducible exact Blk.new _ _ _) | (with_reducible refine Blk.new' _ _ _ ?_) | (with_reducible refine Blk.alloc ?_ _) | (with_reducible refine Blk.drew ?_) | (with_reducible refine Blk.drewN ?_ _) | (with_reducible refine Blk.below ?_ (by with_reducible assumption)) | (simp; done))
  have c0 := k0.cell; have f0 := k0.froz; have c1 := k1.cell; have f1 := k1.froz; have c2 := k2.cell; have f2 := k2.froz
  go_wp2_with fail
  refine bodyPost_ret (v := .tuple #[zeroD.v, .int .i64 2]) (by simp [results, Try.results11, go_sem, c0, c1, c2, f0, f1, f2, zeroD]; done) rfl ⟨rfl, ?_⟩
  repeat' (first | (with_reducible exact Below.refl _ _) | (with_reducible refine below_call ?_ (by with_reducible assumption)) | (with_reducible refine below_draws ?_ _) | (with_reducible refine Below.drew ?_) | (with_reducible refine Below.alloc ?_ ?_ _) | (with_reducible refine Below.setCell ?_ ?_ _) | omega | (simp; done) | (simp; omega))
set_option maxHeartbeats 400000 in
theorem do_no2 (b0 b1 b : ByteArray) (s0 s1 c l op zn n : Int) (d : Bool) (w : World) (h0 : b0.size ≤ maxLen) (h1 : b1.size ≤ maxLen) (h : Dk.ok ⟨⟨b0, s0⟩, ⟨b1, s1⟩, c, l, d⟩ = true) (hw : ¬ wrP b0.size b1.size op zn b.size n) :
    Calls Try.prog 11 #[.agg #[.string b0, .int .i64 s0, .string b1, .int .i64 s1, .int .i64 c, .int .i64 l, .bool d], .agg #[.int .i8 op, .int .i64 zn, .string b, .int .i64 n]] w (RetD (zeroD, 2) w) := by
  have hh := Lib.hid h; clear h
  have hw' := Lib.hid hw; clear hw
  go_enter Try.func11, Try.ntmps11
  go_wp2_with fail
  refine (check_yes _ _ _ _ _ _ _ _ h0 h1 hh.out).mono ?_
  rintro e w' ⟨rfl, hb⟩
  have k0 : Blk w' w.heap.size #[.string b0, .int .i64 s0, .string b1, .int .i64 s1, .int .i64 c, .int .i64 l, .bool d] 26 := by repeat' (first | (with_reducible assumption) | (with_reducible exact Blk.new _ _ _) | (with_reducible refine Blk.new' _ _ _ ?_) | (with_reducible refine Blk.alloc ?_ _) | (with_reducible refine Blk.drew ?_) | (with_reducible refine Blk.drewN ?_ _) | (with_reducible refine Blk.below ?_ (by with_reducible assumption)) | (simp; done))
  have k1 : Blk w' (w.heap.size + 1) #[.int .i8 op, .int .i64 zn, .string b, .int .i64 n] 29 := by repeat' (first | (with_reducible assumption) | (with_reducible exact Blk.new _ _ _) | (with_reducible refine Blk.new' _ _ _ ?_) | (with_reducible refine Blk.alloc ?_ _) | (with_reducible refine Blk.drew ?_) | (with_reducible refine Blk.drewN ?_ _) | (with_reducible refine Blk.below ?_ (by with_reducible assumption)) | (simp; done))
  have k2 : Blk w' (w.heap.size + 1 + 1) #[.string ⟨#[]⟩, .int .i64 0, .string ⟨#[]⟩, .int .i64 0, .int .i64 0, .int .i64 0, .bool false] 26 := by repeat' (first | (with_reducible assumption) | (with_reducible exact Blk.new _ _ _) | (with_reducible refine Blk.new' _ _ _ ?_) | (with_reducible refine Blk.alloc ?_ _) | (with_reducible refine Blk.drew ?_) | (with_reducible refine Blk.drewN ?_ _) | (with_reducible refine Blk.below ?_ (by with_reducible assumption)) | (simp; done))
  have c0 := k0.cell; have f0 := k0.froz; have c1 := k1.cell; have f1 := k1.froz; have c2 := k2.cell; have f2 := k2.froz
  go_wp2_with fail
  refine (isw_no _ _ _ _ _ _ _ _ _ _ _ _ h0 h1 hw'.out).mono ?_
  rintro e w2 ⟨rfl, hb2⟩
  have k0 : Blk w2 w.heap.size #[.string b0, .int .i64 s0, .string b1, .int .i64 s1, .int .i64 c, .int .i64 l, .bool d] 26 := by repeat' (first | (with_reducible assumption) | (with_reducible exact Blk.new _ _ _) | (with_reducible refine Blk.new' _ _ _ ?_) | (with_reducible refine Blk.alloc ?_ _) | (with_reducible refine Blk.drew ?_) | (with_reducible refine Blk.drewN ?_ _) | (with_reducible refine Blk.below ?_ (by with_reducible assumption)) | (simp; done))
  have k1 : Blk w2 (w.heap.size + 1) #[.int .i8 op, .int .i64 zn, .string b, .int .i64 n] 29 := by repeat' (first | (with_reducible assumption) | (with_reducible exact Blk.new _ _ _) | (with_reducible refine Blk.new' _ _ _ ?_) | (with_reducible refine Blk.alloc ?_ _) | (with_reducible refine Blk.drew ?_) | (with_reducible refine Blk.drewN ?_ _) | (with_reducible refine Blk.below ?_ (by with_reducible assumption)) | (simp; done))
  have k2 : Blk w2 (w.heap.size + 1 + 1) #[.string ⟨#[]⟩, .int .i64 0, .string ⟨#[]⟩, .int .i64 0, .int .i64 0, .int .i64 0, .bool false] 26 := by repeat' (first | (with_reducible assumption) | (with_reducible exact Blk.new _ _ _) | (with_reducible refine Blk.new' _ _ _ ?_) | (with_reducible refine Blk.alloc ?_ _) | (with_reducible refine Blk.drew ?_) | (with_reducible refine Blk.drewN ?_ _) | (with_reducible refine Blk.below ?_ (by with_reducible assumption)) | (simp; done))
  have c0 := k0.cell; have f0 := k0.froz; have c1 := k1.cell; have f1 := k1.froz; have c2 := k2.cell; have f2 := k2.froz
  go_wp2_with fail
  refine bodyPost_ret (v := .tuple #[zeroD.v, .int .i64 2]) (by simp [results, Try.results11, go_sem, c0, c1, c2, f0, f1, f2, zeroD]; done) rfl ⟨rfl, ?_⟩
  repeat' (first | (with_reducible exact Below.refl _ _) | (with_reducible refine below_call ?_ (by with_reducible assumption)) | (with_reducible refine below_draws ?_ _) | (with_reducible refine Below.drew ?_) | (with_reducible refine Below.alloc ?_ ?_ _) | (with_reducible refine Below.setCell ?_ ?_ _) | omega | (simp; done) | (simp; omega))
set_option maxHeartbeats 400000 in
theorem do_down (b0 b1 b : ByteArray) (s0 s1 c l op zn n : Int) (d : Bool) (w : World) (h0 : b0.size ≤ maxLen) (h1 : b1.size ≤ maxLen) (h : Dk.ok ⟨⟨b0, s0⟩, ⟨b1, s1⟩, c, l, d⟩ = true) (hw : wrP b0.size b1.size op zn b.size n) (hd : d = true) :
    Calls Try.prog 11 #[.agg #[.string b0, .int .i64 s0, .string b1, .int .i64 s1, .int .i64 c, .int .i64 l, .bool d], .agg #[.int .i8 op, .int .i64 zn, .string b, .int .i64 n]] w (RetD (zeroD, 30) w) := by
  have hh := Lib.hid h; clear h
  have hw' := Lib.hid hw; clear hw
  subst hd
  go_enter Try.func11, Try.ntmps11
  go_wp2_with fail
  refine (check_yes _ _ _ _ _ _ _ _ h0 h1 hh.out).mono ?_
  rintro e w' ⟨rfl, hb⟩
  have k0 : Blk w' w.heap.size #[.string b0, .int .i64 s0, .string b1, .int .i64 s1, .int .i64 c, .int .i64 l, .bool true] 26 := by repeat' (first | (with_reducible assumption) | (with_reducible exact Blk.new _ _ _) | (with_reducible refine Blk.new' _ _ _ ?_) | (with_reducible refine Blk.alloc ?_ _) | (with_reducible refine Blk.drew ?_) | (with_reducible refine Blk.drewN ?_ _) | (with_reducible refine Blk.below ?_ (by with_reducible assumption)) | (simp; done))
  have k1 : Blk w' (w.heap.size + 1) #[.int .i8 op, .int .i64 zn, .string b, .int .i64 n] 29 := by repeat' (first | (with_reducible assumption) | (with_reducible exact Blk.new _ _ _) | (with_reducible refine Blk.new' _ _ _ ?_) | (with_reducible refine Blk.alloc ?_ _) | (with_reducible refine Blk.drew ?_) | (with_reducible refine Blk.drewN ?_ _) | (with_reducible refine Blk.below ?_ (by with_reducible assumption)) | (simp; done))
  have k2 : Blk w' (w.heap.size + 1 + 1) #[.string ⟨#[]⟩, .int .i64 0, .string ⟨#[]⟩, .int .i64 0, .int .i64 0, .int .i64 0, .bool false] 26 := by repeat' (first | (with_reducible assumption) | (with_reducible exact Blk.new _ _ _) | (with_reducible refine Blk.new' _ _ _ ?_) | (with_reducible refine Blk.alloc ?_ _) | (with_reducible refine Blk.drew ?_) | (with_reducible refine Blk.drewN ?_ _) | (with_reducible refine Blk.below ?_ (by with_reducible assumption)) | (simp; done))
  have c0 := k0.cell; have f0 := k0.froz; have c1 := k1.cell; have f1 := k1.froz; have c2 := k2.cell; have f2 := k2.froz
  go_wp2_with fail
  refine (isw_yes _ _ _ _ _ _ _ _ _ _ _ _ h0 h1 hw'.out).mono ?_
  rintro e w2 ⟨rfl, hb2⟩
  have k0 : Blk w2 w.heap.size #[.string b0, .int .i64 s0, .string b1, .int .i64 s1, .int .i64 c, .int .i64 l, .bool true] 26 := by repeat' (first | (with_reducible assumption) | (with_reducible exact Blk.new _ _ _) | (with_reducible refine Blk.new' _ _ _ ?_) | (with_reducible refine Blk.alloc ?_ _) | (with_reducible refine Blk.drew ?_) | (with_reducible refine Blk.drewN ?_ _) | (with_reducible refine Blk.below ?_ (by with_reducible assumption)) | (simp; done))
  have k1 : Blk w2 (w.heap.size + 1) #[.int .i8 op, .int .i64 zn, .string b, .int .i64 n] 29 := by repeat' (first | (with_reducible assumption) | (with_reducible exact Blk.new _ _ _) | (with_reducible refine Blk.new' _ _ _ ?_) | (with_reducible refine Blk.alloc ?_ _) | (with_reducible refine Blk.drew ?_) | (with_reducible refine Blk.drewN ?_ _) | (with_reducible refine Blk.below ?_ (by with_reducible assumption)) | (simp; done))
  have k2 : Blk w2 (w.heap.size + 1 + 1) #[.string ⟨#[]⟩, .int .i64 0, .string ⟨#[]⟩, .int .i64 0, .int .i64 0, .int .i64 0, .bool false] 26 := by repeat' (first | (with_reducible assumption) | (with_reducible exact Blk.new _ _ _) | (with_reducible refine Blk.new' _ _ _ ?_) | (with_reducible refine Blk.alloc ?_ _) | (with_reducible refine Blk.drew ?_) | (with_reducible refine Blk.drewN ?_ _) | (with_reducible refine Blk.below ?_ (by with_reducible assumption)) | (simp; done))
  have c0 := k0.cell; have f0 := k0.froz; have c1 := k1.cell; have f1 := k1.froz; have c2 := k2.cell; have f2 := k2.froz
  go_wp2_with fail
  refine bodyPost_ret (v := .tuple #[zeroD.v, .int .i64 30]) (by simp [results, Try.results11, go_sem, c0, c1, c2, f0, f1, f2, zeroD]; done) rfl ⟨rfl, ?_⟩
  repeat' (first | (with_reducible exact Below.refl _ _) | (with_reducible refine below_call ?_ (by with_reducible assumption)) | (with_reducible refine below_draws ?_ _) | (with_reducible refine Below.drew ?_) | (with_reducible refine Below.alloc ?_ ?_ _) | (with_reducible refine Below.setCell ?_ ?_ _) | omega | (simp; done) | (simp; omega))
set_option maxHeartbeats 400000 in
theorem do_left (b0 b1 b : ByteArray) (s0 s1 c l op zn n : Int) (d : Bool) (w : World) (h0 : b0.size ≤ maxLen) (h1 : b1.size ≤ maxLen) (h : Dk.ok ⟨⟨b0, s0⟩, ⟨b1, s1⟩, c, l, d⟩ = true) (hw : wrP b0.size b1.size op zn b.size n) (hd : d = false) (hl : l = 0) :
    Calls Try.prog 11 #[.agg #[.string b0, .int .i64 s0, .string b1, .int .i64 s1, .int .i64 c, .int .i64 l, .bool d], .agg #[.int .i8 op, .int .i64 zn, .string b, .int .i64 n]] w (RetD (⟨⟨b0, s0⟩, ⟨b1, s1⟩, c, l, true⟩, 30) w) := by
  have hh := Lib.hid h; clear h
  have hw' := Lib.hid hw; clear hw
  subst hd
  subst hl
  go_enter Try.func11, Try.ntmps11
  go_wp2_with fail
  refine (check_yes _ _ _ _ _ _ _ _ h0 h1 hh.out).mono ?_
  rintro e w' ⟨rfl, hb⟩
  have k0 : Blk w' w.heap.size #[.string b0, .int .i64 s0, .string b1, .int .i64 s1, .int .i64 c, .int .i64 0, .bool false] 26 := by repeat' (first | (with_reducible assumption) | (with_reducible exact Blk.new _ _ _) | (with_reducible refine Blk.new' _ _ _ ?_) | (with_reducible refine Blk.alloc ?_ _) | (with_reducible refine Blk.drew ?_) | (with_reducible refine Blk.drewN ?_ _) | (with_reducible refine Blk.below ?_ (by with_reducible assumption)) | (simp; done))
  have k1 : Blk w' (w.heap.size + 1) #[.int .i8 op, .int .i64 zn, .string b, .int .i64 n] 29 := by repeat' (first | (with_reducible assumption) | (with_reducible exact Blk.new _ _ _) | (with_reducible refine Blk.new' _ _ _ ?_) | (with_reducible refine Blk.alloc ?_ _) | (with_reducible refine Blk.drew ?_) | (with_reducible refine Blk.drewN ?_ _) | (with_reducible refine Blk.below ?_ (by with_reducible assumption)) | (simp; done))
  have k2 : Blk w' (w.heap.size + 1 + 1) #[.string ⟨#[]⟩, .int .i64 0, .string ⟨#[]⟩, .int .i64 0, .int .i64 0, .int .i64 0, .bool false] 26 := by repeat' (first | (with_reducible assumption) | (with_reducible exact Blk.new _ _ _) | (with_reducible refine Blk.new' _ _ _ ?_) | (with_reducible refine Blk.alloc ?_ _) | (with_reducible refine Blk.drew ?_) | (with_reducible refine Blk.drewN ?_ _) | (with_reducible refine Blk.below ?_ (by with_reducible assumption)) | (simp; done))
  have c0 := k0.cell; have f0 := k0.froz; have c1 := k1.cell; have f1 := k1.froz; have c2 := k2.cell; have f2 := k2.froz
  go_wp2_with fail
  refine (isw_yes _ _ _ _ _ _ _ _ _ _ _ _ h0 h1 hw'.out).mono ?_
  rintro e w2 ⟨rfl, hb2⟩
  have k0 : Blk w2 w.heap.size #[.string b0, .int .i64 s0, .string b1, .int .i64 s1, .int .i64 c, .int .i64 0, .bool false] 26 := by repeat' (first | (with_reducible assumption) | (with_reducible exact Blk.new _ _ _) | (with_reducible refine Blk.new' _ _ _ ?_) | (with_reducible refine Blk.alloc ?_ _) | (with_reducible refine Blk.drew ?_) | (with_reducible refine Blk.drewN ?_ _) | (with_reducible refine Blk.below ?_ (by with_reducible assumption)) | (simp; done))
  have k1 : Blk w2 (w.heap.size + 1) #[.int .i8 op, .int .i64 zn, .string b, .int .i64 n] 29 := by repeat' (first | (with_reducible assumption) | (with_reducible exact Blk.new _ _ _) | (with_reducible refine Blk.new' _ _ _ ?_) | (with_reducible refine Blk.alloc ?_ _) | (with_reducible refine Blk.drew ?_) | (with_reducible refine Blk.drewN ?_ _) | (with_reducible refine Blk.below ?_ (by with_reducible assumption)) | (simp; done))
  have k2 : Blk w2 (w.heap.size + 1 + 1) #[.string ⟨#[]⟩, .int .i64 0, .string ⟨#[]⟩, .int .i64 0, .int .i64 0, .int .i64 0, .bool false] 26 := by repeat' (first | (with_reducible assumption) | (with_reducible exact Blk.new _ _ _) | (with_reducible refine Blk.new' _ _ _ ?_) | (with_reducible refine Blk.alloc ?_ _) | (with_reducible refine Blk.drew ?_) | (with_reducible refine Blk.drewN ?_ _) | (with_reducible refine Blk.below ?_ (by with_reducible assumption)) | (simp; done))
  have c0 := k0.cell; have f0 := k0.froz; have c1 := k1.cell; have f1 := k1.froz; have c2 := k2.cell; have f2 := k2.froz
  go_wp2_with fail
  refine bodyPost_ret (v := .tuple #[Dk.v ⟨⟨b0, s0⟩, ⟨b1, s1⟩, c, 0, true⟩, .int .i64 30]) (by simp [results, Try.results11, go_sem, c0, c1, c2, f0, f1, f2, zeroD]; done) rfl ⟨rfl, ?_⟩
  repeat' (first | (with_reducible exact Below.refl _ _) | (with_reducible refine below_call ?_ (by with_reducible assumption)) | (with_reducible refine below_draws ?_ _) | (with_reducible refine Below.drew ?_) | (with_reducible refine Below.alloc ?_ ?_ _) | (with_reducible refine Below.setCell ?_ ?_ _) | omega | (simp; done) | (simp; omega))
theorem ok_iff (b0 b1 : ByteArray) (s0 s1 c l : Int) (d : Bool) : Dk.ok ⟨⟨b0, s0⟩, ⟨b1, s1⟩, c, l, d⟩ = true ↔ (0 ≤ c ∧ c ≤ 131072 ∧ (b0.size : Int) ≤ c ∧ 0 ≤ s0 ∧ s0 ≤ b0.size ∧ (b1.size : Int) ≤ c ∧ 0 ≤ s1 ∧ s1 ≤ b1.size) := by
  simp only [Dk.ok, decide_eq_true_eq]
set_option maxHeartbeats 400000 in
theorem do_full (b0 b1 b : ByteArray) (s0 s1 c l op zn n : Int) (d : Bool) (w : World) (h0 : b0.size ≤ maxLen) (h1 : b1.size ≤ maxLen) (h : Dk.ok ⟨⟨b0, s0⟩, ⟨b1, s1⟩, c, l, d⟩ = true) (hw : wrP b0.size b1.size op zn b.size n) (hd : d = false) (hl : l ≠ 0) (hf : (zn = 0 ∧ c - b0.size < b.size) ∨ (zn = 1 ∧ c - b1.size < b.size)) :
    Calls Try.prog 11 #[.agg #[.string b0, .int .i64 s0, .string b1, .int .i64 s1, .int .i64 c, .int .i64 l, .bool d], .agg #[.int .i8 op, .int .i64 zn, .string b, .int .i64 n]] w (RetD (zeroD, 31) w) := by
  obtain ⟨o1, o2, o3, o4, o5, o6, o7, o8⟩ := (ok_iff _ _ _ _ _ _ _).1 h
  have hh := Lib.hid h; clear h
  have hw' := Lib.hid hw; clear hw
  subst hd
  have hl' : (l == 0) = false := by simpa using hl
  rcases hf with ⟨rfl, hf⟩ | ⟨rfl, hf⟩
  · go_enter Try.func11, Try.ntmps11
    go_wp2_with fail
    refine (check_yes _ _ _ _ _ _ _ _ h0 h1 hh.out).mono ?_
    rintro e w' ⟨rfl, hb⟩
    have k0 : Blk w' w.heap.size #[.string b0, .int .i64 s0, .string b1, .int .i64 s1, .int .i64 c, .int .i64 l, .bool false] 26 := by repeat' (first | (with_reducible assumption) | (with_reducible exact Blk.new _ _ _) | (with_reducible refine Blk.new' _ _ _ ?_) | (with_reducible refine Blk.alloc ?_ _) | (with_reducible refine Blk.drew ?_) | (with_reducible refine Blk.drewN ?_ _) | (with_reducible refine Blk.below ?_ (by with_reducible assumption)) | (simp; done))
    have k1 : Blk w' (w.heap.size + 1) #[.int .i8 op, .int .i64 0, .string b, .int .i64 n] 29 := by repeat' (first | (with_reducible assumption) | (with_reducible exact Blk.new _ _ _) | (with_reducible refine Blk.new' _ _ _ ?_) | (with_reducible refine Blk.alloc ?_ _) | (with_reducible refine Blk.drew ?_) | (with_reducible refine Blk.drewN ?_ _) | (with_reducible refine Blk.below ?_ (by with_reducible assumption)) | (simp; done))
    have k2 : Blk w' (w.heap.size + 1 + 1) #[.string ⟨#[]⟩, .int .i64 0, .string ⟨#[]⟩, .int .i64 0, .int .i64 0, .int .i64 0, .bool false] 26 := by repeat' (first | (with_reducible assumption) | (with_reducible exact Blk.new _ _ _) | (with_reducible refine Blk.new' _ _ _ ?_) | (with_reducible refine Blk.alloc ?_ _) | (with_reducible refine Blk.drew ?_) | (with_reducible refine Blk.drewN ?_ _) | (with_reducible refine Blk.below ?_ (by with_reducible assumption)) | (simp; done))
    have c0 := k0.cell; have f0 := k0.froz; have c1 := k1.cell; have f1 := k1.froz; have c2 := k2.cell; have f2 := k2.froz
    go_wp2_with fail
    refine (isw_yes _ _ _ _ _ _ _ _ _ _ _ _ h0 h1 hw'.out).mono ?_
    rintro e w2 ⟨rfl, hb2⟩
    have k0 : Blk w2 w.heap.size #[.string b0, .int .i64 s0, .string b1, .int .i64 s1, .int .i64 c, .int .i64 l, .bool false] 26 := by repeat' (first | (with_reducible assumption) | (with_reducible exact Blk.new _ _ _) | (with_reducible refine Blk.new' _ _ _ ?_) | (with_reducible refine Blk.alloc ?_ _) | (with_reducible refine Blk.drew ?_) | (with_reducible refine Blk.drewN ?_ _) | (with_reducible refine Blk.below ?_ (by with_reducible assumption)) | (simp; done))
    have k1 : Blk w2 (w.heap.size + 1) #[.int .i8 op, .int .i64 0, .string b, .int .i64 n] 29 := by repeat' (first | (with_reducible assumption) | (with_reducible exact Blk.new _ _ _) | (with_reducible refine Blk.new' _ _ _ ?_) | (with_reducible refine Blk.alloc ?_ _) | (with_reducible refine Blk.drew ?_) | (with_reducible refine Blk.drewN ?_ _) | (with_reducible refine Blk.below ?_ (by with_reducible assumption)) | (simp; done))
    have k2 : Blk w2 (w.heap.size + 1 + 1) #[.string ⟨#[]⟩, .int .i64 0, .string ⟨#[]⟩, .int .i64 0, .int .i64 0, .int .i64 0, .bool false] 26 := by repeat' (first | (with_reducible assumption) | (with_reducible exact Blk.new _ _ _) | (with_reducible refine Blk.new' _ _ _ ?_) | (with_reducible refine Blk.alloc ?_ _) | (with_reducible refine Blk.drew ?_) | (with_reducible refine Blk.drewN ?_ _) | (with_reducible refine Blk.below ?_ (by with_reducible assumption)) | (simp; done))
    have c0 := k0.cell; have f0 := k0.froz; have c1 := k1.cell; have f1 := k1.froz; have c2 := k2.cell; have f2 := k2.froz
    go_wp2_with fail
    go_quiet (fail)
    go_wp2_with fail
    refine bodyPost_ret (v := .tuple #[zeroD.v, .int .i64 31]) (by simp [results, Try.results11, go_sem, c0, c1, c2, f0, f1, f2, zeroD]; done) rfl ⟨rfl, ?_⟩
    repeat' (first | (with_reducible exact Below.refl _ _) | (with_reducible refine below_call ?_ (by with_reducible assumption)) | (with_reducible refine below_draws ?_ _) | (with_reducible refine Below.drew ?_) | (with_reducible refine Below.alloc ?_ ?_ _) | (with_reducible refine Below.setCell ?_ ?_ _) | omega | (simp; done) | (simp; omega))
  · go_enter Try.func11, Try.ntmps11
    go_wp2_with fail
    refine (check_yes _ _ _ _ _ _ _ _ h0 h1 hh.out).mono ?_
    rintro e w' ⟨rfl, hb⟩
    have k0 : Blk w' w.heap.size #[.string b0, .int .i64 s0, .string b1, .int .i64 s1, .int .i64 c, .int .i64 l, .bool false] 26 := by repeat' (first | (with_reducible assumption) | (with_reducible exact Blk.new _ _ _) | (with_reducible refine Blk.new' _ _ _ ?_) | (with_reducible refine Blk.alloc ?_ _) | (with_reducible refine Blk.drew ?_) | (with_reducible refine Blk.drewN ?_ _) | (with_reducible refine Blk.below ?_ (by with_reducible assumption)) | (simp; done))
    have k1 : Blk w' (w.heap.size + 1) #[.int .i8 op, .int .i64 1, .string b, .int .i64 n] 29 := by repeat' (first | (with_reducible assumption) | (with_reducible exact Blk.new _ _ _) | (with_reducible refine Blk.new' _ _ _ ?_) | (with_reducible refine Blk.alloc ?_ _) | (with_reducible refine Blk.drew ?_) | (with_reducible refine Blk.drewN ?_ _) | (with_reducible refine Blk.below ?_ (by with_reducible assumption)) | (simp; done))
    have k2 : Blk w' (w.heap.size + 1 + 1) #[.string ⟨#[]⟩, .int .i64 0, .string ⟨#[]⟩, .int .i64 0, .int .i64 0, .int .i64 0, .bool false] 26 := by repeat' (first | (with_reducible assumption) | (with_reducible exact Blk.new _ _ _) | (with_reducible refine Blk.new' _ _ _ ?_) | (with_reducible refine Blk.alloc ?_ _) | (with_reducible refine Blk.drew ?_) | (with_reducible refine Blk.drewN ?_ _) | (with_reducible refine Blk.below ?_ (by with_reducible assumption)) | (simp; done))
    have c0 := k0.cell; have f0 := k0.froz; have c1 := k1.cell; have f1 := k1.froz; have c2 := k2.cell; have f2 := k2.froz
    go_wp2_with fail
    refine (isw_yes _ _ _ _ _ _ _ _ _ _ _ _ h0 h1 hw'.out).mono ?_
    rintro e w2 ⟨rfl, hb2⟩
    have k0 : Blk w2 w.heap.size #[.string b0, .int .i64 s0, .string b1, .int .i64 s1, .int .i64 c, .int .i64 l, .bool false] 26 := by repeat' (first | (with_reducible assumption) | (with_reducible exact Blk.new _ _ _) | (with_reducible refine Blk.new' _ _ _ ?_) | (with_reducible refine Blk.alloc ?_ _) | (with_reducible refine Blk.drew ?_) | (with_reducible refine Blk.drewN ?_ _) | (with_reducible refine Blk.below ?_ (by with_reducible assumption)) | (simp; done))
    have k1 : Blk w2 (w.heap.size + 1) #[.int .i8 op, .int .i64 1, .string b, .int .i64 n] 29 := by repeat' (first | (with_reducible assumption) | (with_reducible exact Blk.new _ _ _) | (with_reducible refine Blk.new' _ _ _ ?_) | (with_reducible refine Blk.alloc ?_ _) | (with_reducible refine Blk.drew ?_) | (with_reducible refine Blk.drewN ?_ _) | (with_reducible refine Blk.below ?_ (by with_reducible assumption)) | (simp; done))
    have k2 : Blk w2 (w.heap.size + 1 + 1) #[.string ⟨#[]⟩, .int .i64 0, .string ⟨#[]⟩, .int .i64 0, .int .i64 0, .int .i64 0, .bool false] 26 := by repeat' (first | (with_reducible assumption) | (with_reducible exact Blk.new _ _ _) | (with_reducible refine Blk.new' _ _ _ ?_) | (with_reducible refine Blk.alloc ?_ _) | (with_reducible refine Blk.drew ?_) | (with_reducible refine Blk.drewN ?_ _) | (with_reducible refine Blk.below ?_ (by with_reducible assumption)) | (simp; done))
    have c0 := k0.cell; have f0 := k0.froz; have c1 := k1.cell; have f1 := k1.froz; have c2 := k2.cell; have f2 := k2.froz
    go_wp2_with fail
    go_quiet (fail)
    go_wp2_with fail
    refine bodyPost_ret (v := .tuple #[zeroD.v, .int .i64 31]) (by simp [results, Try.results11, go_sem, c0, c1, c2, f0, f1, f2, zeroD]; done) rfl ⟨rfl, ?_⟩
    repeat' (first | (with_reducible exact Below.refl _ _) | (with_reducible refine below_call ?_ (by with_reducible assumption)) | (with_reducible refine below_draws ?_ _) | (with_reducible refine Below.drew ?_) | (with_reducible refine Below.alloc ?_ ?_ _) | (with_reducible refine Below.setCell ?_ ?_ _) | omega | (simp; done) | (simp; omega))
theorem behind_z (b0 b : ByteArray) (s0 op zn n : Int) (w : World) (zb : ByteArray) (zs : Int) (hz : behF b0 s0 op b n = ⟨zb, zs⟩) (h0 : b0.size ≤ 131072) (h1 : b.size ≤ 4096) (hn : op = 2 → 0 ≤ n) (hl : op = 2 → n ≤ b0.size) :
    Calls Try.prog 26 #[.agg #[.string b0, .int .i64 s0], .agg #[.int .i8 op, .int .i64 zn, .string b, .int .i64 n]] w fun e w' => e = .returned (.agg #[.string zb, .int .i64 zs]) ∧ Below w.heap.size w w' := by
  have := behind_any b0 b s0 op zn n w h0 h1 hn hl
  rw [hz] at this
  exact this
/-- What region 10 of Do leaves: the disk's own block with the zone in it, the result's block as it was made. -/
def CutD (w : World) (xs : Array Value) (s : Value) (wx : World) : Prop :=
  s = .pointer (some ⟨w.heap.size + 1 + 1, 0, none⟩) ∧ Blk wx w.heap.size xs 26 ∧ Blk wx (w.heap.size + 1 + 1) #[.string ⟨#[]⟩, .int .i64 0, .string ⟨#[]⟩, .int .i64 0, .int .i64 0, .int .i64 0, .bool false] 26 ∧ Below w.heap.size w wx
end Go.Proofs.Ytjgbnagacbiolaa
