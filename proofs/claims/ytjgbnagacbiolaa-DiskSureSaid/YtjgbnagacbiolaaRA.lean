import Derived.Test.YtjgbnagacbiolaaA
namespace Go.Proofs.Ytjgbnagacbiolaa
open Go.RowKit
set_option linter.unusedVariables false
set_option linter.unusedSimpArgs false
set_option maxHeartbeats 800000 in
theorem rcheck_any (b0 b1 : ByteArray) (s0 s1 c l : Int) (d : Bool) (w : World) (h0 : b0.size ≤ maxLen) (h1 : b1.size ≤ maxLen) :
    Calls Try.prog 21 #[.agg #[.string b0, .int .i64 s0, .string b1, .int .i64 s1, .int .i64 c, .int .i64 l, .bool d]] w (RetI (ckN ⟨⟨b0, s0⟩, ⟨b1, s1⟩, c, l, d⟩) w) := by
  unfold maxLen at h0 h1
  go_enter Try.func21, Try.ntmps21
  go_wp2
  rotate_left 1
  refine wp_loop_rounds 3 ?_
  repeat any_goals (rw [rounds_succ]; go_wp2)
  all_goals go_ret
  all_goals refine ⟨?_, by repeat' (first | (with_reducible exact Below.refl _ _) | (with_reducible assumption) | (with_reducible refine below_call ?_ (by with_reducible assumption)) | (with_reducible refine below_draws ?_ _) | (with_reducible refine Below.drew ?_) | (with_reducible refine Below.alloc ?_ ?_ _) | (with_reducible refine Below.setCell ?_ ?_ _) | omega | (simp; done) | (simp; omega))⟩
  all_goals (simp only [ckN, Dk.ok, decide_eq_true_eq]; first | (rw [if_pos (by omega)]; rfl) | (rw [if_neg (by omega)]; rfl))
theorem rcheck_yes (b0 b1 : ByteArray) (s0 s1 c l : Int) (d : Bool) (w : World) (h0 : b0.size ≤ maxLen) (h1 : b1.size ≤ maxLen) (h : Dk.ok ⟨⟨b0, s0⟩, ⟨b1, s1⟩, c, l, d⟩ = true) :
    Calls Try.prog 21 #[.agg #[.string b0, .int .i64 s0, .string b1, .int .i64 s1, .int .i64 c, .int .i64 l, .bool d]] w (RetI 0 w) := by
  have := rcheck_any b0 b1 s0 s1 c l d w h0 h1
  rwa [show ckN ⟨⟨b0, s0⟩, ⟨b1, s1⟩, c, l, d⟩ = 0 by simp [ckN, h]] at this
theorem rcheck_no (b0 b1 : ByteArray) (s0 s1 c l : Int) (d : Bool) (w : World) (h0 : b0.size ≤ maxLen) (h1 : b1.size ≤ maxLen) (h : Dk.ok ⟨⟨b0, s0⟩, ⟨b1, s1⟩, c, l, d⟩ = false) :
    Calls Try.prog 21 #[.agg #[.string b0, .int .i64 s0, .string b1, .int .i64 s1, .int .i64 c, .int .i64 l, .bool d]] w (RetI 2 w) := by
  have := rcheck_any b0 b1 s0 s1 c l d w h0 h1
  rwa [show ckN ⟨⟨b0, s0⟩, ⟨b1, s1⟩, c, l, d⟩ = 2 by simp [ckN, h]] at this
set_option maxHeartbeats 400000 in
theorem rdo_no1 (b0 b1 b : ByteArray) (s0 s1 c l op zn n : Int) (d : Bool) (w : World) (h0 : b0.size ≤ maxLen) (h1 : b1.size ≤ maxLen) (hbs : b.size ≤ 4096) (h : Dk.ok ⟨⟨b0, s0⟩, ⟨b1, s1⟩, c, l, d⟩ = false) :
    Calls Try.prog 12 #[.agg #[.string b0, .int .i64 s0, .string b1, .int .i64 s1, .int .i64 c, .int .i64 l, .bool d], .agg #[.int .i8 op, .int .i64 zn, .string b, .int .i64 n]] w (RetD (zeroD, 2) w) := by
  have hh := Lib.hid h; clear h
  go_enter Try.func12, Try.ntmps12
  go_wp2_with fail
  refine (rcheck_no _ _ _ _ _ _ _ _ h0 h1 hh.out).mono ?_
  rintro e w' ⟨rfl, hb⟩
  have k0 : Blk w' w.heap.size #[.string b0, .int .i64 s0, .string b1, .int .i64 s1, .int .i64 c, .int .i64 l, .bool d] 26 := by repeat' (first | (with_reducible assumption) | (with_reducible exact Blk.new _ _ _) | (with_reducible refine Blk.new' _ _ _ ?_) | (with_reducible refine Blk.alloc ?_ _) | (with_reducible refine Blk.drew ?_) | (with_reducible refine Blk.drewN ?_ _) | (with_reducible refine Blk.below ?_ (by with_reducible assumption)) | (simp; done))
  have k1 : Blk w' (w.heap.size + 1) #[.int .i8 op, .int .i64 zn, .string b, .int .i64 n] 29 := by repeat' (first | (with_reducible assumption) | (with_reducible exact Blk.new _ _ _) | (with_reducible refine Blk.new' _ _ _ ?_) | (with_reducible refine Blk.alloc ?_ _) | (with_reducible refine Blk.drew ?_) | (with_reducible refine Blk.drewN ?_ _) | (with_reducible refine Blk.below ?_ (by with_reducible assumption)) | (simp; done))
  have k2 : Blk w' (w.heap.size + 1 + 1) #[.string ⟨#[]⟩, .int .i64 0, .string ⟨#[]⟩, .int .i64 0, .int .i64 0, .int .i64 0, .bool false] 26 := by repeat' (first | (with_reducible assumption) | (with_reducible exact Blk.new _ _ _) | (with_reducible refine Blk.new' _ _ _ ?_) | (with_reducible refine Blk.alloc ?_ _) | (with_reducible refine Blk.drew ?_) | (with_reducible refine Blk.drewN ?_ _) | (with_reducible refine Blk.below ?_ (by with_reducible assumption)) | (simp; done))
  have c0 := k0.cell; have f0 := k0.froz; have c1 := k1.cell; have f1 := k1.froz; have c2 := k2.cell; have f2 := k2.froz
  have q0 := k0.lt; have q1 := k1.lt; have q2 := k2.lt
  go_wp2_with fail
  all_goals refine bodyPost_ret (v := .tuple #[zeroD.v, .int .i64 2]) (by simp [results, Try.results12, go_sem, c0, c1, c2, f0, f1, f2, zeroD]; done) rfl ⟨rfl, ?_⟩
  all_goals (repeat' (first | (with_reducible exact Below.refl _ _) | (with_reducible assumption) | (with_reducible refine below_call ?_ (by with_reducible assumption)) | (with_reducible refine below_draws ?_ _) | (with_reducible refine Below.drew ?_) | (with_reducible refine Below.alloc ?_ ?_ _) | (with_reducible refine Below.setCell ?_ ?_ _) | omega | (simp; done) | (simp; omega)))
end Go.Proofs.Ytjgbnagacbiolaa
