import Derived.Test.YtjgbnagacbiolaaRA
namespace Go.Proofs.Ytjgbnagacbiolaa
open Go.RowKit
set_option linter.unusedVariables false
set_option linter.unusedSimpArgs false
set_option maxHeartbeats 400000 in
theorem rbad0_op0a (b0 b1 b : ByteArray) (s0 s1 c l n : Int) (d : Bool) (w : World) (h0 : b0.size ≤ maxLen) (h1 : b1.size ≤ maxLen) (hbs : b.size ≤ 4096) (h : Dk.ok ⟨⟨b0, s0⟩, ⟨b1, s1⟩, c, l, d⟩ = true) (hb : b.size = 0) :
    Calls Try.prog 12 #[.agg #[.string b0, .int .i64 s0, .string b1, .int .i64 s1, .int .i64 c, .int .i64 l, .bool d], .agg #[.int .i8 0, .int .i64 0, .string b, .int .i64 n]] w (RetD (zeroD, 2) w) := by
  obtain ⟨o1, o2, o3, o4, o5, o6, o7, o8⟩ := (ok_iff _ _ _ _ _ _ _).1 h
  have hh := Lib.hid h; clear h
  have hb1 : ((b.size : Int) == 0) = true := by rw [beq_iff_eq]; omega
  have Hb := Lib.hid hb; clear hb
  go_enter Try.func12, Try.ntmps12
  go_wp2_with fail
  refine (rcheck_yes _ _ _ _ _ _ _ _ h0 h1 hh.out).mono ?_
  rintro e w' ⟨rfl, hb⟩
  have k0 : Blk w' w.heap.size #[.string b0, .int .i64 s0, .string b1, .int .i64 s1, .int .i64 c, .int .i64 l, .bool d] 26 := by repeat' (first | (with_reducible assumption) | (with_reducible exact Blk.new _ _ _) | (with_reducible refine Blk.new' _ _ _ ?_) | (with_reducible refine Blk.alloc ?_ _) | (with_reducible refine Blk.drew ?_) | (with_reducible refine Blk.drewN ?_ _) | (with_reducible refine Blk.below ?_ (by with_reducible assumption)) | (simp; done))
  have k1 : Blk w' (w.heap.size + 1) #[.int .i8 0, .int .i64 0, .string b, .int .i64 n] 29 := by repeat' (first | (with_reducible assumption) | (with_reducible exact Blk.new _ _ _) | (with_reducible refine Blk.new' _ _ _ ?_) | (with_reducible refine Blk.alloc ?_ _) | (with_reducible refine Blk.drew ?_) | (with_reducible refine Blk.drewN ?_ _) | (with_reducible refine Blk.below ?_ (by with_reducible assumption)) | (simp; done))
  have k2 : Blk w' (w.heap.size + 1 + 1) #[.string ⟨#[]⟩, .int .i64 0, .string ⟨#[]⟩, .int .i64 0, .int .i64 0, .int .i64 0, .bool false] 26 := by repeat' (first | (with_reducible assumption) | (with_reducible exact Blk.new _ _ _) | (with_reducible refine Blk.new' _ _ _ ?_) | (with_reducible refine Blk.alloc ?_ _) | (with_reducible refine Blk.drew ?_) | (with_reducible refine Blk.drewN ?_ _) | (with_reducible refine Blk.below ?_ (by with_reducible assumption)) | (simp; done))
  have c0 := k0.cell; have f0 := k0.froz; have c1 := k1.cell; have f1 := k1.froz; have c2 := k2.cell; have f2 := k2.froz
  have q0 := k0.lt; have q1 := k1.lt; have q2 := k2.lt
  go_wp2_with fail
  all_goals refine bodyPost_ret (v := .tuple #[zeroD.v, .int .i64 2]) (by simp [results, Try.results12, go_sem, c0, c1, c2, f0, f1, f2, q0, q1, q2, zeroD]; done) rfl ⟨rfl, ?_⟩
  all_goals (repeat' (first | (with_reducible exact Below.refl _ _) | (with_reducible assumption) | (with_reducible refine below_call ?_ (by with_reducible assumption)) | (with_reducible refine below_draws ?_ _) | (with_reducible refine Below.drew ?_) | (with_reducible refine Below.alloc ?_ ?_ _) | (with_reducible refine Below.setCell ?_ ?_ _) | omega | (simp; done) | (simp; omega)))
set_option maxHeartbeats 400000 in
theorem rbad0_op0b (b0 b1 b : ByteArray) (s0 s1 c l n : Int) (d : Bool) (w : World) (h0 : b0.size ≤ maxLen) (h1 : b1.size ≤ maxLen) (hbs : b.size ≤ 4096) (h : Dk.ok ⟨⟨b0, s0⟩, ⟨b1, s1⟩, c, l, d⟩ = true) (hb : b.size ≠ 0) (hn : n ≠ 0) :
    Calls Try.prog 12 #[.agg #[.string b0, .int .i64 s0, .string b1, .int .i64 s1, .int .i64 c, .int .i64 l, .bool d], .agg #[.int .i8 0, .int .i64 0, .string b, .int .i64 n]] w (RetD (zeroD, 2) w) := by
  obtain ⟨o1, o2, o3, o4, o5, o6, o7, o8⟩ := (ok_iff _ _ _ _ _ _ _).1 h
  have hh := Lib.hid h; clear h
  have hb1 : ((b.size : Int) == 0) = false := by rw [beq_eq_false_iff_ne]; omega
  have hn1 : (n == 0) = false := by rw [beq_eq_false_iff_ne]; exact hn
  have hn2 : (n != 0) = true := by rw [bne_iff_ne]; exact hn
  go_enter Try.func12, Try.ntmps12
  go_wp2_with fail
  refine (rcheck_yes _ _ _ _ _ _ _ _ h0 h1 hh.out).mono ?_
  rintro e w' ⟨rfl, hb⟩
  have k0 : Blk w' w.heap.size #[.string b0, .int .i64 s0, .string b1, .int .i64 s1, .int .i64 c, .int .i64 l, .bool d] 26 := by repeat' (first | (with_reducible assumption) | (with_reducible exact Blk.new _ _ _) | (with_reducible refine Blk.new' _ _ _ ?_) | (with_reducible refine Blk.alloc ?_ _) | (with_reducible refine Blk.drew ?_) | (with_reducible refine Blk.drewN ?_ _) | (with_reducible refine Blk.below ?_ (by with_reducible assumption)) | (simp; done))
  have k1 : Blk w' (w.heap.size + 1) #[.int .i8 0, .int .i64 0, .string b, .int .i64 n] 29 := by repeat' (first | (with_reducible assumption) | (with_reducible exact Blk.new _ _ _) | (with_reducible refine Blk.new' _ _ _ ?_) | (with_reducible refine Blk.alloc ?_ _) | (with_reducible refine Blk.drew ?_) | (with_reducible refine Blk.drewN ?_ _) | (with_reducible refine Blk.below ?_ (by with_reducible assumption)) | (simp; done))
  have k2 : Blk w' (w.heap.size + 1 + 1) #[.string ⟨#[]⟩, .int .i64 0, .string ⟨#[]⟩, .int .i64 0, .int .i64 0, .int .i64 0, .bool false] 26 := by repeat' (first | (with_reducible assumption) | (with_reducible exact Blk.new _ _ _) | (with_reducible refine Blk.new' _ _ _ ?_) | (with_reducible refine Blk.alloc ?_ _) | (with_reducible refine Blk.drew ?_) | (with_reducible refine Blk.drewN ?_ _) | (with_reducible refine Blk.below ?_ (by with_reducible assumption)) | (simp; done))
  have c0 := k0.cell; have f0 := k0.froz; have c1 := k1.cell; have f1 := k1.froz; have c2 := k2.cell; have f2 := k2.froz
  have q0 := k0.lt; have q1 := k1.lt; have q2 := k2.lt
  go_wp2_with fail
  all_goals refine bodyPost_ret (v := .tuple #[zeroD.v, .int .i64 2]) (by simp [results, Try.results12, go_sem, c0, c1, c2, f0, f1, f2, q0, q1, q2, zeroD]; done) rfl ⟨rfl, ?_⟩
  all_goals (repeat' (first | (with_reducible exact Below.refl _ _) | (with_reducible assumption) | (with_reducible refine below_call ?_ (by with_reducible assumption)) | (with_reducible refine below_draws ?_ _) | (with_reducible refine Below.drew ?_) | (with_reducible refine Below.alloc ?_ ?_ _) | (with_reducible refine Below.setCell ?_ ?_ _) | omega | (simp; done) | (simp; omega)))
set_option maxHeartbeats 400000 in
theorem rbad0_op1a (b0 b1 b : ByteArray) (s0 s1 c l n : Int) (d : Bool) (w : World) (h0 : b0.size ≤ maxLen) (h1 : b1.size ≤ maxLen) (hbs : b.size ≤ 4096) (h : Dk.ok ⟨⟨b0, s0⟩, ⟨b1, s1⟩, c, l, d⟩ = true) (hb : b.size ≠ 0) :
    Calls Try.prog 12 #[.agg #[.string b0, .int .i64 s0, .string b1, .int .i64 s1, .int .i64 c, .int .i64 l, .bool d], .agg #[.int .i8 1, .int .i64 0, .string b, .int .i64 n]] w (RetD (zeroD, 2) w) := by
  obtain ⟨o1, o2, o3, o4, o5, o6, o7, o8⟩ := (ok_iff _ _ _ _ _ _ _).1 h
  have hh := Lib.hid h; clear h
  have hb1 : b.toList.isEmpty = false := by rw [nemp_iff]; exact hb
  go_enter Try.func12, Try.ntmps12
  go_wp2_with fail
  refine (rcheck_yes _ _ _ _ _ _ _ _ h0 h1 hh.out).mono ?_
  rintro e w' ⟨rfl, hb⟩
  have k0 : Blk w' w.heap.size #[.string b0, .int .i64 s0, .string b1, .int .i64 s1, .int .i64 c, .int .i64 l, .bool d] 26 := by repeat' (first | (with_reducible assumption) | (with_reducible exact Blk.new _ _ _) | (with_reducible refine Blk.new' _ _ _ ?_) | (with_reducible refine Blk.alloc ?_ _) | (with_reducible refine Blk.drew ?_) | (with_reducible refine Blk.drewN ?_ _) | (with_reducible refine Blk.below ?_ (by with_reducible assumption)) | (simp; done))
  have k1 : Blk w' (w.heap.size + 1) #[.int .i8 1, .int .i64 0, .string b, .int .i64 n] 29 := by repeat' (first | (with_reducible assumption) | (with_reducible exact Blk.new _ _ _) | (with_reducible refine Blk.new' _ _ _ ?_) | (with_reducible refine Blk.alloc ?_ _) | (with_reducible refine Blk.drew ?_) | (with_reducible refine Blk.drewN ?_ _) | (with_reducible refine Blk.below ?_ (by with_reducible assumption)) | (simp; done))
  have k2 : Blk w' (w.heap.size + 1 + 1) #[.string ⟨#[]⟩, .int .i64 0, .string ⟨#[]⟩, .int .i64 0, .int .i64 0, .int .i64 0, .bool false] 26 := by repeat' (first | (with_reducible assumption) | (with_reducible exact Blk.new _ _ _) | (with_reducible refine Blk.new' _ _ _ ?_) | (with_reducible refine Blk.alloc ?_ _) | (with_reducible refine Blk.drew ?_) | (with_reducible refine Blk.drewN ?_ _) | (with_reducible refine Blk.below ?_ (by with_reducible assumption)) | (simp; done))
  have c0 := k0.cell; have f0 := k0.froz; have c1 := k1.cell; have f1 := k1.froz; have c2 := k2.cell; have f2 := k2.froz
  have q0 := k0.lt; have q1 := k1.lt; have q2 := k2.lt
  go_wp2_with fail
  all_goals refine bodyPost_ret (v := .tuple #[zeroD.v, .int .i64 2]) (by simp [results, Try.results12, go_sem, c0, c1, c2, f0, f1, f2, q0, q1, q2, zeroD]; done) rfl ⟨rfl, ?_⟩
  all_goals (repeat' (first | (with_reducible exact Below.refl _ _) | (with_reducible assumption) | (with_reducible refine below_call ?_ (by with_reducible assumption)) | (with_reducible refine below_draws ?_ _) | (with_reducible refine Below.drew ?_) | (with_reducible refine Below.alloc ?_ ?_ _) | (with_reducible refine Below.setCell ?_ ?_ _) | omega | (simp; done) | (simp; omega)))
set_option maxHeartbeats 400000 in
theorem rbad0_op1b (b0 b1 b : ByteArray) (s0 s1 c l n : Int) (d : Bool) (w : World) (h0 : b0.size ≤ maxLen) (h1 : b1.size ≤ maxLen) (hbs : b.size ≤ 4096) (h : Dk.ok ⟨⟨b0, s0⟩, ⟨b1, s1⟩, c, l, d⟩ = true) (hb : b.size = 0) (hn : n ≠ 0) :
    Calls Try.prog 12 #[.agg #[.string b0, .int .i64 s0, .string b1, .int .i64 s1, .int .i64 c, .int .i64 l, .bool d], .agg #[.int .i8 1, .int .i64 0, .string b, .int .i64 n]] w (RetD (zeroD, 2) w) := by
  obtain ⟨o1, o2, o3, o4, o5, o6, o7, o8⟩ := (ok_iff _ _ _ _ _ _ _).1 h
  have hh := Lib.hid h; clear h
  have hb1 : b.toList.isEmpty = true := by rw [emp_iff]; exact hb
  have hb2 : b.toList = [] := by rw [nil_iff]; exact hb
  have Hb := Lib.hid hb; clear hb
  have hn1 : (n == 0) = false := by rw [beq_eq_false_iff_ne]; exact hn
  have hn2 : (n != 0) = true := by rw [bne_iff_ne]; exact hn
  go_enter Try.func12, Try.ntmps12
  go_wp2_with fail
  refine (rcheck_yes _ _ _ _ _ _ _ _ h0 h1 hh.out).mono ?_
  rintro e w' ⟨rfl, hb⟩
  have k0 : Blk w' w.heap.size #[.string b0, .int .i64 s0, .string b1, .int .i64 s1, .int .i64 c, .int .i64 l, .bool d] 26 := by repeat' (first | (with_reducible assumption) | (with_reducible exact Blk.new _ _ _) | (with_reducible refine Blk.new' _ _ _ ?_) | (with_reducible refine Blk.alloc ?_ _) | (with_reducible refine Blk.drew ?_) | (with_reducible refine Blk.drewN ?_ _) | (with_reducible refine Blk.below ?_ (by with_reducible assumption)) | (simp; done))
  have k1 : Blk w' (w.heap.size + 1) #[.int .i8 1, .int .i64 0, .string b, .int .i64 n] 29 := by repeat' (first | (with_reducible assumption) | (with_reducible exact Blk.new _ _ _) | (with_reducible refine Blk.new' _ _ _ ?_) | (with_reducible refine Blk.alloc ?_ _) | (with_reducible refine Blk.drew ?_) | (with_reducible refine Blk.drewN ?_ _) | (with_reducible refine Blk.below ?_ (by with_reducible assumption)) | (simp; done))
  have k2 : Blk w' (w.heap.size + 1 + 1) #[.string ⟨#[]⟩, .int .i64 0, .string ⟨#[]⟩, .int .i64 0, .int .i64 0, .int .i64 0, .bool false] 26 := by repeat' (first | (with_reducible assumption) | (with_reducible exact Blk.new _ _ _) | (with_reducible refine Blk.new' _ _ _ ?_) | (with_reducible refine Blk.alloc ?_ _) | (with_reducible refine Blk.drew ?_) | (with_reducible refine Blk.drewN ?_ _) | (with_reducible refine Blk.below ?_ (by with_reducible assumption)) | (simp; done))
  have c0 := k0.cell; have f0 := k0.froz; have c1 := k1.cell; have f1 := k1.froz; have c2 := k2.cell; have f2 := k2.froz
  have q0 := k0.lt; have q1 := k1.lt; have q2 := k2.lt
  go_wp2_with fail
  all_goals refine bodyPost_ret (v := .tuple #[zeroD.v, .int .i64 2]) (by simp [results, Try.results12, go_sem, c0, c1, c2, f0, f1, f2, q0, q1, q2, zeroD]; done) rfl ⟨rfl, ?_⟩
  all_goals (repeat' (first | (with_reducible exact Below.refl _ _) | (with_reducible assumption) | (with_reducible refine below_call ?_ (by with_reducible assumption)) | (with_reducible refine below_draws ?_ _) | (with_reducible refine Below.drew ?_) | (with_reducible refine Below.alloc ?_ ?_ _) | (with_reducible refine Below.setCell ?_ ?_ _) | omega | (simp; done) | (simp; omega)))
set_option maxHeartbeats 400000 in
theorem rbad0_op2a (b0 b1 b : ByteArray) (s0 s1 c l n : Int) (d : Bool) (w : World) (h0 : b0.size ≤ maxLen) (h1 : b1.size ≤ maxLen) (hbs : b.size ≤ 4096) (h : Dk.ok ⟨⟨b0, s0⟩, ⟨b1, s1⟩, c, l, d⟩ = true) (hb : b.size ≠ 0) :
    Calls Try.prog 12 #[.agg #[.string b0, .int .i64 s0, .string b1, .int .i64 s1, .int .i64 c, .int .i64 l, .bool d], .agg #[.int .i8 2, .int .i64 0, .string b, .int .i64 n]] w (RetD (zeroD, 2) w) := by
  obtain ⟨o1, o2, o3, o4, o5, o6, o7, o8⟩ := (ok_iff _ _ _ _ _ _ _).1 h
  have hh := Lib.hid h; clear h
  have hb1 : b.toList.isEmpty = false := by rw [nemp_iff]; exact hb
  go_enter Try.func12, Try.ntmps12
  go_wp2_with fail
  refine (rcheck_yes _ _ _ _ _ _ _ _ h0 h1 hh.out).mono ?_
  rintro e w' ⟨rfl, hb⟩
  have k0 : Blk w' w.heap.size #[.string b0, .int .i64 s0, .string b1, .int .i64 s1, .int .i64 c, .int .i64 l, .bool d] 26 := by repeat' (first | (with_reducible assumption) | (with_reducible exact Blk.new _ _ _) | (with_reducible refine Blk.new' _ _ _ ?_) | (with_reducible refine Blk.alloc ?_ _) | (with_reducible refine Blk.drew ?_) | (with_reducible refine Blk.drewN ?_ _) | (with_reducible refine Blk.below ?_ (by with_reducible assumption)) | (simp; done))
  have k1 : Blk w' (w.heap.size + 1) #[.int .i8 2, .int .i64 0, .string b, .int .i64 n] 29 := by repeat' (first | (with_reducible assumption) | (with_reducible exact Blk.new _ _ _) | (with_reducible refine Blk.new' _ _ _ ?_) | (with_reducible refine Blk.alloc ?_ _) | (with_reducible refine Blk.drew ?_) | (with_reducible refine Blk.drewN ?_ _) | (with_reducible refine Blk.below ?_ (by with_reducible assumption)) | (simp; done))
  have k2 : Blk w' (w.heap.size + 1 + 1) #[.string ⟨#[]⟩, .int .i64 0, .string ⟨#[]⟩, .int .i64 0, .int .i64 0, .int .i64 0, .bool false] 26 := by repeat' (first | (with_reducible assumption) | (with_reducible exact Blk.new _ _ _) | (with_reducible refine Blk.new' _ _ _ ?_) | (with_reducible refine Blk.alloc ?_ _) | (with_reducible refine Blk.drew ?_) | (with_reducible refine Blk.drewN ?_ _) | (with_reducible refine Blk.below ?_ (by with_reducible assumption)) | (simp; done))
  have c0 := k0.cell; have f0 := k0.froz; have c1 := k1.cell; have f1 := k1.froz; have c2 := k2.cell; have f2 := k2.froz
  have q0 := k0.lt; have q1 := k1.lt; have q2 := k2.lt
  go_wp2_with fail
  all_goals refine bodyPost_ret (v := .tuple #[zeroD.v, .int .i64 2]) (by simp [results, Try.results12, go_sem, c0, c1, c2, f0, f1, f2, q0, q1, q2, zeroD]; done) rfl ⟨rfl, ?_⟩
  all_goals (repeat' (first | (with_reducible exact Below.refl _ _) | (with_reducible assumption) | (with_reducible refine below_call ?_ (by with_reducible assumption)) | (with_reducible refine below_draws ?_ _) | (with_reducible refine Below.drew ?_) | (with_reducible refine Below.alloc ?_ ?_ _) | (with_reducible refine Below.setCell ?_ ?_ _) | omega | (simp; done) | (simp; omega)))
set_option maxHeartbeats 400000 in
theorem rbad0_op2b (b0 b1 b : ByteArray) (s0 s1 c l n : Int) (d : Bool) (w : World) (h0 : b0.size ≤ maxLen) (h1 : b1.size ≤ maxLen) (hbs : b.size ≤ 4096) (h : Dk.ok ⟨⟨b0, s0⟩, ⟨b1, s1⟩, c, l, d⟩ = true) (hb : b.size = 0) (hn : n < 0) :
    Calls Try.prog 12 #[.agg #[.string b0, .int .i64 s0, .string b1, .int .i64 s1, .int .i64 c, .int .i64 l, .bool d], .agg #[.int .i8 2, .int .i64 0, .string b, .int .i64 n]] w (RetD (zeroD, 2) w) := by
  obtain ⟨o1, o2, o3, o4, o5, o6, o7, o8⟩ := (ok_iff _ _ _ _ _ _ _).1 h
  have hh := Lib.hid h; clear h
  have hb1 : b.toList.isEmpty = true := by rw [emp_iff]; exact hb
  have hb2 : b.toList = [] := by rw [nil_iff]; exact hb
  have Hb := Lib.hid hb; clear hb
  have hn2 : decide (n < 0) = true := by simpa using hn
  go_enter Try.func12, Try.ntmps12
  go_wp2_with fail
  refine (rcheck_yes _ _ _ _ _ _ _ _ h0 h1 hh.out).mono ?_
  rintro e w' ⟨rfl, hb⟩
  have k0 : Blk w' w.heap.size #[.string b0, .int .i64 s0, .string b1, .int .i64 s1, .int .i64 c, .int .i64 l, .bool d] 26 := by repeat' (first | (with_reducible assumption) | (with_reducible exact Blk.new _ _ _) | (with_reducible refine Blk.new' _ _ _ ?_) | (with_reducible refine Blk.alloc ?_ _) | (with_reducible refine Blk.drew ?_) | (with_reducible refine Blk.drewN ?_ _) | (with_reducible refine Blk.below ?_ (by with_reducible assumption)) | (simp; done))
  have k1 : Blk w' (w.heap.size + 1) #[.int .i8 2, .int .i64 0, .string b, .int .i64 n] 29 := by repeat' (first | (with_reducible assumption) | (with_reducible exact Blk.new _ _ _) | (with_reducible refine Blk.new' _ _ _ ?_) | (with_reducible refine Blk.alloc ?_ _) | (with_reducible refine Blk.drew ?_) | (with_reducible refine Blk.drewN ?_ _) | (with_reducible refine Blk.below ?_ (by with_reducible assumption)) | (simp; done))
  have k2 : Blk w' (w.heap.size + 1 + 1) #[.string ⟨#[]⟩, .int .i64 0, .string ⟨#[]⟩, .int .i64 0, .int .i64 0, .int .i64 0, .bool false] 26 := by repeat' (first | (with_reducible assumption) | (with_reducible exact Blk.new _ _ _) | (with_reducible refine Blk.new' _ _ _ ?_) | (with_reducible refine Blk.alloc ?_ _) | (with_reducible refine Blk.drew ?_) | (with_reducible refine Blk.drewN ?_ _) | (with_reducible refine Blk.below ?_ (by with_reducible assumption)) | (simp; done))
  have c0 := k0.cell; have f0 := k0.froz; have c1 := k1.cell; have f1 := k1.froz; have c2 := k2.cell; have f2 := k2.froz
  have q0 := k0.lt; have q1 := k1.lt; have q2 := k2.lt
  go_wp2_with fail
  all_goals refine bodyPost_ret (v := .tuple #[zeroD.v, .int .i64 2]) (by simp [results, Try.results12, go_sem, c0, c1, c2, f0, f1, f2, q0, q1, q2, zeroD]; done) rfl ⟨rfl, ?_⟩
  all_goals (repeat' (first | (with_reducible exact Below.refl _ _) | (with_reducible assumption) | (with_reducible refine below_call ?_ (by with_reducible assumption)) | (with_reducible refine below_draws ?_ _) | (with_reducible refine Below.drew ?_) | (with_reducible refine Below.alloc ?_ ?_ _) | (with_reducible refine Below.setCell ?_ ?_ _) | omega | (simp; done) | (simp; omega)))
set_option maxHeartbeats 400000 in
theorem rbad0_op2c (b0 b1 b : ByteArray) (s0 s1 c l n : Int) (d : Bool) (w : World) (h0 : b0.size ≤ maxLen) (h1 : b1.size ≤ maxLen) (hbs : b.size ≤ 4096) (h : Dk.ok ⟨⟨b0, s0⟩, ⟨b1, s1⟩, c, l, d⟩ = true) (hb : b.size = 0) (hn : 0 ≤ n) (hl : b0.size < n) :
    Calls Try.prog 12 #[.agg #[.string b0, .int .i64 s0, .string b1, .int .i64 s1, .int .i64 c, .int .i64 l, .bool d], .agg #[.int .i8 2, .int .i64 0, .string b, .int .i64 n]] w (RetD (zeroD, 2) w) := by
  obtain ⟨o1, o2, o3, o4, o5, o6, o7, o8⟩ := (ok_iff _ _ _ _ _ _ _).1 h
  have hh := Lib.hid h; clear h
  have hb1 : b.toList.isEmpty = true := by rw [emp_iff]; exact hb
  have hb2 : b.toList = [] := by rw [nil_iff]; exact hb
  have Hb := Lib.hid hb; clear hb
  have hn2 : decide (n < 0) = false := by simpa using hn
  go_enter Try.func12, Try.ntmps12
  go_wp2_with fail
  refine (rcheck_yes _ _ _ _ _ _ _ _ h0 h1 hh.out).mono ?_
  rintro e w' ⟨rfl, hb⟩
  have k0 : Blk w' w.heap.size #[.string b0, .int .i64 s0, .string b1, .int .i64 s1, .int .i64 c, .int .i64 l, .bool d] 26 := by repeat' (first | (with_reducible assumption) | (with_reducible exact Blk.new _ _ _) | (with_reducible refine Blk.new' _ _ _ ?_) | (with_reducible refine Blk.alloc ?_ _) | (with_reducible refine Blk.drew ?_) | (with_reducible refine Blk.drewN ?_ _) | (with_reducible refine Blk.below ?_ (by with_reducible assumption)) | (simp; done))
  have k1 : Blk w' (w.heap.size + 1) #[.int .i8 2, .int .i64 0, .string b, .int .i64 n] 29 := by repeat' (first | (with_reducible assumption) | (with_reducible exact Blk.new _ _ _) | (with_reducible refine Blk.new' _ _ _ ?_) | (with_reducible refine Blk.alloc ?_ _) | (with_reducible refine Blk.drew ?_) | (with_reducible refine Blk.drewN ?_ _) | (with_reducible refine Blk.below ?_ (by with_reducible assumption)) | (simp; done))
  have k2 : Blk w' (w.heap.size + 1 + 1) #[.string ⟨#[]⟩, .int .i64 0, .string ⟨#[]⟩, .int .i64 0, .int .i64 0, .int .i64 0, .bool false] 26 := by repeat' (first | (with_reducible assumption) | (with_reducible exact Blk.new _ _ _) | (with_reducible refine Blk.new' _ _ _ ?_) | (with_reducible refine Blk.alloc ?_ _) | (with_reducible refine Blk.drew ?_) | (with_reducible refine Blk.drewN ?_ _) | (with_reducible refine Blk.below ?_ (by with_reducible assumption)) | (simp; done))
  have c0 := k0.cell; have f0 := k0.froz; have c1 := k1.cell; have f1 := k1.froz; have c2 := k2.cell; have f2 := k2.froz
  have q0 := k0.lt; have q1 := k1.lt; have q2 := k2.lt
  go_wp2_with fail
  all_goals refine bodyPost_ret (v := .tuple #[zeroD.v, .int .i64 2]) (by simp [results, Try.results12, go_sem, c0, c1, c2, f0, f1, f2, q0, q1, q2, zeroD]; done) rfl ⟨rfl, ?_⟩
  all_goals (repeat' (first | (with_reducible exact Below.refl _ _) | (with_reducible assumption) | (with_reducible refine below_call ?_ (by with_reducible assumption)) | (with_reducible refine below_draws ?_ _) | (with_reducible refine Below.drew ?_) | (with_reducible refine Below.alloc ?_ ?_ _) | (with_reducible refine Below.setCell ?_ ?_ _) | omega | (simp; done) | (simp; omega)))
set_option maxHeartbeats 400000 in
theorem rbad0_opx (b0 b1 b : ByteArray) (s0 s1 c l op n : Int) (d : Bool) (w : World) (h0 : b0.size ≤ maxLen) (h1 : b1.size ≤ maxLen) (hbs : b.size ≤ 4096) (h : Dk.ok ⟨⟨b0, s0⟩, ⟨b1, s1⟩, c, l, d⟩ = true) (hp0 : op ≠ 0) (hp1 : op ≠ 1) (hp2 : op ≠ 2) :
    Calls Try.prog 12 #[.agg #[.string b0, .int .i64 s0, .string b1, .int .i64 s1, .int .i64 c, .int .i64 l, .bool d], .agg #[.int .i8 op, .int .i64 0, .string b, .int .i64 n]] w (RetD (zeroD, 2) w) := by
  obtain ⟨o1, o2, o3, o4, o5, o6, o7, o8⟩ := (ok_iff _ _ _ _ _ _ _).1 h
  have hh := Lib.hid h; clear h
  have e0 : (op == 0) = false := by simpa using hp0
  have e1 : (op == 1) = false := by simpa using hp1
  have e2 : (op == 2) = false := by simpa using hp2
  go_enter Try.func12, Try.ntmps12
  go_wp2_with fail
  refine (rcheck_yes _ _ _ _ _ _ _ _ h0 h1 hh.out).mono ?_
  rintro e w' ⟨rfl, hb⟩
  have k0 : Blk w' w.heap.size #[.string b0, .int .i64 s0, .string b1, .int .i64 s1, .int .i64 c, .int .i64 l, .bool d] 26 := by repeat' (first | (with_reducible assumption) | (with_reducible exact Blk.new _ _ _) | (with_reducible refine Blk.new' _ _ _ ?_) | (with_reducible refine Blk.alloc ?_ _) | (with_reducible refine Blk.drew ?_) | (with_reducible refine Blk.drewN ?_ _) | (with_reducible refine Blk.below ?_ (by with_reducible assumption)) | (simp; done))
  have k1 : Blk w' (w.heap.size + 1) #[.int .i8 op, .int .i64 0, .string b, .int .i64 n] 29 := by repeat' (first | (with_reducible assumption) | (with_reducible exact Blk.new _ _ _) | (with_reducible refine Blk.new' _ _ _ ?_) | (with_reducible refine Blk.alloc ?_ _) | (with_reducible refine Blk.drew ?_) | (with_reducible refine Blk.drewN ?_ _) | (with_reducible refine Blk.below ?_ (by with_reducible assumption)) | (simp; done))
  have k2 : Blk w' (w.heap.size + 1 + 1) #[.string ⟨#[]⟩, .int .i64 0, .string ⟨#[]⟩, .int .i64 0, .int .i64 0, .int .i64 0, .bool false] 26 := by repeat' (first | (with_reducible assumption) | (with_reducible exact Blk.new _ _ _) | (with_reducible refine Blk.new' _ _ _ ?_) | (with_reducible refine Blk.alloc ?_ _) | (with_reducible refine Blk.drew ?_) | (with_reducible refine Blk.drewN ?_ _) | (with_reducible refine Blk.below ?_ (by with_reducible assumption)) | (simp; done))
  have c0 := k0.cell; have f0 := k0.froz; have c1 := k1.cell; have f1 := k1.froz; have c2 := k2.cell; have f2 := k2.froz
  have q0 := k0.lt; have q1 := k1.lt; have q2 := k2.lt
  go_wp2_with fail
  all_goals refine bodyPost_ret (v := .tuple #[zeroD.v, .int .i64 2]) (by simp [results, Try.results12, go_sem, c0, c1, c2, f0, f1, f2, q0, q1, q2, zeroD]; done) rfl ⟨rfl, ?_⟩
  all_goals (repeat' (first | (with_reducible exact Below.refl _ _) | (with_reducible assumption) | (with_reducible refine below_call ?_ (by with_reducible assumption)) | (with_reducible refine below_draws ?_ _) | (with_reducible refine Below.drew ?_) | (with_reducible refine Below.alloc ?_ ?_ _) | (with_reducible refine Below.setCell ?_ ?_ _) | omega | (simp; done) | (simp; omega)))
set_option maxHeartbeats 400000 in
theorem rbad1_op0a (b0 b1 b : ByteArray) (s0 s1 c l n : Int) (d : Bool) (w : World) (h0 : b0.size ≤ maxLen) (h1 : b1.size ≤ maxLen) (hbs : b.size ≤ 4096) (h : Dk.ok ⟨⟨b0, s0⟩, ⟨b1, s1⟩, c, l, d⟩ = true) (hb : b.size = 0) :
    Calls Try.prog 12 #[.agg #[.string b0, .int .i64 s0, .string b1, .int .i64 s1, .int .i64 c, .int .i64 l, .bool d], .agg #[.int .i8 0, .int .i64 1, .string b, .int .i64 n]] w (RetD (zeroD, 2) w) := by
  obtain ⟨o1, o2, o3, o4, o5, o6, o7, o8⟩ := (ok_iff _ _ _ _ _ _ _).1 h
  have hh := Lib.hid h; clear h
  have hb1 : ((b.size : Int) == 0) = true := by rw [beq_iff_eq]; omega
  have Hb := Lib.hid hb; clear hb
  go_enter Try.func12, Try.ntmps12
  go_wp2_with fail
  refine (rcheck_yes _ _ _ _ _ _ _ _ h0 h1 hh.out).mono ?_
  rintro e w' ⟨rfl, hb⟩
  have k0 : Blk w' w.heap.size #[.string b0, .int .i64 s0, .string b1, .int .i64 s1, .int .i64 c, .int .i64 l, .bool d] 26 := by repeat' (first | (with_reducible assumption) | (with_reducible exact Blk.new _ _ _) | (with_reducible refine Blk.new' _ _ _ ?_) | (with_reducible refine Blk.alloc ?_ _) | (with_reducible refine Blk.drew ?_) | (with_reducible refine Blk.drewN ?_ _) | (with_reducible refine Blk.below ?_ (by with_reducible assumption)) | (simp; done))
  have k1 : Blk w' (w.heap.size + 1) #[.int .i8 0, .int .i64 1, .string b, .int .i64 n] 29 := by repeat' (first | (with_reducible assumption) | (with_reducible exact Blk.new _ _ _) | (with_reducible refine Blk.new' _ _ _ ?_) | (with_reducible refine Blk.alloc ?_ _) | (with_reducible refine Blk.drew ?_) | (with_reducible refine Blk.drewN ?_ _) | (with_reducible refine Blk.below ?_ (by with_reducible assumption)) | (simp; done))
  have k2 : Blk w' (w.heap.size + 1 + 1) #[.string ⟨#[]⟩, .int .i64 0, .string ⟨#[]⟩, .int .i64 0, .int .i64 0, .int .i64 0, .bool false] 26 := by repeat' (first | (with_reducible assumption) | (with_reducible exact Blk.new _ _ _) | (with_reducible refine Blk.new' _ _ _ ?_) | (with_reducible refine Blk.alloc ?_ _) | (with_reducible refine Blk.drew ?_) | (with_reducible refine Blk.drewN ?_ _) | (with_reducible refine Blk.below ?_ (by with_reducible assumption)) | (simp; done))
  have c0 := k0.cell; have f0 := k0.froz; have c1 := k1.cell; have f1 := k1.froz; have c2 := k2.cell; have f2 := k2.froz
  have q0 := k0.lt; have q1 := k1.lt; have q2 := k2.lt
  go_wp2_with fail
  all_goals refine bodyPost_ret (v := .tuple #[zeroD.v, .int .i64 2]) (by simp [results, Try.results12, go_sem, c0, c1, c2, f0, f1, f2, q0, q1, q2, zeroD]; done) rfl ⟨rfl, ?_⟩
  all_goals (repeat' (first | (with_reducible exact Below.refl _ _) | (with_reducible assumption) | (with_reducible refine below_call ?_ (by with_reducible assumption)) | (with_reducible refine below_draws ?_ _) | (with_reducible refine Below.drew ?_) | (with_reducible refine Below.alloc ?_ ?_ _) | (with_reducible refine Below.setCell ?_ ?_ _) | omega | (simp; done) | (simp; omega)))
set_option maxHeartbeats 400000 in
theorem rbad1_op0b (b0 b1 b : ByteArray) (s0 s1 c l n : Int) (d : Bool) (w : World) (h0 : b0.size ≤ maxLen) (h1 : b1.size ≤ maxLen) (hbs : b.size ≤ 4096) (h : Dk.ok ⟨⟨b0, s0⟩, ⟨b1, s1⟩, c, l, d⟩ = true) (hb : b.size ≠ 0) (hn : n ≠ 0) :
    Calls Try.prog 12 #[.agg #[.string b0, .int .i64 s0, .string b1, .int .i64 s1, .int .i64 c, .int .i64 l, .bool d], .agg #[.int .i8 0, .int .i64 1, .string b, .int .i64 n]] w (RetD (zeroD, 2) w) := by
  obtain ⟨o1, o2, o3, o4, o5, o6, o7, o8⟩ := (ok_iff _ _ _ _ _ _ _).1 h
  have hh := Lib.hid h; clear h
  have hb1 : ((b.size : Int) == 0) = false := by rw [beq_eq_false_iff_ne]; omega
  have hn1 : (n == 0) = false := by rw [beq_eq_false_iff_ne]; exact hn
  have hn2 : (n != 0) = true := by rw [bne_iff_ne]; exact hn
  go_enter Try.func12, Try.ntmps12
  go_wp2_with fail
  refine (rcheck_yes _ _ _ _ _ _ _ _ h0 h1 hh.out).mono ?_
  rintro e w' ⟨rfl, hb⟩
  have k0 : Blk w' w.heap.size #[.string b0, .int .i64 s0, .string b1, .int .i64 s1, .int .i64 c, .int .i64 l, .bool d] 26 := by repeat' (first | (with_reducible assumption) | (with_reducible exact Blk.new _ _ _) | (with_reducible refine Blk.new' _ _ _ ?_) | (with_reducible refine Blk.alloc ?_ _) | (with_reducible refine Blk.drew ?_) | (with_reducible refine Blk.drewN ?_ _) | (with_reducible refine Blk.below ?_ (by with_reducible assumption)) | (simp; done))
  have k1 : Blk w' (w.heap.size + 1) #[.int .i8 0, .int .i64 1, .string b, .int .i64 n] 29 := by repeat' (first | (with_reducible assumption) | (with_reducible exact Blk.new _ _ _) | (with_reducible refine Blk.new' _ _ _ ?_) | (with_reducible refine Blk.alloc ?_ _) | (with_reducible refine Blk.drew ?_) | (with_reducible refine Blk.drewN ?_ _) | (with_reducible refine Blk.below ?_ (by with_reducible assumption)) | (simp; done))
  have k2 : Blk w' (w.heap.size + 1 + 1) #[.string ⟨#[]⟩, .int .i64 0, .string ⟨#[]⟩, .int .i64 0, .int .i64 0, .int .i64 0, .bool false] 26 := by repeat' (first | (with_reducible assumption) | (with_reducible exact Blk.new _ _ _) | (with_reducible refine Blk.new' _ _ _ ?_) | (with_reducible refine Blk.alloc ?_ _) | (with_reducible refine Blk.drew ?_) | (with_reducible refine Blk.drewN ?_ _) | (with_reducible refine Blk.below ?_ (by with_reducible assumption)) | (simp; done))
  have c0 := k0.cell; have f0 := k0.froz; have c1 := k1.cell; have f1 := k1.froz; have c2 := k2.cell; have f2 := k2.froz
  have q0 := k0.lt; have q1 := k1.lt; have q2 := k2.lt
  go_wp2_with fail
  all_goals refine bodyPost_ret (v := .tuple #[zeroD.v, .int .i64 2]) (by simp [results, Try.results12, go_sem, c0, c1, c2, f0, f1, f2, q0, q1, q2, zeroD]; done) rfl ⟨rfl, ?_⟩
  all_goals (repeat' (first | (with_reducible exact Below.refl _ _) | (with_reducible assumption) | (with_reducible refine below_call ?_ (by with_reducible assumption)) | (with_reducible refine below_draws ?_ _) | (with_reducible refine Below.drew ?_) | (with_reducible refine Below.alloc ?_ ?_ _) | (with_reducible refine Below.setCell ?_ ?_ _) | omega | (simp; done) | (simp; omega)))
set_option maxHeartbeats 400000 in
theorem rbad1_op1a (b0 b1 b : ByteArray) (s0 s1 c l n : Int) (d : Bool) (w : World) (h0 : b0.size ≤ maxLen) (h1 : b1.size ≤ maxLen) (hbs : b.size ≤ 4096) (h : Dk.ok ⟨⟨b0, s0⟩, ⟨b1, s1⟩, c, l, d⟩ = true) (hb : b.size ≠ 0) :
    Calls Try.prog 12 #[.agg #[.string b0, .int .i64 s0, .string b1, .int .i64 s1, .int .i64 c, .int .i64 l, .bool d], .agg #[.int .i8 1, .int .i64 1, .string b, .int .i64 n]] w (RetD (zeroD, 2) w) := by
  obtain ⟨o1, o2, o3, o4, o5, o6, o7, o8⟩ := (ok_iff _ _ _ _ _ _ _).1 h
  have hh := Lib.hid h; clear h
  have hb1 : b.toList.isEmpty = false := by rw [nemp_iff]; exact hb
  go_enter Try.func12, Try.ntmps12
  go_wp2_with fail
  refine (rcheck_yes _ _ _ _ _ _ _ _ h0 h1 hh.out).mono ?_
  rintro e w' ⟨rfl, hb⟩
  have k0 : Blk w' w.heap.size #[.string b0, .int .i64 s0, .string b1, .int .i64 s1, .int .i64 c, .int .i64 l, .bool d] 26 := by repeat' (first | (with_reducible assumption) | (with_reducible exact Blk.new _ _ _) | (with_reducible refine Blk.new' _ _ _ ?_) | (with_reducible refine Blk.alloc ?_ _) | (with_reducible refine Blk.drew ?_) | (with_reducible refine Blk.drewN ?_ _) | (with_reducible refine Blk.below ?_ (by with_reducible assumption)) | (simp; done))
  have k1 : Blk w' (w.heap.size + 1) #[.int .i8 1, .int .i64 1, .string b, .int .i64 n] 29 := by repeat' (first | (with_reducible assumption) | (with_reducible exact Blk.new _ _ _) | (with_reducible refine Blk.new' _ _ _ ?_) | (with_reducible refine Blk.alloc ?_ _) | (with_reducible refine Blk.drew ?_) | (with_reducible refine Blk.drewN ?_ _) | (with_reducible refine Blk.below ?_ (by with_reducible assumption)) | (simp; done))
  have k2 : Blk w' (w.heap.size + 1 + 1) #[.string ⟨#[]⟩, .int .i64 0, .string ⟨#[]⟩, .int .i64 0, .int .i64 0, .int .i64 0, .bool false] 26 := by repeat' (first | (with_reducible assumption) | (with_reducible exact Blk.new _ _ _) | (with_reducible refine Blk.new' _ _ _ ?_) | (with_reducible refine Blk.alloc ?_ _) | (with_reducible refine Blk.drew ?_) | (with_reducible refine Blk.drewN ?_ _) | (with_reducible refine Blk.below ?_ (by with_reducible assumption)) | (simp; done))
  have c0 := k0.cell; have f0 := k0.froz; have c1 := k1.cell; have f1 := k1.froz; have c2 := k2.cell; have f2 := k2.froz
  have q0 := k0.lt; have q1 := k1.lt; have q2 := k2.lt
  go_wp2_with fail
  all_goals refine bodyPost_ret (v := .tuple #[zeroD.v, .int .i64 2]) (by simp [results, Try.results12, go_sem, c0, c1, c2, f0, f1, f2, q0, q1, q2, zeroD]; done) rfl ⟨rfl, ?_⟩
  all_goals (repeat' (first | (with_reducible exact Below.refl _ _) | (with_reducible assumption) | (with_reducible refine below_call ?_ (by with_reducible assumption)) | (with_reducible refine below_draws ?_ _) | (with_reducible refine Below.drew ?_) | (with_reducible refine Below.alloc ?_ ?_ _) | (with_reducible refine Below.setCell ?_ ?_ _) | omega | (simp; done) | (simp; omega)))
set_option maxHeartbeats 400000 in
theorem rbad1_op1b (b0 b1 b : ByteArray) (s0 s1 c l n : Int) (d : Bool) (w : World) (h0 : b0.size ≤ maxLen) (h1 : b1.size ≤ maxLen) (hbs : b.size ≤ 4096) (h : Dk.ok ⟨⟨b0, s0⟩, ⟨b1, s1⟩, c, l, d⟩ = true) (hb : b.size = 0) (hn : n ≠ 0) :
    Calls Try.prog 12 #[.agg #[.string b0, .int .i64 s0, .string b1, .int .i64 s1, .int .i64 c, .int .i64 l, .bool d], .agg #[.int .i8 1, .int .i64 1, .string b, .int .i64 n]] w (RetD (zeroD, 2) w) := by
  obtain ⟨o1, o2, o3, o4, o5, o6, o7, o8⟩ := (ok_iff _ _ _ _ _ _ _).1 h
  have hh := Lib.hid h; clear h
  have hb1 : b.toList.isEmpty = true := by rw [emp_iff]; exact hb
  have hb2 : b.toList = [] := by rw [nil_iff]; exact hb
  have Hb := Lib.hid hb; clear hb
  have hn1 : (n == 0) = false := by rw [beq_eq_false_iff_ne]; exact hn
  have hn2 : (n != 0) = true := by rw [bne_iff_ne]; exact hn
  go_enter Try.func12, Try.ntmps12
  go_wp2_with fail
  refine (rcheck_yes _ _ _ _ _ _ _ _ h0 h1 hh.out).mono ?_
  rintro e w' ⟨rfl, hb⟩
  have k0 : Blk w' w.heap.size #[.string b0, .int .i64 s0, .string b1, .int .i64 s1, .int .i64 c, .int .i64 l, .bool d] 26 := by repeat' (first | (with_reducible assumption) | (with_reducible exact Blk.new _ _ _) | (with_reducible refine Blk.new' _ _ _ ?_) | (with_reducible refine Blk.alloc ?_ _) | (with_reducible refine Blk.drew ?_) | (with_reducible refine Blk.drewN ?_ _) | (with_reducible refine Blk.below ?_ (by with_reducible assumption)) | (simp; done))
  have k1 : Blk w' (w.heap.size + 1) #[.int .i8 1, .int .i64 1, .string b, .int .i64 n] 29 := by repeat' (first | (with_reducible assumption) | (with_reducible exact Blk.new _ _ _) | (with_reducible refine Blk.new' _ _ _ ?_) | (with_reducible refine Blk.alloc ?_ _) | (with_reducible refine Blk.drew ?_) | (with_reducible refine Blk.drewN ?_ _) | (with_reducible refine Blk.below ?_ (by with_reducible assumption)) | (simp; done))
  have k2 : Blk w' (w.heap.size + 1 + 1) #[.string ⟨#[]⟩, .int .i64 0, .string ⟨#[]⟩, .int .i64 0, .int .i64 0, .int .i64 0, .bool false] 26 := by repeat' (first | (with_reducible assumption) | (with_reducible exact Blk.new _ _ _) | (with_reducible refine Blk.new' _ _ _ ?_) | (with_reducible refine Blk.alloc ?_ _) | (with_reducible refine Blk.drew ?_) | (with_reducible refine Blk.drewN ?_ _) | (with_reducible refine Blk.below ?_ (by with_reducible assumption)) | (simp; done))
  have c0 := k0.cell; have f0 := k0.froz; have c1 := k1.cell; have f1 := k1.froz; have c2 := k2.cell; have f2 := k2.froz
  have q0 := k0.lt; have q1 := k1.lt; have q2 := k2.lt
  go_wp2_with fail
  all_goals refine bodyPost_ret (v := .tuple #[zeroD.v, .int .i64 2]) (by simp [results, Try.results12, go_sem, c0, c1, c2, f0, f1, f2, q0, q1, q2, zeroD]; done) rfl ⟨rfl, ?_⟩
  all_goals (repeat' (first | (with_reducible exact Below.refl _ _) | (with_reducible assumption) | (with_reducible refine below_call ?_ (by with_reducible assumption)) | (with_reducible refine below_draws ?_ _) | (with_reducible refine Below.drew ?_) | (with_reducible refine Below.alloc ?_ ?_ _) | (with_reducible refine Below.setCell ?_ ?_ _) | omega | (simp; done) | (simp; omega)))
set_option maxHeartbeats 400000 in
theorem rbad1_op2a (b0 b1 b : ByteArray) (s0 s1 c l n : Int) (d : Bool) (w : World) (h0 : b0.size ≤ maxLen) (h1 : b1.size ≤ maxLen) (hbs : b.size ≤ 4096) (h : Dk.ok ⟨⟨b0, s0⟩, ⟨b1, s1⟩, c, l, d⟩ = true) (hb : b.size ≠ 0) :
    Calls Try.prog 12 #[.agg #[.string b0, .int .i64 s0, .string b1, .int .i64 s1, .int .i64 c, .int .i64 l, .bool d], .agg #[.int .i8 2, .int .i64 1, .string b, .int .i64 n]] w (RetD (zeroD, 2) w) := by
  obtain ⟨o1, o2, o3, o4, o5, o6, o7, o8⟩ := (ok_iff _ _ _ _ _ _ _).1 h
  have hh := Lib.hid h; clear h
  have hb1 : b.toList.isEmpty = false := by rw [nemp_iff]; exact hb
  go_enter Try.func12, Try.ntmps12
  go_wp2_with fail
  refine (rcheck_yes _ _ _ _ _ _ _ _ h0 h1 hh.out).mono ?_
  rintro e w' ⟨rfl, hb⟩
  have k0 : Blk w' w.heap.size #[.string b0, .int .i64 s0, .string b1, .int .i64 s1, .int .i64 c, .int .i64 l, .bool d] 26 := by repeat' (first | (with_reducible assumption) | (with_reducible exact Blk.new _ _ _) | (with_reducible refine Blk.new' _ _ _ ?_) | (with_reducible refine Blk.alloc ?_ _) | (with_reducible refine Blk.drew ?_) | (with_reducible refine Blk.drewN ?_ _) | (with_reducible refine Blk.below ?_ (by with_reducible assumption)) | (simp; done))
  have k1 : Blk w' (w.heap.size + 1) #[.int .i8 2, .int .i64 1, .string b, .int .i64 n] 29 := by repeat' (first | (with_reducible assumption) | (with_reducible exact Blk.new _ _ _) | (with_reducible refine Blk.new' _ _ _ ?_) | (with_reducible refine Blk.alloc ?_ _) | (with_reducible refine Blk.drew ?_) | (with_reducible refine Blk.drewN ?_ _) | (with_reducible refine Blk.below ?_ (by with_reducible assumption)) | (simp; done))
  have k2 : Blk w' (w.heap.size + 1 + 1) #[.string ⟨#[]⟩, .int .i64 0, .string ⟨#[]⟩, .int .i64 0, .int .i64 0, .int .i64 0, .bool false] 26 := by repeat' (first | (with_reducible assumption) | (with_reducible exact Blk.new _ _ _) | (with_reducible refine Blk.new' _ _ _ ?_) | (with_reducible refine Blk.alloc ?_ _) | (with_reducible refine Blk.drew ?_) | (with_reducible refine Blk.drewN ?_ _) | (with_reducible refine Blk.below ?_ (by with_reducible assumption)) | (simp; done))
  have c0 := k0.cell; have f0 := k0.froz; have c1 := k1.cell; have f1 := k1.froz; have c2 := k2.cell; have f2 := k2.froz
  have q0 := k0.lt; have q1 := k1.lt; have q2 := k2.lt
  go_wp2_with fail
  all_goals refine bodyPost_ret (v := .tuple #[zeroD.v, .int .i64 2]) (by simp [results, Try.results12, go_sem, c0, c1, c2, f0, f1, f2, q0, q1, q2, zeroD]; done) rfl ⟨rfl, ?_⟩
  all_goals (repeat' (first | (with_reducible exact Below.refl _ _) | (with_reducible assumption) | (with_reducible refine below_call ?_ (by with_reducible assumption)) | (with_reducible refine below_draws ?_ _) | (with_reducible refine Below.drew ?_) | (with_reducible refine Below.alloc ?_ ?_ _) | (with_reducible refine Below.setCell ?_ ?_ _) | omega | (simp; done) | (simp; omega)))
set_option maxHeartbeats 400000 in
theorem rbad1_op2b (b0 b1 b : ByteArray) (s0 s1 c l n : Int) (d : Bool) (w : World) (h0 : b0.size ≤ maxLen) (h1 : b1.size ≤ maxLen) (hbs : b.size ≤ 4096) (h : Dk.ok ⟨⟨b0, s0⟩, ⟨b1, s1⟩, c, l, d⟩ = true) (hb : b.size = 0) (hn : n < 0) :
    Calls Try.prog 12 #[.agg #[.string b0, .int .i64 s0, .string b1, .int .i64 s1, .int .i64 c, .int .i64 l, .bool d], .agg #[.int .i8 2, .int .i64 1, .string b, .int .i64 n]] w (RetD (zeroD, 2) w) := by
  obtain ⟨o1, o2, o3, o4, o5, o6, o7, o8⟩ := (ok_iff _ _ _ _ _ _ _).1 h
  have hh := Lib.hid h; clear h
  have hb1 : b.toList.isEmpty = true := by rw [emp_iff]; exact hb
  have hb2 : b.toList = [] := by rw [nil_iff]; exact hb
  have Hb := Lib.hid hb; clear hb
  have hn2 : decide (n < 0) = true := by simpa using hn
  go_enter Try.func12, Try.ntmps12
  go_wp2_with fail
  refine (rcheck_yes _ _ _ _ _ _ _ _ h0 h1 hh.out).mono ?_
  rintro e w' ⟨rfl, hb⟩
  have k0 : Blk w' w.heap.size #[.string b0, .int .i64 s0, .string b1, .int .i64 s1, .int .i64 c, .int .i64 l, .bool d] 26 := by repeat' (first | (with_reducible assumption) | (with_reducible exact Blk.new _ _ _) | (with_reducible refine Blk.new' _ _ _ ?_) | (with_reducible refine Blk.alloc ?_ _) | (with_reducible refine Blk.drew ?_) | (with_reducible refine Blk.drewN ?_ _) | (with_reducible refine Blk.below ?_ (by with_reducible assumption)) | (simp; done))
  have k1 : Blk w' (w.heap.size + 1) #[.int .i8 2, .int .i64 1, .string b, .int .i64 n] 29 := by repeat' (first | (with_reducible assumption) | (with_reducible exact Blk.new _ _ _) | (with_reducible refine Blk.new' _ _ _ ?_) | (with_reducible refine Blk.alloc ?_ _) | (with_reducible refine Blk.drew ?_) | (with_reducible refine Blk.drewN ?_ _) | (with_reducible refine Blk.below ?_ (by with_reducible assumption)) | (simp; done))
  have k2 : Blk w' (w.heap.size + 1 + 1) #[.string ⟨#[]⟩, .int .i64 0, .string ⟨#[]⟩, .int .i64 0, .int .i64 0, .int .i64 0, .bool false] 26 := by repeat' (first | (with_reducible assumption) | (with_reducible exact Blk.new _ _ _) | (with_reducible refine Blk.new' _ _ _ ?_) | (with_reducible refine Blk.alloc ?_ _) | (with_reducible refine Blk.drew ?_) | (with_reducible refine Blk.drewN ?_ _) | (with_reducible refine Blk.below ?_ (by with_reducible assumption)) | (simp; done))
  have c0 := k0.cell; have f0 := k0.froz; have c1 := k1.cell; have f1 := k1.froz; have c2 := k2.cell; have f2 := k2.froz
  have q0 := k0.lt; have q1 := k1.lt; have q2 := k2.lt
  go_wp2_with fail
  all_goals refine bodyPost_ret (v := .tuple #[zeroD.v, .int .i64 2]) (by simp [results, Try.results12, go_sem, c0, c1, c2, f0, f1, f2, q0, q1, q2, zeroD]; done) rfl ⟨rfl, ?_⟩
  all_goals (repeat' (first | (with_reducible exact Below.refl _ _) | (with_reducible assumption) | (with_reducible refine below_call ?_ (by with_reducible assumption)) | (with_reducible refine below_draws ?_ _) | (with_reducible refine Below.drew ?_) | (with_reducible refine Below.alloc ?_ ?_ _) | (with_reducible refine Below.setCell ?_ ?_ _) | omega | (simp; done) | (simp; omega)))
set_option maxHeartbeats 400000 in
theorem rbad1_op2c (b0 b1 b : ByteArray) (s0 s1 c l n : Int) (d : Bool) (w : World) (h0 : b0.size ≤ maxLen) (h1 : b1.size ≤ maxLen) (hbs : b.size ≤ 4096) (h : Dk.ok ⟨⟨b0, s0⟩, ⟨b1, s1⟩, c, l, d⟩ = true) (hb : b.size = 0) (hn : 0 ≤ n) (hl : b1.size < n) :
    Calls Try.prog 12 #[.agg #[.string b0, .int .i64 s0, .string b1, .int .i64 s1, .int .i64 c, .int .i64 l, .bool d], .agg #[.int .i8 2, .int .i64 1, .string b, .int .i64 n]] w (RetD (zeroD, 2) w) := by
  obtain ⟨o1, o2, o3, o4, o5, o6, o7, o8⟩ := (ok_iff _ _ _ _ _ _ _).1 h
  have hh := Lib.hid h; clear h
  have hb1 : b.toList.isEmpty = true := by rw [emp_iff]; exact hb
  have hb2 : b.toList = [] := by rw [nil_iff]; exact hb
  have Hb := Lib.hid hb; clear hb
  have hn2 : decide (n < 0) = false := by simpa using hn
  go_enter Try.func12, Try.ntmps12
  go_wp2_with fail
  refine (rcheck_yes _ _ _ _ _ _ _ _ h0 h1 hh.out).mono ?_
  rintro e w' ⟨rfl, hb⟩
  have k0 : Blk w' w.heap.size #[.string b0, .int .i64 s0, .string b1, .int .i64 s1, .int .i64 c, .int .i64 l, .bool d] 26 := by repeat' (first | (with_reducible assumption) | (with_reducible exact Blk.new _ _ _) | (with_reducible refine Blk.new' _ _ _ ?_) | (with_reducible refine Blk.alloc ?_ _) | (with_reducible refine Blk.drew ?_) | (with_reducible refine Blk.drewN ?_ _) | (with_reducible refine Blk.below ?_ (by with_reducible assumption)) | (simp; done))
  have k1 : Blk w' (w.heap.size + 1) #[.int .i8 2, .int .i64 1, .string b, .int .i64 n] 29 := by repeat' (first | (with_reducible assumption) | (with_reducible exact Blk.new _ _ _) | (with_reducible refine Blk.new' _ _ _ ?_) | (with_reducible refine Blk.alloc ?_ _) | (with_reducible refine Blk.drew ?_) | (with_reducible refine Blk.drewN ?_ _) | (with_reducible refine Blk.below ?_ (by with_reducible assumption)) | (simp; done))
  have k2 : Blk w' (w.heap.size + 1 + 1) #[.string ⟨#[]⟩, .int .i64 0, .string ⟨#[]⟩, .int .i64 0, .int .i64 0, .int .i64 0, .bool false] 26 := by repeat' (first | (with_reducible assumption) | (with_reducible exact Blk.new _ _ _) | (with_reducible refine Blk.new' _ _ _ ?_) | (with_reducible refine Blk.alloc ?_ _) | (with_reducible refine Blk.drew ?_) | (with_reducible refine Blk.drewN ?_ _) | (with_reducible refine Blk.below ?_ (by with_reducible assumption)) | (simp; done))
  have c0 := k0.cell; have f0 := k0.froz; have c1 := k1.cell; have f1 := k1.froz; have c2 := k2.cell; have f2 := k2.froz
  have q0 := k0.lt; have q1 := k1.lt; have q2 := k2.lt
  go_wp2_with fail
  all_goals refine bodyPost_ret (v := .tuple #[zeroD.v, .int .i64 2]) (by simp [results, Try.results12, go_sem, c0, c1, c2, f0, f1, f2, q0, q1, q2, zeroD]; done) rfl ⟨rfl, ?_⟩
  all_goals (repeat' (first | (with_reducible exact Below.refl _ _) | (with_reducible assumption) | (with_reducible refine below_call ?_ (by with_reducible assumption)) | (with_reducible refine below_draws ?_ _) | (with_reducible refine Below.drew ?_) | (with_reducible refine Below.alloc ?_ ?_ _) | (with_reducible refine Below.setCell ?_ ?_ _) | omega | (simp; done) | (simp; omega)))
set_option maxHeartbeats 400000 in
theorem rbad1_opx (b0 b1 b : ByteArray) (s0 s1 c l op n : Int) (d : Bool) (w : World) (h0 : b0.size ≤ maxLen) (h1 : b1.size ≤ maxLen) (hbs : b.size ≤ 4096) (h : Dk.ok ⟨⟨b0, s0⟩, ⟨b1, s1⟩, c, l, d⟩ = true) (hp0 : op ≠ 0) (hp1 : op ≠ 1) (hp2 : op ≠ 2) :
    Calls Try.prog 12 #[.agg #[.string b0, .int .i64 s0, .string b1, .int .i64 s1, .int .i64 c, .int .i64 l, .bool d], .agg #[.int .i8 op, .int .i64 1, .string b, .int .i64 n]] w (RetD (zeroD, 2) w) := by
  obtain ⟨o1, o2, o3, o4, o5, o6, o7, o8⟩ := (ok_iff _ _ _ _ _ _ _).1 h
  have hh := Lib.hid h; clear h
  have e0 : (op == 0) = false := by simpa using hp0
  have e1 : (op == 1) = false := by simpa using hp1
  have e2 : (op == 2) = false := by simpa using hp2
  go_enter Try.func12, Try.ntmps12
  go_wp2_with fail
  refine (rcheck_yes _ _ _ _ _ _ _ _ h0 h1 hh.out).mono ?_
  rintro e w' ⟨rfl, hb⟩
  have k0 : Blk w' w.heap.size #[.string b0, .int .i64 s0, .string b1, .int .i64 s1, .int .i64 c, .int .i64 l, .bool d] 26 := by repeat' (first | (with_reducible assumption) | (with_reducible exact Blk.new _ _ _) | (with_reducible refine Blk.new' _ _ _ ?_) | (with_reducible refine Blk.alloc ?_ _) | (with_reducible refine Blk.drew ?_) | (with_reducible refine Blk.drewN ?_ _) | (with_reducible refine Blk.below ?_ (by with_reducible assumption)) | (simp; done))
  have k1 : Blk w' (w.heap.size + 1) #[.int .i8 op, .int .i64 1, .string b, .int .i64 n] 29 := by repeat' (first | (with_reducible assumption) | (with_reducible exact Blk.new _ _ _) | (with_reducible refine Blk.new' _ _ _ ?_) | (with_reducible refine Blk.alloc ?_ _) | (with_reducible refine Blk.drew ?_) | (with_reducible refine Blk.drewN ?_ _) | (with_reducible refine Blk.below ?_ (by with_reducible assumption)) | (simp; done))
  have k2 : Blk w' (w.heap.size + 1 + 1) #[.string ⟨#[]⟩, .int .i64 0, .string ⟨#[]⟩, .int .i64 0, .int .i64 0, .int .i64 0, .bool false] 26 := by repeat' (first | (with_reducible assumption) | (with_reducible exact Blk.new _ _ _) | (with_reducible refine Blk.new' _ _ _ ?_) | (with_reducible refine Blk.alloc ?_ _) | (with_reducible refine Blk.drew ?_) | (with_reducible refine Blk.drewN ?_ _) | (with_reducible refine Blk.below ?_ (by with_reducible assumption)) | (simp; done))
  have c0 := k0.cell; have f0 := k0.froz; have c1 := k1.cell; have f1 := k1.froz; have c2 := k2.cell; have f2 := k2.froz
  have q0 := k0.lt; have q1 := k1.lt; have q2 := k2.lt
  go_wp2_with fail
  all_goals refine bodyPost_ret (v := .tuple #[zeroD.v, .int .i64 2]) (by simp [results, Try.results12, go_sem, c0, c1, c2, f0, f1, f2, q0, q1, q2, zeroD]; done) rfl ⟨rfl, ?_⟩
  all_goals (repeat' (first | (with_reducible exact Below.refl _ _) | (with_reducible assumption) | (with_reducible refine below_call ?_ (by with_reducible assumption)) | (with_reducible refine below_draws ?_ _) | (with_reducible refine Below.drew ?_) | (with_reducible refine Below.alloc ?_ ?_ _) | (with_reducible refine Below.setCell ?_ ?_ _) | omega | (simp; done) | (simp; omega)))
end Go.Proofs.Ytjgbnagacbiolaa
