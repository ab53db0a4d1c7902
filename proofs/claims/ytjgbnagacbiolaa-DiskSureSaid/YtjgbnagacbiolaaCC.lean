import Derived.Test.YtjgbnagacbiolaaRA
namespace Go.Proofs.Ytjgbnagacbiolaa
open Go.RowKit
set_option linter.unusedVariables false
set_option linter.unusedSimpArgs false
/-- How many bytes a crash keeps behind the sure ones. -/
def keepF (n : Int) (z : Zn) : Int := if n < 0 then 0 else if n ≤ z.b.size - z.s then n else z.b.size - z.s
def crashZ (n : Int) (z : Zn) : Zn := ⟨z.b.extract 0 (z.s + keepF n z).toNat, z.s + keepF n z⟩
def crashF (x : Dk) (a b : Int) : Dk × Int := if x.ok = false then (zeroD, 2) else (⟨crashZ a x.z0, crashZ b x.z1, x.c, -1, false⟩, 0)
set_option maxHeartbeats 400000 in
theorem crash_no (b0 b1 : ByteArray) (s0 s1 c l a b : Int) (d : Bool) (w : World) (h0 : b0.size ≤ maxLen) (h1 : b1.size ≤ maxLen) (h : Dk.ok ⟨⟨b0, s0⟩, ⟨b1, s1⟩, c, l, d⟩ = false) :
    Calls Try.prog 16 #[.agg #[.string b0, .int .i64 s0, .string b1, .int .i64 s1, .int .i64 c, .int .i64 l, .bool d], .int .i64 a, .int .i64 b] w (RetD (zeroD, 2) w) := by
  have hh := Lib.hid h; clear h
  go_enter Try.func16, Try.ntmps16
  go_wp2_with fail
  refine (check_no _ _ _ _ _ _ _ _ h0 h1 hh.out).mono ?_
  rintro e w' ⟨rfl, hb⟩
  have k0 : Blk w' w.heap.size #[.string b0, .int .i64 s0, .string b1, .int .i64 s1, .int .i64 c, .int .i64 l, .bool d] 26 := by repeat' (first | (with_reducible assumption) | (with_reducible exact Blk.new _ _ _) | (with_reducible refine Blk.new' _ _ _ ?_) | (with_reducible refine Blk.alloc ?_ _) | (with_reducible refine Blk.drew ?_) | (with_reducible refine Blk.drewN ?_ _) | (with_reducible refine Blk.below ?_ (by with_reducible assumption)) | (simp; done))
  have k2 : Blk w' (w.heap.size + 1) #[.string ⟨#[]⟩, .int .i64 0, .string ⟨#[]⟩, .int .i64 0, .int .i64 0, .int .i64 0, .bool false] 26 := by repeat' (first | (with_reducible assumption) | (with_reducible exact Blk.new _ _ _) | (with_reducible refine Blk.new' _ _ _ ?_) | (with_reducible refine Blk.alloc ?_ _) | (with_reducible refine Blk.drew ?_) | (with_reducible refine Blk.drewN ?_ _) | (with_reducible refine Blk.below ?_ (by with_reducible assumption)) | (simp; done))
  have c0 := k0.cell; have f0 := k0.froz; have c2 := k2.cell; have f2 := k2.froz
  have q0 := k0.lt; have q2 := k2.lt
  go_wp2_with fail
  refine bodyPost_ret (v := .tuple #[zeroD.v, .int .i64 2]) (by simp [results, Try.results16, go_sem, c0, c2, f0, f2, q0, q2, zeroD]; done) rfl ⟨rfl, ?_⟩
  repeat' (first | (with_reducible exact Below.refl _ _) | (with_reducible assumption) | (with_reducible refine below_call ?_ (by with_reducible assumption)) | (with_reducible refine below_draws ?_ _) | (with_reducible refine Below.drew ?_) | (with_reducible refine Below.alloc ?_ ?_ _) | (with_reducible refine Below.setCell ?_ ?_ _) | omega | (simp; done) | (simp; omega))
set_option maxHeartbeats 1600000 in
theorem crash_neg_neg (b0 b1 : ByteArray) (s0 s1 c l a b : Int) (d : Bool) (w : World) (h0 : b0.size ≤ maxLen) (h1 : b1.size ≤ maxLen) (h : Dk.ok ⟨⟨b0, s0⟩, ⟨b1, s1⟩, c, l, d⟩ = true) (h0a : a < 0) (h1a : b < 0) :
    Calls Try.prog 16 #[.agg #[.string b0, .int .i64 s0, .string b1, .int .i64 s1, .int .i64 c, .int .i64 l, .bool d], .int .i64 a, .int .i64 b] w (RetD (⟨⟨b0.extract 0 (s0 + 0).toNat, s0 + 0⟩, ⟨b1.extract 0 (s1 + 0).toNat, s1 + 0⟩, c, -1, false⟩, 0) w) := by
  obtain ⟨o1, o2, o3, o4, o5, o6, o7, o8⟩ := (ok_iff _ _ _ _ _ _ _).1 h
  have hh := Lib.hid h; clear h
  have i0 : ∀ w, (Instr.index 53 (.agg #[.int .i64 a, .int .i64 b]) (.int .i64 0)).run Try.prog w = .ok (.int .i64 a) w := fun _ => by kernel_rfl
  have i1 : ∀ w, (Instr.index 53 (.agg #[.int .i64 a, .int .i64 b]) (.int .i64 1)).run Try.prog w = .ok (.int .i64 b) w := fun _ => by kernel_rfl
  go_enter Try.func16, Try.ntmps16
  go_wp2_with fail
  refine (check_yes _ _ _ _ _ _ _ _ h0 h1 hh.out).mono ?_
  rintro e w' ⟨rfl, hb⟩
  have k0 : Blk w' w.heap.size #[.string b0, .int .i64 s0, .string b1, .int .i64 s1, .int .i64 c, .int .i64 l, .bool d] 26 := by repeat' (first | (with_reducible assumption) | (with_reducible exact Blk.new _ _ _) | (with_reducible refine Blk.new' _ _ _ ?_) | (with_reducible refine Blk.alloc ?_ _) | (with_reducible refine Blk.drew ?_) | (with_reducible refine Blk.drewN ?_ _) | (with_reducible refine Blk.below ?_ (by with_reducible assumption)) | (simp; done))
  have k2 : Blk w' (w.heap.size + 1) #[.string ⟨#[]⟩, .int .i64 0, .string ⟨#[]⟩, .int .i64 0, .int .i64 0, .int .i64 0, .bool false] 26 := by repeat' (first | (with_reducible assumption) | (with_reducible exact Blk.new _ _ _) | (with_reducible refine Blk.new' _ _ _ ?_) | (with_reducible refine Blk.alloc ?_ _) | (with_reducible refine Blk.drew ?_) | (with_reducible refine Blk.drewN ?_ _) | (with_reducible refine Blk.below ?_ (by with_reducible assumption)) | (simp; done))
  have c0 := k0.cell; have f0 := k0.froz; have c2 := k2.cell; have f2 := k2.froz
  have q0 := k0.lt; have q2 := k2.lt
  go_wp2_with fail
  refine wp_loop_rounds 3 ?_
  rw [rounds_succ]
  go_wp2_with fail
  go_region
  go_wp2_with fail
  go_region
  go_wp2_with fail
  rw [rounds_succ]
  go_wp2_with fail
  go_region
  go_wp2_with fail
  go_region
  go_wp2_with fail
  rw [rounds_succ]
  go_wp2_with fail
  refine bodyPost_ret (v := .tuple #[Dk.v ⟨⟨b0.extract 0 (s0 + 0).toNat, s0 + 0⟩, ⟨b1.extract 0 (s1 + 0).toNat, s1 + 0⟩, c, -1, false⟩, .int .i64 0]) (by simp [results, Try.results16, go_sem, c0, c2, f0, f2, q0, q2]; done) rfl ⟨rfl, ?_⟩
  repeat' (first | (with_reducible exact Below.refl _ _) | (with_reducible assumption) | (with_reducible refine below_call ?_ (by with_reducible assumption)) | (with_reducible refine below_draws ?_ _) | (with_reducible refine Below.drew ?_) | (with_reducible refine Below.alloc ?_ ?_ _) | (with_reducible refine Below.setCell ?_ ?_ _) | omega | (simp; done) | (simp; omega))
set_option maxHeartbeats 1600000 in
theorem crash_neg_mid (b0 b1 : ByteArray) (s0 s1 c l a b : Int) (d : Bool) (w : World) (h0 : b0.size ≤ maxLen) (h1 : b1.size ≤ maxLen) (h : Dk.ok ⟨⟨b0, s0⟩, ⟨b1, s1⟩, c, l, d⟩ = true) (h0a : a < 0) (h1a : 0 ≤ b) (h1b : b ≤ b1.size - s1) :
    Calls Try.prog 16 #[.agg #[.string b0, .int .i64 s0, .string b1, .int .i64 s1, .int .i64 c, .int .i64 l, .bool d], .int .i64 a, .int .i64 b] w (RetD (⟨⟨b0.extract 0 (s0 + 0).toNat, s0 + 0⟩, ⟨b1.extract 0 (s1 + b).toNat, s1 + b⟩, c, -1, false⟩, 0) w) := by
  obtain ⟨o1, o2, o3, o4, o5, o6, o7, o8⟩ := (ok_iff _ _ _ _ _ _ _).1 h
  have hh := Lib.hid h; clear h
  have i0 : ∀ w, (Instr.index 53 (.agg #[.int .i64 a, .int .i64 b]) (.int .i64 0)).run Try.prog w = .ok (.int .i64 a) w := fun _ => by kernel_rfl
  have i1 : ∀ w, (Instr.index 53 (.agg #[.int .i64 a, .int .i64 b]) (.int .i64 1)).run Try.prog w = .ok (.int .i64 b) w := fun _ => by kernel_rfl
  go_enter Try.func16, Try.ntmps16
  go_wp2_with fail
  refine (check_yes _ _ _ _ _ _ _ _ h0 h1 hh.out).mono ?_
  rintro e w' ⟨rfl, hb⟩
  have k0 : Blk w' w.heap.size #[.string b0, .int .i64 s0, .string b1, .int .i64 s1, .int .i64 c, .int .i64 l, .bool d] 26 := by repeat' (first | (with_reducible assumption) | (with_reducible exact Blk.new _ _ _) | (with_reducible refine Blk.new' _ _ _ ?_) | (with_reducible refine Blk.alloc ?_ _) | (with_reducible refine Blk.drew ?_) | (with_reducible refine Blk.drewN ?_ _) | (with_reducible refine Blk.below ?_ (by with_reducible assumption)) | (simp; done))
  have k2 : Blk w' (w.heap.size + 1) #[.string ⟨#[]⟩, .int .i64 0, .string ⟨#[]⟩, .int .i64 0, .int .i64 0, .int .i64 0, .bool false] 26 := by repeat' (first | (with_reducible assumption) | (with_reducible exact Blk.new _ _ _) | (with_reducible refine Blk.new' _ _ _ ?_) | (with_reducible refine Blk.alloc ?_ _) | (with_reducible refine Blk.drew ?_) | (with_reducible refine Blk.drewN ?_ _) | (with_reducible refine Blk.below ?_ (by with_reducible assumption)) | (simp; done))
  have c0 := k0.cell; have f0 := k0.froz; have c2 := k2.cell; have f2 := k2.froz
  have q0 := k0.lt; have q2 := k2.lt
  go_wp2_with fail
  refine wp_loop_rounds 3 ?_
  rw [rounds_succ]
  go_wp2_with fail
  go_region
  go_wp2_with fail
  go_region
  go_wp2_with fail
  rw [rounds_succ]
  go_wp2_with fail
  go_region
  go_wp2_with fail
  go_region
  go_wp2_with fail
  rw [rounds_succ]
  go_wp2_with fail
  refine bodyPost_ret (v := .tuple #[Dk.v ⟨⟨b0.extract 0 (s0 + 0).toNat, s0 + 0⟩, ⟨b1.extract 0 (s1 + b).toNat, s1 + b⟩, c, -1, false⟩, .int .i64 0]) (by simp [results, Try.results16, go_sem, c0, c2, f0, f2, q0, q2]; done) rfl ⟨rfl, ?_⟩
  repeat' (first | (with_reducible exact Below.refl _ _) | (with_reducible assumption) | (with_reducible refine below_call ?_ (by with_reducible assumption)) | (with_reducible refine below_draws ?_ _) | (with_reducible refine Below.drew ?_) | (with_reducible refine Below.alloc ?_ ?_ _) | (with_reducible refine Below.setCell ?_ ?_ _) | omega | (simp; done) | (simp; omega))
set_option maxHeartbeats 1600000 in
theorem crash_neg_big (b0 b1 : ByteArray) (s0 s1 c l a b : Int) (d : Bool) (w : World) (h0 : b0.size ≤ maxLen) (h1 : b1.size ≤ maxLen) (h : Dk.ok ⟨⟨b0, s0⟩, ⟨b1, s1⟩, c, l, d⟩ = true) (h0a : a < 0) (h1a : b1.size - s1 < b) :
    Calls Try.prog 16 #[.agg #[.string b0, .int .i64 s0, .string b1, .int .i64 s1, .int .i64 c, .int .i64 l, .bool d], .int .i64 a, .int .i64 b] w (RetD (⟨⟨b0.extract 0 (s0 + 0).toNat, s0 + 0⟩, ⟨b1.extract 0 (s1 + (b1.size - s1)).toNat, s1 + (b1.size - s1)⟩, c, -1, false⟩, 0) w) := by
  obtain ⟨o1, o2, o3, o4, o5, o6, o7, o8⟩ := (ok_iff _ _ _ _ _ _ _).1 h
  have hh := Lib.hid h; clear h
  have i0 : ∀ w, (Instr.index 53 (.agg #[.int .i64 a, .int .i64 b]) (.int .i64 0)).run Try.prog w = .ok (.int .i64 a) w := fun _ => by kernel_rfl
  have i1 : ∀ w, (Instr.index 53 (.agg #[.int .i64 a, .int .i64 b]) (.int .i64 1)).run Try.prog w = .ok (.int .i64 b) w := fun _ => by kernel_rfl
  go_enter Try.func16, Try.ntmps16
  go_wp2_with fail
  refine (check_yes _ _ _ _ _ _ _ _ h0 h1 hh.out).mono ?_
  rintro e w' ⟨rfl, hb⟩
  have k0 : Blk w' w.heap.size #[.string b0, .int .i64 s0, .string b1, .int .i64 s1, .int .i64 c, .int .i64 l, .bool d] 26 := by repeat' (first | (with_reducible assumption) | (with_reducible exact Blk.new _ _ _) | (with_reducible refine Blk.new' _ _ _ ?_) | (with_reducible refine Blk.alloc ?_ _) | (with_reducible refine Blk.drew ?_) | (with_reducible refine Blk.drewN ?_ _) | (with_reducible refine Blk.below ?_ (by with_reducible assumption)) | (simp; done))
  have k2 : Blk w' (w.heap.size + 1) #[.string ⟨#[]⟩, .int .i64 0, .string ⟨#[]⟩, .int .i64 0, .int .i64 0, .int .i64 0, .bool false] 26 := by repeat' (first | (with_reducible assumption) | (with_reducible exact Blk.new _ _ _) | (with_reducible refine Blk.new' _ _ _ ?_) | (with_reducible refine Blk.alloc ?_ _) | (with_reducible refine Blk.drew ?_) | (with_reducible refine Blk.drewN ?_ _) | (with_reducible refine Blk.below ?_ (by with_reducible assumption)) | (simp; done))
  have c0 := k0.cell; have f0 := k0.froz; have c2 := k2.cell; have f2 := k2.froz
  have q0 := k0.lt; have q2 := k2.lt
  go_wp2_with fail
  refine wp_loop_rounds 3 ?_
  rw [rounds_succ]
  go_wp2_with fail
  go_region
  go_wp2_with fail
  go_region
  go_wp2_with fail
  rw [rounds_succ]
  go_wp2_with fail
  go_region
  go_wp2_with fail
  go_region
  go_wp2_with fail
  rw [rounds_succ]
  go_wp2_with fail
  refine bodyPost_ret (v := .tuple #[Dk.v ⟨⟨b0.extract 0 (s0 + 0).toNat, s0 + 0⟩, ⟨b1.extract 0 (s1 + (b1.size - s1)).toNat, s1 + (b1.size - s1)⟩, c, -1, false⟩, .int .i64 0]) (by simp [results, Try.results16, go_sem, c0, c2, f0, f2, q0, q2]; done) rfl ⟨rfl, ?_⟩
  repeat' (first | (with_reducible exact Below.refl _ _) | (with_reducible assumption) | (with_reducible refine below_call ?_ (by with_reducible assumption)) | (with_reducible refine below_draws ?_ _) | (with_reducible refine Below.drew ?_) | (with_reducible refine Below.alloc ?_ ?_ _) | (with_reducible refine Below.setCell ?_ ?_ _) | omega | (simp; done) | (simp; omega))
set_option maxHeartbeats 1600000 in
theorem crash_mid_neg (b0 b1 : ByteArray) (s0 s1 c l a b : Int) (d : Bool) (w : World) (h0 : b0.size ≤ maxLen) (h1 : b1.size ≤ maxLen) (h : Dk.ok ⟨⟨b0, s0⟩, ⟨b1, s1⟩, c, l, d⟩ = true) (h0a : 0 ≤ a) (h0b : a ≤ b0.size - s0) (h1a : b < 0) :
    Calls Try.prog 16 #[.agg #[.string b0, .int .i64 s0, .string b1, .int .i64 s1, .int .i64 c, .int .i64 l, .bool d], .int .i64 a, .int .i64 b] w (RetD (⟨⟨b0.extract 0 (s0 + a).toNat, s0 + a⟩, ⟨b1.extract 0 (s1 + 0).toNat, s1 + 0⟩, c, -1, false⟩, 0) w) := by
  obtain ⟨o1, o2, o3, o4, o5, o6, o7, o8⟩ := (ok_iff _ _ _ _ _ _ _).1 h
  have hh := Lib.hid h; clear h
  have i0 : ∀ w, (Instr.index 53 (.agg #[.int .i64 a, .int .i64 b]) (.int .i64 0)).run Try.prog w = .ok (.int .i64 a) w := fun _ => by kernel_rfl
  have i1 : ∀ w, (Instr.index 53 (.agg #[.int .i64 a, .int .i64 b]) (.int .i64 1)).run Try.prog w = .ok (.int .i64 b) w := fun _ => by kernel_rfl
  go_enter Try.func16, Try.ntmps16
  go_wp2_with fail
  refine (check_yes _ _ _ _ _ _ _ _ h0 h1 hh.out).mono ?_
  rintro e w' ⟨rfl, hb⟩
  have k0 : Blk w' w.heap.size #[.string b0, .int .i64 s0, .string b1, .int .i64 s1, .int .i64 c, .int .i64 l, .bool d] 26 := by repeat' (first | (with_reducible assumption) | (with_reducible exact Blk.new _ _ _) | (with_reducible refine Blk.new' _ _ _ ?_) | (with_reducible refine Blk.alloc ?_ _) | (with_reducible refine Blk.drew ?_) | (with_reducible refine Blk.drewN ?_ _) | (with_reducible refine Blk.below ?_ (by with_reducible assumption)) | (simp; done))
  have k2 : Blk w' (w.heap.size + 1) #[.string ⟨#[]⟩, .int .i64 0, .string ⟨#[]⟩, .int .i64 0, .int .i64 0, .int .i64 0, .bool false] 26 := by repeat' (first | (with_reducible assumption) | (with_reducible exact Blk.new _ _ _) | (with_reducible refine Blk.new' _ _ _ ?_) | (with_reducible refine Blk.alloc ?_ _) | (with_reducible refine Blk.drew ?_) | (with_reducible refine Blk.drewN ?_ _) | (with_reducible refine Blk.below ?_ (by with_reducible assumption)) | (simp; done))
  have c0 := k0.cell; have f0 := k0.froz; have c2 := k2.cell; have f2 := k2.froz
  have q0 := k0.lt; have q2 := k2.lt
  go_wp2_with fail
  refine wp_loop_rounds 3 ?_
  rw [rounds_succ]
  go_wp2_with fail
  go_region
  go_wp2_with fail
  go_region
  go_wp2_with fail
  rw [rounds_succ]
  go_wp2_with fail
  go_region
  go_wp2_with fail
  go_region
  go_wp2_with fail
  rw [rounds_succ]
  go_wp2_with fail
  refine bodyPost_ret (v := .tuple #[Dk.v ⟨⟨b0.extract 0 (s0 + a).toNat, s0 + a⟩, ⟨b1.extract 0 (s1 + 0).toNat, s1 + 0⟩, c, -1, false⟩, .int .i64 0]) (by simp [results, Try.results16, go_sem, c0, c2, f0, f2, q0, q2]; done) rfl ⟨rfl, ?_⟩
  repeat' (first | (with_reducible exact Below.refl _ _) | (with_reducible assumption) | (with_reducible refine below_call ?_ (by with_reducible assumption)) | (with_reducible refine below_draws ?_ _) | (with_reducible refine Below.drew ?_) | (with_reducible refine Below.alloc ?_ ?_ _) | (with_reducible refine Below.setCell ?_ ?_ _) | omega | (simp; done) | (simp; omega))
set_option maxHeartbeats 1600000 in
theorem crash_mid_mid (b0 b1 : ByteArray) (s0 s1 c l a b : Int) (d : Bool) (w : World) (h0 : b0.size ≤ maxLen) (h1 : b1.size ≤ maxLen) (h : Dk.ok ⟨⟨b0, s0⟩, ⟨b1, s1⟩, c, l, d⟩ = true) (h0a : 0 ≤ a) (h0b : a ≤ b0.size - s0) (h1a : 0 ≤ b) (h1b : b ≤ b1.size - s1) :
    Calls Try.prog 16 #[.agg #[.string b0, .int .i64 s0, .string b1, .int .i64 s1, .int .i64 c, .int .i64 l, .bool d], .int .i64 a, .int .i64 b] w (RetD (⟨⟨b0.extract 0 (s0 + a).toNat, s0 + a⟩, ⟨b1.extract 0 (s1 + b).toNat, s1 + b⟩, c, -1, false⟩, 0) w) := by
  obtain ⟨o1, o2, o3, o4, o5, o6, o7, o8⟩ := (ok_iff _ _ _ _ _ _ _).1 h
  have hh := Lib.hid h; clear h
  have i0 : ∀ w, (Instr.index 53 (.agg #[.int .i64 a, .int .i64 b]) (.int .i64 0)).run Try.prog w = .ok (.int .i64 a) w := fun _ => by kernel_rfl
  have i1 : ∀ w, (Instr.index 53 (.agg #[.int .i64 a, .int .i64 b]) (.int .i64 1)).run Try.prog w = .ok (.int .i64 b) w := fun _ => by kernel_rfl
  go_enter Try.func16, Try.ntmps16
  go_wp2_with fail
  refine (check_yes _ _ _ _ _ _ _ _ h0 h1 hh.out).mono ?_
  rintro e w' ⟨rfl, hb⟩
  have k0 : Blk w' w.heap.size #[.string b0, .int .i64 s0, .string b1, .int .i64 s1, .int .i64 c, .int .i64 l, .bool d] 26 := by repeat' (first | (with_reducible assumption) | (with_reducible exact Blk.new _ _ _) | (with_reducible refine Blk.new' _ _ _ ?_) | (with_reducible refine Blk.alloc ?_ _) | (with_reducible refine Blk.drew ?_) | (with_reducible refine Blk.drewN ?_ _) | (with_reducible refine Blk.below ?_ (by with_reducible assumption)) | (simp; done))
  have k2 : Blk w' (w.heap.size + 1) #[.string ⟨#[]⟩, .int .i64 0, .string ⟨#[]⟩, .int .i64 0, .int .i64 0, .int .i64 0, .bool false] 26 := by repeat' (first | (with_reducible assumption) | (with_reducible exact Blk.new _ _ _) | (with_reducible refine Blk.new' _ _ _ ?_) | (with_reducible refine Blk.alloc ?_ _) | (with_reducible refine Blk.drew ?_) | (with_reducible refine Blk.drewN ?_ _) | (with_reducible refine Blk.below ?_ (by with_reducible assumption)) | (simp; done))
  have c0 := k0.cell; have f0 := k0.froz; have c2 := k2.cell; have f2 := k2.froz
  have q0 := k0.lt; have q2 := k2.lt
  go_wp2_with fail
  refine wp_loop_rounds 3 ?_
  rw [rounds_succ]
  go_wp2_with fail
  go_region
  go_wp2_with fail
  go_region
  go_wp2_with fail
  rw [rounds_succ]
  go_wp2_with fail
  go_region
  go_wp2_with fail
  go_region
  go_wp2_with fail
  rw [rounds_succ]
  go_wp2_with fail
  refine bodyPost_ret (v := .tuple #[Dk.v ⟨⟨b0.extract 0 (s0 + a).toNat, s0 + a⟩, ⟨b1.extract 0 (s1 + b).toNat, s1 + b⟩, c, -1, false⟩, .int .i64 0]) (by simp [results, Try.results16, go_sem, c0, c2, f0, f2, q0, q2]; done) rfl ⟨rfl, ?_⟩
  repeat' (first | (with_reducible exact Below.refl _ _) | (with_reducible assumption) | (with_reducible refine below_call ?_ (by with_reducible assumption)) | (with_reducible refine below_draws ?_ _) | (with_reducible refine Below.drew ?_) | (with_reducible refine Below.alloc ?_ ?_ _) | (with_reducible refine Below.setCell ?_ ?_ _) | omega | (simp; done) | (simp; omega))
set_option maxHeartbeats 1600000 in
theorem crash_mid_big (b0 b1 : ByteArray) (s0 s1 c l a b : Int) (d : Bool) (w : World) (h0 : b0.size ≤ maxLen) (h1 : b1.size ≤ maxLen) (h : Dk.ok ⟨⟨b0, s0⟩, ⟨b1, s1⟩, c, l, d⟩ = true) (h0a : 0 ≤ a) (h0b : a ≤ b0.size - s0) (h1a : b1.size - s1 < b) :
    Calls Try.prog 16 #[.agg #[.string b0, .int .i64 s0, .string b1, .int .i64 s1, .int .i64 c, .int .i64 l, .bool d], .int .i64 a, .int .i64 b] w (RetD (⟨⟨b0.extract 0 (s0 + a).toNat, s0 + a⟩, ⟨b1.extract 0 (s1 + (b1.size - s1)).toNat, s1 + (b1.size - s1)⟩, c, -1, false⟩, 0) w) := by
  obtain ⟨o1, o2, o3, o4, o5, o6, o7, o8⟩ := (ok_iff _ _ _ _ _ _ _).1 h
  have hh := Lib.hid h; clear h
  have i0 : ∀ w, (Instr.index 53 (.agg #[.int .i64 a, .int .i64 b]) (.int .i64 0)).run Try.prog w = .ok (.int .i64 a) w := fun _ => by kernel_rfl
  have i1 : ∀ w, (Instr.index 53 (.agg #[.int .i64 a, .int .i64 b]) (.int .i64 1)).run Try.prog w = .ok (.int .i64 b) w := fun _ => by kernel_rfl
  go_enter Try.func16, Try.ntmps16
  go_wp2_with fail
  refine (check_yes _ _ _ _ _ _ _ _ h0 h1 hh.out).mono ?_
  rintro e w' ⟨rfl, hb⟩
  have k0 : Blk w' w.heap.size #[.string b0, .int .i64 s0, .string b1, .int .i64 s1, .int .i64 c, .int .i64 l, .bool d] 26 := by repeat' (first | (with_reducible assumption) | (with_reducible exact Blk.new _ _ _) | (with_reducible refine Blk.new' _ _ _ ?_) | (with_reducible refine Blk.alloc ?_ _) | (with_reducible refine Blk.drew ?_) | (with_reducible refine Blk.drewN ?_ _) | (with_reducible refine Blk.below ?_ (by with_reducible assumption)) | (simp; done))
  have k2 : Blk w' (w.heap.size + 1) #[.string ⟨#[]⟩, .int .i64 0, .string ⟨#[]⟩, .int .i64 0, .int .i64 0, .int .i64 0, .bool false] 26 := by repeat' (first | (with_reducible assumption) | (with_reducible exact Blk.new _ _ _) | (with_reducible refine Blk.new' _ _ _ ?_) | (with_reducible refine Blk.alloc ?_ _) | (with_reducible refine Blk.drew ?_) | (with_reducible refine Blk.drewN ?_ _) | (with_reducible refine Blk.below ?_ (by with_reducible assumption)) | (simp; done))
  have c0 := k0.cell; have f0 := k0.froz; have c2 := k2.cell; have f2 := k2.froz
  have q0 := k0.lt; have q2 := k2.lt
  go_wp2_with fail
  refine wp_loop_rounds 3 ?_
  rw [rounds_succ]
  go_wp2_with fail
  go_region
  go_wp2_with fail
  go_region
  go_wp2_with fail
  rw [rounds_succ]
  go_wp2_with fail
  go_region
  go_wp2_with fail
  go_region
  go_wp2_with fail
  rw [rounds_succ]
  go_wp2_with fail
  refine bodyPost_ret (v := .tuple #[Dk.v ⟨⟨b0.extract 0 (s0 + a).toNat, s0 + a⟩, ⟨b1.extract 0 (s1 + (b1.size - s1)).toNat, s1 + (b1.size - s1)⟩, c, -1, false⟩, .int .i64 0]) (by simp [results, Try.results16, go_sem, c0, c2, f0, f2, q0, q2]; done) rfl ⟨rfl, ?_⟩
  repeat' (first | (with_reducible exact Below.refl _ _) | (with_reducible assumption) | (with_reducible refine below_call ?_ (by with_reducible assumption)) | (with_reducible refine below_draws ?_ _) | (with_reducible refine Below.drew ?_) | (with_reducible refine Below.alloc ?_ ?_ _) | (with_reducible refine Below.setCell ?_ ?_ _) | omega | (simp; done) | (simp; omega))
set_option maxHeartbeats 1600000 in
theorem crash_big_neg (b0 b1 : ByteArray) (s0 s1 c l a b : Int) (d : Bool) (w : World) (h0 : b0.size ≤ maxLen) (h1 : b1.size ≤ maxLen) (h : Dk.ok ⟨⟨b0, s0⟩, ⟨b1, s1⟩, c, l, d⟩ = true) (h0a : b0.size - s0 < a) (h1a : b < 0) :
    Calls Try.prog 16 #[.agg #[.string b0, .int .i64 s0, .string b1, .int .i64 s1, .int .i64 c, .int .i64 l, .bool d], .int .i64 a, .int .i64 b] w (RetD (⟨⟨b0.extract 0 (s0 + (b0.size - s0)).toNat, s0 + (b0.size - s0)⟩, ⟨b1.extract 0 (s1 + 0).toNat, s1 + 0⟩, c, -1, false⟩, 0) w) := by
  obtain ⟨o1, o2, o3, o4, o5, o6, o7, o8⟩ := (ok_iff _ _ _ _ _ _ _).1 h
  have hh := Lib.hid h; clear h
  have i0 : ∀ w, (Instr.index 53 (.agg #[.int .i64 a, .int .i64 b]) (.int .i64 0)).run Try.prog w = .ok (.int .i64 a) w := fun _ => by kernel_rfl
  have i1 : ∀ w, (Instr.index 53 (.agg #[.int .i64 a, .int .i64 b]) (.int .i64 1)).run Try.prog w = .ok (.int .i64 b) w := fun _ => by kernel_rfl
  go_enter Try.func16, Try.ntmps16
  go_wp2_with fail
  refine (check_yes _ _ _ _ _ _ _ _ h0 h1 hh.out).mono ?_
  rintro e w' ⟨rfl, hb⟩
  have k0 : Blk w' w.heap.size #[.string b0, .int .i64 s0, .string b1, .int .i64 s1, .int .i64 c, .int .i64 l, .bool d] 26 := by repeat' (first | (with_reducible assumption) | (with_reducible exact Blk.new _ _ _) | (with_reducible refine Blk.new' _ _ _ ?_) | (with_reducible refine Blk.alloc ?_ _) | (with_reducible refine Blk.drew ?_) | (with_reducible refine Blk.drewN ?_ _) | (with_reducible refine Blk.below ?_ (by with_reducible assumption)) | (simp; done))
  have k2 : Blk w' (w.heap.size + 1) #[.string ⟨#[]⟩, .int .i64 0, .string ⟨#[]⟩, .int .i64 0, .int .i64 0, .int .i64 0, .bool false] 26 := by repeat' (first | (with_reducible assumption) | (with_reducible exact Blk.new _ _ _) | (with_reducible refine Blk.new' _ _ _ ?_) | (with_reducible refine Blk.alloc ?_ _) | (with_reducible refine Blk.drew ?_) | (with_reducible refine Blk.drewN ?_ _) | (with_reducible refine Blk.below ?_ (by with_reducible assumption)) | (simp; done))
  have c0 := k0.cell; have f0 := k0.froz; have c2 := k2.cell; have f2 := k2.froz
  have q0 := k0.lt; have q2 := k2.lt
  go_wp2_with fail
  refine wp_loop_rounds 3 ?_
  rw [rounds_succ]
  go_wp2_with fail
  go_region
  go_wp2_with fail
  go_region
  go_wp2_with fail
  rw [rounds_succ]
  go_wp2_with fail
  go_region
  go_wp2_with fail
  go_region
  go_wp2_with fail
  rw [rounds_succ]
  go_wp2_with fail
  refine bodyPost_ret (v := .tuple #[Dk.v ⟨⟨b0.extract 0 (s0 + (b0.size - s0)).toNat, s0 + (b0.size - s0)⟩, ⟨b1.extract 0 (s1 + 0).toNat, s1 + 0⟩, c, -1, false⟩, .int .i64 0]) (by simp [results, Try.results16, go_sem, c0, c2, f0, f2, q0, q2]; done) rfl ⟨rfl, ?_⟩
  repeat' (first | (with_reducible exact Below.refl _ _) | (with_reducible assumption) | (with_reducible refine below_call ?_ (by with_reducible assumption)) | (with_reducible refine below_draws ?_ _) | (with_reducible refine Below.drew ?_) | (with_reducible refine Below.alloc ?_ ?_ _) | (with_reducible refine Below.setCell ?_ ?_ _) | omega | (simp; done) | (simp; omega))
set_option maxHeartbeats 1600000 in
theorem crash_big_mid (b0 b1 : ByteArray) (s0 s1 c l a b : Int) (d : Bool) (w : World) (h0 : b0.size ≤ maxLen) (h1 : b1.size ≤ maxLen) (h : Dk.ok ⟨⟨b0, s0⟩, ⟨b1, s1⟩, c, l, d⟩ = true) (h0a : b0.size - s0 < a) (h1a : 0 ≤ b) (h1b : b ≤ b1.size - s1) :
    Calls Try.prog 16 #[.agg #[.string b0, .int .i64 s0, .string b1, .int .i64 s1, .int .i64 c, .int .i64 l, .bool d], .int .i64 a, .int .i64 b] w (RetD (⟨⟨b0.extract 0 (s0 + (b0.size - s0)).toNat, s0 + (b0.size - s0)⟩, ⟨b1.extract 0 (s1 + b).toNat, s1 + b⟩, c, -1, false⟩, 0) w) := by
  obtain ⟨o1, o2, o3, o4, o5, o6, o7, o8⟩ := (ok_iff _ _ _ _ _ _ _).1 h
  have hh := Lib.hid h; clear h
  have i0 : ∀ w, (Instr.index 53 (.agg #[.int .i64 a, .int .i64 b]) (.int .i64 0)).run Try.prog w = .ok (.int .i64 a) w := fun _ => by kernel_rfl
  have i1 : ∀ w, (Instr.index 53 (.agg #[.int .i64 a, .int .i64 b]) (.int .i64 1)).run Try.prog w = .ok (.int .i64 b) w := fun _ => by kernel_rfl
  go_enter Try.func16, Try.ntmps16
  go_wp2_with fail
  refine (check_yes _ _ _ _ _ _ _ _ h0 h1 hh.out).mono ?_
  rintro e w' ⟨rfl, hb⟩
  have k0 : Blk w' w.heap.size #[.string b0, .int .i64 s0, .string b1, .int .i64 s1, .int .i64 c, .int .i64 l, .bool d] 26 := by repeat' (first | (with_reducible assumption) | (with_reducible exact Blk.new _ _ _) | (with_reducible refine Blk.new' _ _ _ ?_) | (with_reducible refine Blk.alloc ?_ _) | (with_reducible refine Blk.drew ?_) | (with_reducible refine Blk.drewN ?_ _) | (with_reducible refine Blk.below ?_ (by with_reducible assumption)) | (simp; done))
  have k2 : Blk w' (w.heap.size + 1) #[.string ⟨#[]⟩, .int .i64 0, .string ⟨#[]⟩, .int .i64 0, .int .i64 0, .int .i64 0, .bool false] 26 := by repeat' (first | (with_reducible assumption) | (with_reducible exact Blk.new _ _ _) | (with_reducible refine Blk.new' _ _ _ ?_) | (with_reducible refine Blk.alloc ?_ _) | (with_reducible refine Blk.drew ?_) | (with_reducible refine Blk.drewN ?_ _) | (with_reducible refine Blk.below ?_ (by with_reducible assumption)) | (simp; done))
  have c0 := k0.cell; have f0 := k0.froz; have c2 := k2.cell; have f2 := k2.froz
  have q0 := k0.lt; have q2 := k2.lt
  go_wp2_with fail
  refine wp_loop_rounds 3 ?_
  rw [rounds_succ]
  go_wp2_with fail
  go_region
  go_wp2_with fail
  go_region
  go_wp2_with fail
  rw [rounds_succ]
  go_wp2_with fail
  go_region
  go_wp2_with fail
  go_region
  go_wp2_with fail
  rw [rounds_succ]
  go_wp2_with fail
  refine bodyPost_ret (v := .tuple #[Dk.v ⟨⟨b0.extract 0 (s0 + (b0.size - s0)).toNat, s0 + (b0.size - s0)⟩, ⟨b1.extract 0 (s1 + b).toNat, s1 + b⟩, c, -1, false⟩, .int .i64 0]) (by simp [results, Try.results16, go_sem, c0, c2, f0, f2, q0, q2]; done) rfl ⟨rfl, ?_⟩
  repeat' (first | (with_reducible exact Below.refl _ _) | (with_reducible assumption) | (with_reducible refine below_call ?_ (by with_reducible assumption)) | (with_reducible refine below_draws ?_ _) | (with_reducible refine Below.drew ?_) | (with_reducible refine Below.alloc ?_ ?_ _) | (with_reducible refine Below.setCell ?_ ?_ _) | omega | (simp; done) | (simp; omega))
set_option maxHeartbeats 1600000 in
theorem crash_big_big (b0 b1 : ByteArray) (s0 s1 c l a b : Int) (d : Bool) (w : World) (h0 : b0.size ≤ maxLen) (h1 : b1.size ≤ maxLen) (h : Dk.ok ⟨⟨b0, s0⟩, ⟨b1, s1⟩, c, l, d⟩ = true) (h0a : b0.size - s0 < a) (h1a : b1.size - s1 < b) :
    Calls Try.prog 16 #[.agg #[.string b0, .int .i64 s0, .string b1, .int .i64 s1, .int .i64 c, .int .i64 l, .bool d], .int .i64 a, .int .i64 b] w (RetD (⟨⟨b0.extract 0 (s0 + (b0.size - s0)).toNat, s0 + (b0.size - s0)⟩, ⟨b1.extract 0 (s1 + (b1.size - s1)).toNat, s1 + (b1.size - s1)⟩, c, -1, false⟩, 0) w) := by
  obtain ⟨o1, o2, o3, o4, o5, o6, o7, o8⟩ := (ok_iff _ _ _ _ _ _ _).1 h
  have hh := Lib.hid h; clear h
  have i0 : ∀ w, (Instr.index 53 (.agg #[.int .i64 a, .int .i64 b]) (.int .i64 0)).run Try.prog w = .ok (.int .i64 a) w := fun _ => by kernel_rfl
  have i1 : ∀ w, (Instr.index 53 (.agg #[.int .i64 a, .int .i64 b]) (.int .i64 1)).run Try.prog w = .ok (.int .i64 b) w := fun _ => by kernel_rfl
  go_enter Try.func16, Try.ntmps16
  go_wp2_with fail
  refine (check_yes _ _ _ _ _ _ _ _ h0 h1 hh.out).mono ?_
  rintro e w' ⟨rfl, hb⟩
  have k0 : Blk w' w.heap.size #[.string b0, .int .i64 s0, .string b1, .int .i64 s1, .int .i64 c, .int .i64 l, .bool d] 26 := by repeat' (first | (with_reducible assumption) | (with_reducible exact Blk.new _ _ _) | (with_reducible refine Blk.new' _ _ _ ?_) | (with_reducible refine Blk.alloc ?_ _) | (with_reducible refine Blk.drew ?_) | (with_reducible refine Blk.drewN ?_ _) | (with_reducible refine Blk.below ?_ (by with_reducible assumption)) | (simp; done))
  have k2 : Blk w' (w.heap.size + 1) #[.string ⟨#[]⟩, .int .i64 0, .string ⟨#[]⟩, .int .i64 0, .int .i64 0, .int .i64 0, .bool false] 26 := by repeat' (first | (with_reducible assumption) | (with_reducible exact Blk.new _ _ _) | (with_reducible refine Blk.new' _ _ _ ?_) | (with_reducible refine Blk.alloc ?_ _) | (with_reducible refine Blk.drew ?_) | (with_reducible refine Blk.drewN ?_ _) | (with_reducible refine Blk.below ?_ (by with_reducible assumption)) | (simp; done))
  have c0 := k0.cell; have f0 := k0.froz; have c2 := k2.cell; have f2 := k2.froz
  have q0 := k0.lt; have q2 := k2.lt
  go_wp2_with fail
  refine wp_loop_rounds 3 ?_
  rw [rounds_succ]
  go_wp2_with fail
  go_region
  go_wp2_with fail
  go_region
  go_wp2_with fail
  rw [rounds_succ]
  go_wp2_with fail
  go_region
  go_wp2_with fail
  go_region
  go_wp2_with fail
  rw [rounds_succ]
  go_wp2_with fail
  refine bodyPost_ret (v := .tuple #[Dk.v ⟨⟨b0.extract 0 (s0 + (b0.size - s0)).toNat, s0 + (b0.size - s0)⟩, ⟨b1.extract 0 (s1 + (b1.size - s1)).toNat, s1 + (b1.size - s1)⟩, c, -1, false⟩, .int .i64 0]) (by simp [results, Try.results16, go_sem, c0, c2, f0, f2, q0, q2]; done) rfl ⟨rfl, ?_⟩
  repeat' (first | (with_reducible exact Below.refl _ _) | (with_reducible assumption) | (with_reducible refine below_call ?_ (by with_reducible assumption)) | (with_reducible refine below_draws ?_ _) | (with_reducible refine Below.drew ?_) | (with_reducible refine Below.alloc ?_ ?_ _) | (with_reducible refine Below.setCell ?_ ?_ _) | omega | (simp; done) | (simp; omega))
end Go.Proofs.Ytjgbnagacbiolaa
