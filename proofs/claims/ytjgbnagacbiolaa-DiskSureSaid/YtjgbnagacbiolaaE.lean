import Derived.Test.YtjgbnagacbiolaaRA
namespace Go.Proofs.Ytjgbnagacbiolaa
open Go.RowKit
set_option linter.unusedVariables false
set_option linter.unusedSimpArgs false
def armF (x : Dk) (n : Int) : Dk × Int := if x.ok = false then (zeroD, 2) else ({ x with l := max n (-1) }, 0)
set_option maxHeartbeats 400000 in
theorem arm_no (b0 b1 : ByteArray) (s0 s1 c l n : Int) (d : Bool) (w : World) (h0 : b0.size ≤ maxLen) (h1 : b1.size ≤ maxLen) (h : Dk.ok ⟨⟨b0, s0⟩, ⟨b1, s1⟩, c, l, d⟩ = false) :
    Calls Try.prog 14 #[.agg #[.string b0, .int .i64 s0, .string b1, .int .i64 s1, .int .i64 c, .int .i64 l, .bool d], .int .i64 n] w (RetD (zeroD, 2) w) := by
  have hh := Lib.hid h; clear h
  go_enter Try.func14, Try.ntmps14
  go_wp2_with fail
  refine (check_no _ _ _ _ _ _ _ _ h0 h1 hh.out).mono ?_
  rintro e w' ⟨rfl, hb⟩
  have k0 : Blk w' w.heap.size #[.string b0, .int .i64 s0, .string b1, .int .i64 s1, .int .i64 c, .int .i64 l, .bool d] 26 := by repeat' (first | (with_reducible assumption) | (with_reducible exact Blk.new _ _ _) | (with_reducible refine Blk.new' _ _ _ ?_) | (with_reducible refine Blk.alloc ?_ _) | (with_reducible refine Blk.drew ?_) | (with_reducible refine Blk.drewN ?_ _) | (with_reducible refine Blk.below ?_ (by with_reducible assumption)) | (simp; done))
  have k2 : Blk w' (w.heap.size + 1) #[.string ⟨#[]⟩, .int .i64 0, .string ⟨#[]⟩, .int .i64 0, .int .i64 0, .int .i64 0, .bool false] 26 := by repeat' (first | (with_reducible assumption) | (with_reducible exact Blk.new _ _ _) | (with_reducible refine Blk.new' _ _ _ ?_) | (with_reducible refine Blk.alloc ?_ _) | (with_reducible refine Blk.drew ?_) | (with_reducible refine Blk.drewN ?_ _) | (with_reducible refine Blk.below ?_ (by with_reducible assumption)) | (simp; done))
  have c0 := k0.cell; have f0 := k0.froz; have c2 := k2.cell; have f2 := k2.froz
  have q0 := k0.lt; have q2 := k2.lt
  go_wp2_with fail
  refine bodyPost_ret (v := .tuple #[zeroD.v, .int .i64 2]) (by simp [results, Try.results14, go_sem, c0, c2, f0, f2, q0, q2, zeroD]; done) rfl ⟨rfl, ?_⟩
  repeat' (first | (with_reducible exact Below.refl _ _) | (with_reducible assumption) | (with_reducible refine below_call ?_ (by with_reducible assumption)) | (with_reducible refine below_draws ?_ _) | (with_reducible refine Below.drew ?_) | (with_reducible refine Below.alloc ?_ ?_ _) | (with_reducible refine Below.setCell ?_ ?_ _) | omega | (simp; done) | (simp; omega))
set_option maxHeartbeats 400000 in
theorem arm_yes (b0 b1 : ByteArray) (s0 s1 c l n : Int) (d : Bool) (w : World) (h0 : b0.size ≤ maxLen) (h1 : b1.size ≤ maxLen) (m : Int) (hm : (n < -1 ∧ m = -1) ∨ (-1 ≤ n ∧ m = n)) (h : Dk.ok ⟨⟨b0, s0⟩, ⟨b1, s1⟩, c, l, d⟩ = true) :
    Calls Try.prog 14 #[.agg #[.string b0, .int .i64 s0, .string b1, .int .i64 s1, .int .i64 c, .int .i64 l, .bool d], .int .i64 n] w (RetD (⟨⟨b0, s0⟩, ⟨b1, s1⟩, c, m, d⟩, 0) w) := by
  have hh := Lib.hid h; clear h
  rcases hm with ⟨hm, rfl⟩ | ⟨hm, rfl⟩
  · go_enter Try.func14, Try.ntmps14
    go_wp2_with fail
    refine (check_yes _ _ _ _ _ _ _ _ h0 h1 hh.out).mono ?_
    rintro e w' ⟨rfl, hb⟩
    have k0 : Blk w' w.heap.size #[.string b0, .int .i64 s0, .string b1, .int .i64 s1, .int .i64 c, .int .i64 l, .bool d] 26 := by repeat' (first | (with_reducible assumption) | (with_reducible exact Blk.new _ _ _) | (with_reducible refine Blk.new' _ _ _ ?_) | (with_reducible refine Blk.alloc ?_ _) | (with_reducible refine Blk.drew ?_) | (with_reducible refine Blk.drewN ?_ _) | (with_reducible refine Blk.below ?_ (by with_reducible assumption)) | (simp; done))
    have k2 : Blk w' (w.heap.size + 1) #[.string ⟨#[]⟩, .int .i64 0, .string ⟨#[]⟩, .int .i64 0, .int .i64 0, .int .i64 0, .bool false] 26 := by repeat' (first | (with_reducible assumption) | (with_reducible exact Blk.new _ _ _) | (with_reducible refine Blk.new' _ _ _ ?_) | (with_reducible refine Blk.alloc ?_ _) | (with_reducible refine Blk.drew ?_) | (with_reducible refine Blk.drewN ?_ _) | (with_reducible refine Blk.below ?_ (by with_reducible assumption)) | (simp; done))
    have c0 := k0.cell; have f0 := k0.froz; have c2 := k2.cell; have f2 := k2.froz
    have q0 := k0.lt; have q2 := k2.lt
    go_wp2_with fail
    refine bodyPost_ret (v := .tuple #[Dk.v ⟨⟨b0, s0⟩, ⟨b1, s1⟩, c, -1, d⟩, .int .i64 0]) (by simp [results, Try.results14, go_sem, c0, c2, f0, f2, q0, q2, zeroD]; done) rfl ⟨rfl, ?_⟩
    repeat' (first | (with_reducible exact Below.refl _ _) | (with_reducible assumption) | (with_reducible refine below_call ?_ (by with_reducible assumption)) | (with_reducible refine below_draws ?_ _) | (with_reducible refine Below.drew ?_) | (with_reducible refine Below.alloc ?_ ?_ _) | (with_reducible refine Below.setCell ?_ ?_ _) | omega | (simp; done) | (simp; omega))
  · go_enter Try.func14, Try.ntmps14
    go_wp2_with fail
    refine (check_yes _ _ _ _ _ _ _ _ h0 h1 hh.out).mono ?_
    rintro e w' ⟨rfl, hb⟩
    have k0 : Blk w' w.heap.size #[.string b0, .int .i64 s0, .string b1, .int .i64 s1, .int .i64 c, .int .i64 l, .bool d] 26 := by repeat' (first | (with_reducible assumption) | (with_reducible exact Blk.new _ _ _) | (with_reducible refine Blk.new' _ _ _ ?_) | (with_reducible refine Blk.alloc ?_ _) | (with_reducible refine Blk.drew ?_) | (with_reducible refine Blk.drewN ?_ _) | (with_reducible refine Blk.below ?_ (by with_reducible assumption)) | (simp; done))
    have k2 : Blk w' (w.heap.size + 1) #[.string ⟨#[]⟩, .int .i64 0, .string ⟨#[]⟩, .int .i64 0, .int .i64 0, .int .i64 0, .bool false] 26 := by repeat' (first | (with_reducible assumption) | (with_reducible exact Blk.new _ _ _) | (with_reducible refine Blk.new' _ _ _ ?_) | (with_reducible refine Blk.alloc ?_ _) | (with_reducible refine Blk.drew ?_) | (with_reducible refine Blk.drewN ?_ _) | (with_reducible refine Blk.below ?_ (by with_reducible assumption)) | (simp; done))
    have c0 := k0.cell; have f0 := k0.froz; have c2 := k2.cell; have f2 := k2.froz
    have q0 := k0.lt; have q2 := k2.lt
    go_wp2_with fail
    refine bodyPost_ret (v := .tuple #[Dk.v ⟨⟨b0, s0⟩, ⟨b1, s1⟩, c, m, d⟩, .int .i64 0]) (by simp [results, Try.results14, go_sem, c0, c2, f0, f2, q0, q2, zeroD]; done) rfl ⟨rfl, ?_⟩
    repeat' (first | (with_reducible exact Below.refl _ _) | (with_reducible assumption) | (with_reducible refine below_call ?_ (by with_reducible assumption)) | (with_reducible refine below_draws ?_ _) | (with_reducible refine Below.drew ?_) | (with_reducible refine Below.alloc ?_ ?_ _) | (with_reducible refine Below.setCell ?_ ?_ _) | omega | (simp; done) | (simp; omega))
theorem arm_any (b0 b1 : ByteArray) (s0 s1 c l n : Int) (d : Bool) (w : World) (h0 : b0.size ≤ maxLen) (h1 : b1.size ≤ maxLen) :
    Calls Try.prog 14 #[.agg #[.string b0, .int .i64 s0, .string b1, .int .i64 s1, .int .i64 c, .int .i64 l, .bool d], .int .i64 n] w (RetD (armF ⟨⟨b0, s0⟩, ⟨b1, s1⟩, c, l, d⟩ n) w) := by
  cases hok : Dk.ok ⟨⟨b0, s0⟩, ⟨b1, s1⟩, c, l, d⟩
  · have := arm_no b0 b1 s0 s1 c l n d w h0 h1 hok
    simpa [armF, hok] using this
  · have := arm_yes b0 b1 s0 s1 c l n d w h0 h1 (max n (-1)) (by omega) hok
    simpa [armF, hok] using this
set_option maxHeartbeats 400000 in
theorem rarm_no (b0 b1 : ByteArray) (s0 s1 c l n : Int) (d : Bool) (w : World) (h0 : b0.size ≤ maxLen) (h1 : b1.size ≤ maxLen) (h : Dk.ok ⟨⟨b0, s0⟩, ⟨b1, s1⟩, c, l, d⟩ = false) :
    Calls Try.prog 15 #[.agg #[.string b0, .int .i64 s0, .string b1, .int .i64 s1, .int .i64 c, .int .i64 l, .bool d], .int .i64 n] w (RetD (zeroD, 2) w) := by
  have hh := Lib.hid h; clear h
  go_enter Try.func15, Try.ntmps15
  go_wp2_with fail
  refine (rcheck_no _ _ _ _ _ _ _ _ h0 h1 hh.out).mono ?_
  rintro e w' ⟨rfl, hb⟩
  have k0 : Blk w' w.heap.size #[.string b0, .int .i64 s0, .string b1, .int .i64 s1, .int .i64 c, .int .i64 l, .bool d] 26 := by repeat' (first | (with_reducible assumption) | (with_reducible exact Blk.new _ _ _) | (with_reducible refine Blk.new' _ _ _ ?_) | (with_reducible refine Blk.alloc ?_ _) | (with_reducible refine Blk.drew ?_) | (with_reducible refine Blk.drewN ?_ _) | (with_reducible refine Blk.below ?_ (by with_reducible assumption)) | (simp; done))
  have k2 : Blk w' (w.heap.size + 1) #[.string ⟨#[]⟩, .int .i64 0, .string ⟨#[]⟩, .int .i64 0, .int .i64 0, .int .i64 0, .bool false] 26 := by repeat' (first | (with_reducible assumption) | (with_reducible exact Blk.new _ _ _) | (with_reducible refine Blk.new' _ _ _ ?_) | (with_reducible refine Blk.alloc ?_ _) | (with_reducible refine Blk.drew ?_) | (with_reducible refine Blk.drewN ?_ _) | (with_reducible refine Blk.below ?_ (by with_reducible assumption)) | (simp; done))
  have c0 := k0.cell; have f0 := k0.froz; have c2 := k2.cell; have f2 := k2.froz
  have q0 := k0.lt; have q2 := k2.lt
  go_wp2_with fail
  refine bodyPost_ret (v := .tuple #[zeroD.v, .int .i64 2]) (by simp [results, Try.results15, go_sem, c0, c2, f0, f2, q0, q2, zeroD]; done) rfl ⟨rfl, ?_⟩
  repeat' (first | (with_reducible exact Below.refl _ _) | (with_reducible assumption) | (with_reducible refine below_call ?_ (by with_reducible assumption)) | (with_reducible refine below_draws ?_ _) | (with_reducible refine Below.drew ?_) | (with_reducible refine Below.alloc ?_ ?_ _) | (with_reducible refine Below.setCell ?_ ?_ _) | omega | (simp; done) | (simp; omega))
set_option maxHeartbeats 400000 in
theorem rarm_yes (b0 b1 : ByteArray) (s0 s1 c l n : Int) (d : Bool) (w : World) (h0 : b0.size ≤ maxLen) (h1 : b1.size ≤ maxLen) (m : Int) (hm : (n < -1 ∧ m = -1) ∨ (-1 ≤ n ∧ m = n)) (h : Dk.ok ⟨⟨b0, s0⟩, ⟨b1, s1⟩, c, l, d⟩ = true) :
    Calls Try.prog 15 #[.agg #[.string b0, .int .i64 s0, .string b1, .int .i64 s1, .int .i64 c, .int .i64 l, .bool d], .int .i64 n] w (RetD (⟨⟨b0, s0⟩, ⟨b1, s1⟩, c, m, d⟩, 0) w) := by
  have hh := Lib.hid h; clear h
  rcases hm with ⟨hm, rfl⟩ | ⟨hm, rfl⟩
  · go_enter Try.func15, Try.ntmps15
    go_wp2_with fail
    refine (rcheck_yes _ _ _ _ _ _ _ _ h0 h1 hh.out).mono ?_
    rintro e w' ⟨rfl, hb⟩
    have k0 : Blk w' w.heap.size #[.string b0, .int .i64 s0, .string b1, .int .i64 s1, .int .i64 c, .int .i64 l, .bool d] 26 := by repeat' (first | (with_reducible assumption) | (with_reducible exact Blk.new _ _ _) | (with_reducible refine Blk.new' _ _ _ ?_) | (with_reducible refine Blk.alloc ?_ _) | (with_reducible refine Blk.drew ?_) | (with_reducible refine Blk.drewN ?_ _) | (with_reducible refine Blk.below ?_ (by with_reducible assumption)) | (simp; done))
    have k2 : Blk w' (w.heap.size + 1) #[.string ⟨#[]⟩, .int .i64 0, .string ⟨#[]⟩, .int .i64 0, .int .i64 0, .int .i64 0, .bool false] 26 := by repeat' (first | (with_reducible assumption) | (with_reducible exact Blk.new _ _ _) | (with_reducible refine Blk.new' _ _ _ ?_) | (with_reducible refine Blk.alloc ?_ _) | (with_reducible refine Blk.drew ?_) | (with_reducible refine Blk.drewN ?_ _) | (with_reducible refine Blk.below ?_ (by with_reducible assumption)) | (simp; done))
    have c0 := k0.cell; have f0 := k0.froz; have c2 := k2.cell; have f2 := k2.froz
    have q0 := k0.lt; have q2 := k2.lt
    go_wp2_with fail
    refine bodyPost_ret (v := .tuple #[Dk.v ⟨⟨b0, s0⟩, ⟨b1, s1⟩, c, -1, d⟩, .int .i64 0]) (by simp [results, Try.results15, go_sem, c0, c2, f0, f2, q0, q2, zeroD]; done) rfl ⟨rfl, ?_⟩
    repeat' (first | (with_reducible exact Below.refl _ _) | (with_reducible assumption) | (with_reducible refine below_call ?_ (by with_reducible assumption)) | (with_reducible refine below_draws ?_ _) | (with_reducible refine Below.drew ?_) | (with_reducible refine Below.alloc ?_ ?_ _) | (with_reducible refine Below.setCell ?_ ?_ _) | omega | (simp; done) | (simp; omega))
  · go_enter Try.func15, Try.ntmps15
    go_wp2_with fail
    refine (rcheck_yes _ _ _ _ _ _ _ _ h0 h1 hh.out).mono ?_
    rintro e w' ⟨rfl, hb⟩
    have k0 : Blk w' w.heap.size #[.string b0, .int .i64 s0, .string b1, .int .i64 s1, .int .i64 c, .int .i64 l, .bool d] 26 := by repeat' (first | (with_reducible assumption) | (with_reducible exact Blk.new _ _ _) | (with_reducible refine Blk.new' _ _ _ ?_) | (with_reducible refine Blk.alloc ?_ _) | (with_reducible refine Blk.drew ?_) | (with_reducible refine Blk.drewN ?_ _) | (with_reducible refine Blk.below ?_ (by with_reducible assumption)) | (simp; done))
    have k2 : Blk w' (w.heap.size + 1) #[.string ⟨#[]⟩, .int .i64 0, .string ⟨#[]⟩, .int .i64 0, .int .i64 0, .int .i64 0, .bool false] 26 := by repeat' (first | (with_reducible assumption) | (with_reducible exact Blk.new _ _ _) | (with_reducible refine Blk.new' _ _ _ ?_) | (with_reducible refine Blk.alloc ?_ _) | (with_reducible refine Blk.drew ?_) | (with_reducible refine Blk.drewN ?_ _) | (with_reducible refine Blk.below ?_ (by with_reducible assumption)) | (simp; done))
    have c0 := k0.cell; have f0 := k0.froz; have c2 := k2.cell; have f2 := k2.froz
    have q0 := k0.lt; have q2 := k2.lt
    go_wp2_with fail
    refine bodyPost_ret (v := .tuple #[Dk.v ⟨⟨b0, s0⟩, ⟨b1, s1⟩, c, m, d⟩, .int .i64 0]) (by simp [results, Try.results15, go_sem, c0, c2, f0, f2, q0, q2, zeroD]; done) rfl ⟨rfl, ?_⟩
    repeat' (first | (with_reducible exact Below.refl _ _) | (with_reducible assumption) | (with_reducible refine below_call ?_ (by with_reducible assumption)) | (with_reducible refine below_draws ?_ _) | (with_reducible refine Below.drew ?_) | (with_reducible refine Below.alloc ?_ ?_ _) | (with_reducible refine Below.setCell ?_ ?_ _) | omega | (simp; done) | (simp; omega))
theorem rarm_any (b0 b1 : ByteArray) (s0 s1 c l n : Int) (d : Bool) (w : World) (h0 : b0.size ≤ maxLen) (h1 : b1.size ≤ maxLen) :
    Calls Try.prog 15 #[.agg #[.string b0, .int .i64 s0, .string b1, .int .i64 s1, .int .i64 c, .int .i64 l, .bool d], .int .i64 n] w (RetD (armF ⟨⟨b0, s0⟩, ⟨b1, s1⟩, c, l, d⟩ n) w) := by
  cases hok : Dk.ok ⟨⟨b0, s0⟩, ⟨b1, s1⟩, c, l, d⟩
  · have := rarm_no b0 b1 s0 s1 c l n d w h0 h1 hok
    simpa [armF, hok] using this
  · have := rarm_yes b0 b1 s0 s1 c l n d w h0 h1 (max n (-1)) (by omega) hok
    simpa [armF, hok] using this
def newF (n : Int) : Dk × Int := if 0 ≤ n ∧ n ≤ 131072 then (⟨⟨⟨#[]⟩, 0⟩, ⟨⟨#[]⟩, 0⟩, n, -1, false⟩, 0) else (zeroD, 2)
theorem retD_of {x : Dk} {n : Int} {r : Dk × Int} {w w' : World} (h : r = (x, n)) (hb : Below w.heap.size w w') : RetD r w (.returned (.tuple #[x.v, .int .i64 n])) w' := ⟨by rw [h], hb⟩
set_option maxHeartbeats 400000 in
theorem rnew_any (n : Int) (w : World) : Calls Try.prog 19 #[.int .i64 n] w (RetD (newF n) w) := by
  by_cases h : 0 ≤ n ∧ n ≤ 131072
  · obtain ⟨ha, hb⟩ := h
    go_enter Try.func19, Try.ntmps19
    go_wp2_with fail
    refine bodyPost_ret (v := .tuple #[Dk.v ⟨⟨⟨#[]⟩, 0⟩, ⟨⟨#[]⟩, 0⟩, n, -1, false⟩, .int .i64 0]) (by simp [results, Try.results19, go_sem]; done) rfl (retD_of (by simp [newF, ha, hb]) ?_)
    repeat' (first | (with_reducible exact Below.refl _ _) | (with_reducible assumption) | (with_reducible refine below_call ?_ (by with_reducible assumption)) | (with_reducible refine below_draws ?_ _) | (with_reducible refine Below.drew ?_) | (with_reducible refine Below.alloc ?_ ?_ _) | (with_reducible refine Below.setCell ?_ ?_ _) | omega | (simp; done) | (simp; omega))
  · go_enter Try.func19, Try.ntmps19
    go_wp2_with fail
    all_goals refine bodyPost_ret (v := .tuple #[zeroD.v, .int .i64 2]) (by simp [results, Try.results19, go_sem, zeroD]; done) rfl (retD_of (by rw [newF, if_neg h]) ?_)
    all_goals repeat' (first | (with_reducible exact Below.refl _ _) | (with_reducible assumption) | (with_reducible refine below_call ?_ (by with_reducible assumption)) | (with_reducible refine below_draws ?_ _) | (with_reducible refine Below.drew ?_) | (with_reducible refine Below.alloc ?_ ?_ _) | (with_reducible refine Below.setCell ?_ ?_ _) | omega | (simp; done) | (simp; omega))
set_option maxHeartbeats 400000 in
theorem new_any (n : Int) (w : World) : Calls Try.prog 18 #[.int .i64 n] w (RetD (newF n) w) := by
  have e0 : (⟨#[]⟩ : ByteArray).size = 0 := rfl
  by_cases h : 0 ≤ n ∧ n ≤ 131072
  · have hk : Dk.ok ⟨⟨⟨#[]⟩, 0⟩, ⟨⟨#[]⟩, 0⟩, n, -1, false⟩ = true := by rw [ok_iff, e0]; omega
    have Hk := Lib.hid hk; clear hk
    have hn : newF n = (⟨⟨⟨#[]⟩, 0⟩, ⟨⟨#[]⟩, 0⟩, n, -1, false⟩, 0) := by rw [newF, if_pos h]
    have Hn := Lib.hid hn; clear hn h e0
    go_enter Try.func18, Try.ntmps18
    go_wp2_with fail
    refine (check_yes _ _ _ _ _ _ _ _ (by unfold maxLen; decide) (by unfold maxLen; decide) Hk.out).mono ?_
    rintro e w' ⟨rfl, hb⟩
    have k0 : Blk w' w.heap.size #[.string ⟨#[]⟩, .int .i64 0, .string ⟨#[]⟩, .int .i64 0, .int .i64 0, .int .i64 0, .bool false] 26 := by repeat' (first | (with_reducible assumption) | (with_reducible exact Blk.new _ _ _) | (with_reducible refine Blk.new' _ _ _ ?_) | (with_reducible refine Blk.alloc ?_ _) | (with_reducible refine Blk.drew ?_) | (with_reducible refine Blk.drewN ?_ _) | (with_reducible refine Blk.below ?_ (by with_reducible assumption)) | (simp; done))
    have k1 : Blk w' (w.heap.size + 1) #[.string ⟨#[]⟩, .int .i64 0, .string ⟨#[]⟩, .int .i64 0, .int .i64 n, .int .i64 (-1), .bool false] 26 := by repeat' (first | (with_reducible assumption) | (with_reducible exact Blk.new _ _ _) | (with_reducible refine Blk.new' _ _ _ ?_) | (with_reducible refine Blk.alloc ?_ _) | (with_reducible refine Blk.drew ?_) | (with_reducible refine Blk.drewN ?_ _) | (with_reducible refine Blk.below ?_ (by with_reducible assumption)) | (simp; done))
    have c0 := k0.cell; have f0 := k0.froz; have c1 := k1.cell; have f1 := k1.froz
    go_wp2_with fail
    refine bodyPost_ret (v := .tuple #[Dk.v ⟨⟨⟨#[]⟩, 0⟩, ⟨⟨#[]⟩, 0⟩, n, -1, false⟩, .int .i64 0]) (by simp [results, Try.results18, go_sem, c0, c1, f0, f1]; done) rfl (retD_of Hn.out ?_)
    repeat' (first | (with_reducible exact Below.refl _ _) | (with_reducible assumption) | (with_reducible refine below_call ?_ (by with_reducible assumption)) | (with_reducible refine below_draws ?_ _) | (with_reducible refine Below.drew ?_) | (with_reducible refine Below.alloc ?_ ?_ _) | (with_reducible refine Below.setCell ?_ ?_ _) | omega | (simp; done) | (simp; omega))
  · have hk : Dk.ok ⟨⟨⟨#[]⟩, 0⟩, ⟨⟨#[]⟩, 0⟩, n, -1, false⟩ = false := by rw [← Bool.not_eq_true, ok_iff, e0]; omega
    have Hk := Lib.hid hk; clear hk
    have hn : newF n = (zeroD, 2) := by rw [newF, if_neg h]
    have Hn := Lib.hid hn; clear hn h e0
    go_enter Try.func18, Try.ntmps18
    go_wp2_with fail
    refine (check_no _ _ _ _ _ _ _ _ (by unfold maxLen; decide) (by unfold maxLen; decide) Hk.out).mono ?_
    rintro e w' ⟨rfl, hb⟩
    have k0 : Blk w' w.heap.size #[.string ⟨#[]⟩, .int .i64 0, .string ⟨#[]⟩, .int .i64 0, .int .i64 0, .int .i64 0, .bool false] 26 := by repeat' (first | (with_reducible assumption) | (with_reducible exact Blk.new _ _ _) | (with_reducible refine Blk.new' _ _ _ ?_) | (with_reducible refine Blk.alloc ?_ _) | (with_reducible refine Blk.drew ?_) | (with_reducible refine Blk.drewN ?_ _) | (with_reducible refine Blk.below ?_ (by with_reducible assumption)) | (simp; done))
    have k1 : Blk w' (w.heap.size + 1) #[.string ⟨#[]⟩, .int .i64 0, .string ⟨#[]⟩, .int .i64 0, .int .i64 n, .int .i64 (-1), .bool false] 26 := by repeat' (first | (with_reducible assumption) | (with_reducible exact Blk.new _ _ _) | (with_reducible refine Blk.new' _ _ _ ?_) | (with_reducible refine Blk.alloc ?_ _) | (with_reducible refine Blk.drew ?_) | (with_reducible refine Blk.drewN ?_ _) | (with_reducible refine Blk.below ?_ (by with_reducible assumption)) | (simp; done))
    have c0 := k0.cell; have f0 := k0.froz; have c1 := k1.cell; have f1 := k1.froz
    go_wp2_with fail
    refine bodyPost_ret (v := .tuple #[zeroD.v, .int .i64 2]) (by simp [results, Try.results18, go_sem, c0, c1, f0, f1, zeroD]; done) rfl (retD_of Hn.out ?_)
    repeat' (first | (with_reducible exact Below.refl _ _) | (with_reducible assumption) | (with_reducible refine below_call ?_ (by with_reducible assumption)) | (with_reducible refine below_draws ?_ _) | (with_reducible refine Below.drew ?_) | (with_reducible refine Below.alloc ?_ ?_ _) | (with_reducible refine Below.setCell ?_ ?_ _) | omega | (simp; done) | (simp; omega))
theorem u24 : Try.prog.underlying 24 = some (.array 2 23) := by kernel_rfl
theorem sz23 (w : World) : (sizeOf 23).run Try.prog w = .ok 2 w := by kernel_rfl
theorem part0 (a b c d : Value) (w : World) : (part 23 #[a, b, c, d] 0).run Try.prog w = .ok (.agg #[a, b]) w := by kernel_rfl
theorem part1 (a b c d : Value) (w : World) : (part 23 #[a, b, c, d] 2).run Try.prog w = .ok (.agg #[c, d]) w := by kernel_rfl
theorem toList_eq_iff (a b : ByteArray) : a.toList = b.toList ↔ a = b := by
  constructor
  · intro h
    rw [ByteArray.toList_eq, ByteArray.toList_eq] at h
    exact WideShapes.bytes_inj h
  · rintro rfl; rfl
/-- Are two zones the same? -/
def zeq (b : ByteArray) (s : Int) (a : ByteArray) (r : Int) : Bool := b.toList == a.toList && s == r
theorem zeq_iff (b a : ByteArray) (s r : Int) : zeq b s a r = true ↔ b = a ∧ s = r := by
  simp [zeq, toList_eq_iff]
theorem eq23 (d : Nat) (b a : ByteArray) (s r : Int) (w : World) : (Op.equalIn (d + 2) 23 (.agg #[.string b, .int .i64 s]) (.agg #[.string a, .int .i64 r])).run Try.prog w = .ok (zeq b s a r) w := by
  unfold zeq
  by_cases hb : b.toList = a.toList <;> by_cases hs : s = r <;> simp [go_sem, hb, hs]
theorem eq24 (d : Nat) (b0 b1 a0 a1 : ByteArray) (s0 s1 r0 r1 : Int) (w : World) :
    (Op.equalIn (d + 3) 24 (.agg #[.string b0, .int .i64 s0, .string b1, .int .i64 s1]) (.agg #[.string a0, .int .i64 r0, .string a1, .int .i64 r1])).run Try.prog w =
      .ok (zeq b0 s0 a0 r0 && zeq b1 s1 a1 r1) w := by
  have h1 := eq23 d
  rw [Op.equalIn]
  simp only [Sem.run_bind, run_underlying u24, Result.andThen_ok, sz23]
  simp [Std.Legacy.Range.forIn_eq_forIn_range', List.range', part0, part1, h1]
  generalize zeq b0 s0 a0 r0 = p
  generalize zeq b1 s1 a1 r1 = q
  cases p <;> cases q <;> simp
theorem eq24' (b0 b1 a0 a1 : ByteArray) (s0 s1 r0 r1 : Int) (w : World) :
    (Op.equalIn 9999 24 (.agg #[.string b0, .int .i64 s0, .string b1, .int .i64 s1]) (.agg #[.string a0, .int .i64 r0, .string a1, .int .i64 r1])).run Try.prog w =
      .ok (zeq b0 s0 a0 r0 && zeq b1 s1 a1 r1) w := eq24 9996 b0 b1 a0 a1 s0 s1 r0 r1 w
def SameD (b0 : ByteArray) (s0 : Int) (b1 : ByteArray) (s1 c l : Int) (d : Bool) (a0 : ByteArray) (r0 : Int) (a1 : ByteArray) (r1 c' l' : Int) (d' : Bool) : Prop :=
  b0 = a0 ∧ s0 = r0 ∧ b1 = a1 ∧ s1 = r1 ∧ c = c' ∧ l = l' ∧ d = d'
set_option maxHeartbeats 400000 in
theorem same_any (a0 a1 b0 b1 : ByteArray) (r0 r1 s0 s1 c l c' l' : Int) (d d' : Bool) (w : World) :
    Calls Try.prog 22 #[.agg #[.string b0, .int .i64 s0, .string b1, .int .i64 s1, .int .i64 c, .int .i64 l, .bool d], .agg #[.string a0, .int .i64 r0, .string a1, .int .i64 r1, .int .i64 c', .int .i64 l', .bool d']] w (RetP (SameD b0 s0 b1 s1 c l d a0 r0 a1 r1 c' l' d') w) := by
  cases hp : zeq b0 s0 a0 r0 && zeq b1 s1 a1 r1
  all_goals have he := fun w => eq24' b0 b1 a0 a1 s0 s1 r0 r1 w
  all_goals rw [hp] at he
  all_goals rw [Bool.eq_iff_iff, Bool.and_eq_true, zeq_iff, zeq_iff] at hp
  all_goals have Hp := Lib.hid hp; clear hp
  all_goals go_enter Try.func22, Try.ntmps22
  all_goals go_wp2
  all_goals go_ret
  all_goals refine ⟨_, rfl, ?_, by repeat' (first | (with_reducible exact Below.refl _ _) | (with_reducible assumption) | (with_reducible refine below_call ?_ (by with_reducible assumption)) | (with_reducible refine below_draws ?_ _) | (with_reducible refine Below.drew ?_) | (with_reducible refine Below.alloc ?_ ?_ _) | (with_reducible refine Below.setCell ?_ ?_ _) | omega | (simp; done) | (simp; omega))⟩
  all_goals have hp := Hp.out
  all_goals unfold SameD
  all_goals simp only [true_iff, false_iff, iff_true, iff_false, Bool.false_eq_true] at hp
  all_goals simp_all
set_option maxHeartbeats 1000000 in
theorem rsame_any (a0 a1 b0 b1 : ByteArray) (r0 r1 s0 s1 c l c' l' : Int) (d d' : Bool) (w : World) :
    Calls Try.prog 13 #[.agg #[.string b0, .int .i64 s0, .string b1, .int .i64 s1, .int .i64 c, .int .i64 l, .bool d], .agg #[.string a0, .int .i64 r0, .string a1, .int .i64 r1, .int .i64 c', .int .i64 l', .bool d']] w (RetP (SameD b0 s0 b1 s1 c l d a0 r0 a1 r1 c' l' d') w) := by
  go_enter Try.func13, Try.ntmps13
  go_wp2
  all_goals go_ret
  all_goals refine ⟨_, rfl, ?_, by repeat' (first | (with_reducible exact Below.refl _ _) | (with_reducible assumption) | (with_reducible refine below_call ?_ (by with_reducible assumption)) | (with_reducible refine below_draws ?_ _) | (with_reducible refine Below.drew ?_) | (with_reducible refine Below.alloc ?_ ?_ _) | (with_reducible refine Below.setCell ?_ ?_ _) | omega | (simp; done) | (simp; omega))⟩
  all_goals unfold SameD
  all_goals simp only [toList_eq_iff] at *
  all_goals simp_all
set_option maxHeartbeats 400000 in
theorem great_any (b0 b1 : ByteArray) (s0 s1 c l : Int) (d : Bool) (w : World) (h0 : b0.size ≤ maxLen) (h1 : b1.size ≤ maxLen) :
    Calls Try.prog 8 #[.agg #[.string b0, .int .i64 s0, .string b1, .int .i64 s1, .int .i64 c, .int .i64 l, .bool d]] w (RetP (262144 < b0.size ∨ 262144 < b1.size) w) := by
  unfold maxLen at h0 h1
  go_enter Try.func8, Try.ntmps8
  go_wp2
  all_goals go_ret
  all_goals refine ⟨_, rfl, ?_, by repeat' (first | (with_reducible exact Below.refl _ _) | (with_reducible assumption) | (with_reducible refine below_call ?_ (by with_reducible assumption)) | (with_reducible refine below_draws ?_ _) | (with_reducible refine Below.drew ?_) | (with_reducible refine Below.alloc ?_ ?_ _) | (with_reducible refine Below.setCell ?_ ?_ _) | omega | (simp; done) | (simp; omega))⟩
  all_goals try simp only [Bool.or_eq_true, decide_eq_true_eq, true_iff]
  all_goals omega
end Go.Proofs.Ytjgbnagacbiolaa
