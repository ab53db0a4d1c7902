import Derived.Test.YtjgbnagacbiolaaA
namespace Go.Proofs.Ytjgbnagacbiolaa
open Go.RowKit
set_option linter.unusedVariables false
set_option linter.unusedSimpArgs false
set_option maxHeartbeats 3200000 in
theorem do_yes0 (zb : ByteArray) (zs : Int) (b0 b1 b : ByteArray) (s0 s1 c l op zn n : Int) (d : Bool) (w : World) (h0 : b0.size ≤ maxLen) (h1 : b1.size ≤ maxLen) (h : Dk.ok ⟨⟨b0, s0⟩, ⟨b1, s1⟩, c, l, d⟩ = true) (hw : wrP b0.size b1.size op zn b.size n) (hd : d = false) (l' : Int) (hl : (0 < l ∧ l' = l - 1) ∨ (l < 0 ∧ l' = l)) (hlm : l ≤ 9223372036854775807) (hzn : zn = 0) (hf : b.size ≤ c - b0.size) (hz : behF b0 s0 op b n = ⟨zb, zs⟩) (hbs : b.size ≤ 4096) :
    Calls Try.prog 11 #[.agg #[.string b0, .int .i64 s0, .string b1, .int .i64 s1, .int .i64 c, .int .i64 l, .bool d], .agg #[.int .i8 op, .int .i64 zn, .string b, .int .i64 n]] w (RetD (⟨⟨zb, zs⟩, ⟨b1, s1⟩, c, l', d⟩, 0) w) := by
  obtain ⟨o1, o2, o3, o4, o5, o6, o7, o8⟩ := (ok_iff _ _ _ _ _ _ _).1 h
  have hh := Lib.hid h; clear h
  have hw' := Lib.hid hw
  have hzz := Lib.hid hz; clear hz
  have hn2 : op = 2 → 0 ≤ n := by unfold wrP at hw; omega
  have hn3 : op = 2 → n ≤ b0.size := by unfold wrP at hw; omega
  have hs0 : b0.size ≤ 131072 := by omega
  clear hw
  have Hn2 := Lib.hid hn2; have Hn3 := Lib.hid hn3; clear hn2 hn3
  subst hd
  subst hzn
  have hl' : (l == 0) = false := by rw [beq_eq_false_iff_ne]; omega
  have Hl := Lib.hid hl; clear hl
  go_enter Try.func11, Try.ntmps11
  go_wp2_with fail
  refine (check_yes _ _ _ _ _ _ _ _ h0 h1 hh.out).mono ?_
  rintro e w' ⟨rfl, hb⟩
  have k0 : Blk w' w.heap.size #[.string b0, .int .i64 s0, .string b1, .int .i64 s1, .int .i64 c, .int .i64 l, .bool false] 26 := by repeat' (first | (with_reducible assumption) | (with_reducible exact Blk.new _ _ _) | (with_reducible refine Blk.new' _ _ _ ?_) | (with_reducible refine Blk.alloc ?_ _) | (with_reducible refine Blk.drew ?_) | (with_reducible refine Blk.drewN ?_ _) | (with_reducible refine Blk.below ?_ (by with_reducible assumption)) | (simp; done))
  have k1 : Blk w' (w.heap.size + 1) #[.int .i8 op, .int .i64 0, .string b, .int .i64 n] 29 := by repeat' (first | (with_reducible assumption) | (with_reducible exact Blk.new _ _ _) | (with_reducible refine Blk.new' _ _ _ ?_) | (with_reducible refine Blk.alloc ?_ _) | (with_reducible refine Blk.drew ?_) | (with_reducible refine Blk.drewN ?_ _) | (with_reducible refine Blk.below ?_ (by with_reducible assumption)) | (simp; done))
  have k2 : Blk w' (w.heap.size + 1 + 1) #[.string ⟨#[]⟩, .int .i64 0, .string ⟨#[]⟩, .int .i64 0, .int .i64 0, .int .i64 0, .bool false] 26 := by repeat' (first | (with_reducible assumption) | (with_reducible exact Blk.new _ _ _) | (with_reducible refine Blk.new' _ _ _ ?_) | (with_reducible refine Blk.alloc ?_ _) | (with_reducible refine Blk.drew ?_) | (with_reducible refine Blk.drewN ?_ _) | (with_reducible refine Blk.below ?_ (by with_reducible assumption)) | (simp; done))
  have c0 := k0.cell; have f0 := k0.froz; have c1 := k1.cell; have f1 := k1.froz; have c2 := k2.cell; have f2 := k2.froz
  go_wp2_with fail
  refine (isw_yes _ _ _ _ _ _ _ _ _ _ _ _ h0 h1 hw'.out).mono ?_
  rintro e w2 ⟨rfl, hb2⟩
  have k0 : Blk w2 w.heap.size #[.string b0, .int .i64 s0, .string b1, .int .i64 s1, .int .i64 c, .int .i64 l, .bool false] 26 := by repeat' (first | (with_reducible assumption) | (with_reducible exact Blk.new _ _ _) | (with_reducible refine Blk.new' _ _ _ ?_) | (with_reducible refine Blk.alloc ?_ _) | (with_reducible refine Blk.drew ?_) | (with_reducible refine Blk.drewN ?_ _) | (with_reducible refine Blk.below ?_ (by with_reducible assumption)) | (simp; done))
  have k1 : Blk w2 (w.heap.size + 1) #[.int .i8 op, .int .i64 0, .string b, .int .i64 n] 29 := by repeat' (first | (with_reducible assumption) | (with_reducible exact Blk.new _ _ _) | (with_reducible refine Blk.new' _ _ _ ?_) | (with_reducible refine Blk.alloc ?_ _) | (with_reducible refine Blk.drew ?_) | (with_reducible refine Blk.drewN ?_ _) | (with_reducible refine Blk.below ?_ (by with_reducible assumption)) | (simp; done))
  have k2 : Blk w2 (w.heap.size + 1 + 1) #[.string ⟨#[]⟩, .int .i64 0, .string ⟨#[]⟩, .int .i64 0, .int .i64 0, .int .i64 0, .bool false] 26 := by repeat' (first | (with_reducible assumption) | (with_reducible exact Blk.new _ _ _) | (with_reducible refine Blk.new' _ _ _ ?_) | (with_reducible refine Blk.alloc ?_ _) | (with_reducible refine Blk.drew ?_) | (with_reducible refine Blk.drewN ?_ _) | (with_reducible refine Blk.below ?_ (by with_reducible assumption)) | (simp; done))
  have c0 := k0.cell; have f0 := k0.froz; have c1 := k1.cell; have f1 := k1.froz; have c2 := k2.cell; have f2 := k2.froz
  go_wp2_with fail
  go_quiet (fail)
  go_upto_region 10 with fail
  go_cut [4] (fun s4 wx => CutD w #[.string zb, .int .i64 zs, .string b1, .int .i64 s1, .int .i64 c, .int .i64 l, .bool false] s4 wx)
  case first =>
    go_region_with ((go_at_call 26; (
      refine (behind_z _ _ _ _ _ _ _ _ _ hzz.out hs0 hbs Hn2.out Hn3.out).mono ?_
      rintro e w3 ⟨rfl, hb3⟩
      have k03 : Blk w3 w.heap.size #[.string b0, .int .i64 s0, .string b1, .int .i64 s1, .int .i64 c, .int .i64 l, .bool false] 26 := Blk.below (Blk.drewN k0 _) hb3
      have k13 : Blk w3 (w.heap.size + 1) #[.int .i8 op, .int .i64 0, .string b, .int .i64 n] 29 := Blk.below (Blk.drewN k1 _) hb3
      have k23 : Blk w3 (w.heap.size + 1 + 1) #[.string ⟨#[]⟩, .int .i64 0, .string ⟨#[]⟩, .int .i64 0, .int .i64 0, .int .i64 0, .bool false] 26 := Blk.below (Blk.drewN k2 _) hb3
      have c03 := k03.cell
      have c23 := k23.cell
      have f23 := k23.froz
      have f03 := k03.froz
      have c13 := k13.cell)))
    all_goals go_wp2_with fail
    all_goals go_meet
    all_goals refine ⟨rfl, Blk.set (Blk.set k03 rfl) rfl, Blk.set' (Blk.set' k23 (by show w.heap.size + 1 + 1 ≠ w.heap.size; omega)) (by show w.heap.size + 1 + 1 ≠ w.heap.size; omega), ?_⟩
    all_goals (repeat' (first | (with_reducible exact Below.refl _ _) | (with_reducible assumption) | (with_reducible refine below_call ?_ (by with_reducible assumption)) | (with_reducible refine below_draws ?_ _) | (with_reducible refine Below.drew ?_) | (with_reducible refine Below.alloc ?_ ?_ _) | (with_reducible refine Below.setCell ?_ ?_ _) | omega | (simp; done) | (simp; omega)))
  case rest =>
    obtain ⟨rfl, k0c, k2c, hbc⟩ := hcut
    have c0c := k0c.cell; have f0c := k0c.froz; have c2c := k2c.cell; have f2c := k2c.froz
    rcases Hl.out with ⟨hl, rfl⟩ | ⟨hl, rfl⟩
    · go_wp2_with fail
      refine bodyPost_ret (v := .tuple #[Dk.v ⟨⟨zb, zs⟩, ⟨b1, s1⟩, c, l - 1, false⟩, .int .i64 0]) (by simp [results, Try.results11, go_sem, c0c, c2c, f0c, f2c]; done) rfl ⟨rfl, ?_⟩
      repeat' (first | (with_reducible exact Below.refl _ _) | (with_reducible assumption) | (with_reducible refine below_call ?_ (by with_reducible assumption)) | (with_reducible refine below_draws ?_ _) | (with_reducible refine Below.drew ?_) | (with_reducible refine Below.alloc ?_ ?_ _) | (with_reducible refine Below.setCell ?_ ?_ _) | omega | (simp; done) | (simp; omega))
    · go_wp2_with fail
      refine bodyPost_ret (v := .tuple #[Dk.v ⟨⟨zb, zs⟩, ⟨b1, s1⟩, c, l', false⟩, .int .i64 0]) (by simp [results, Try.results11, go_sem, c0c, c2c, f0c, f2c]; done) rfl ⟨rfl, ?_⟩
      repeat' (first | (with_reducible exact Below.refl _ _) | (with_reducible assumption) | (with_reducible refine below_call ?_ (by with_reducible assumption)) | (with_reducible refine below_draws ?_ _) | (with_reducible refine Below.drew ?_) | (with_reducible refine Below.alloc ?_ ?_ _) | (with_reducible refine Below.setCell ?_ ?_ _) | omega | (simp; done) | (simp; omega))
end Go.Proofs.Ytjgbnagacbiolaa
