import Derived.Test.YtjgbnagacbiolaaAL
import Derived.Test.YtjgbnagacbiolaaCC
import Derived.Test.YtjgbnagacbiolaaCR
import Derived.Test.YtjgbnagacbiolaaE
namespace Go.Proofs.Ytjgbnagacbiolaa
open Go.RowKit
set_option linter.unusedVariables false
set_option linter.unusedSimpArgs false
theorem keepF_cases (n : Int) (b : ByteArray) (s : Int) (h : s ≤ b.size) : (n < 0 ∧ keepF n ⟨b, s⟩ = 0) ∨ (0 ≤ n ∧ n ≤ b.size - s ∧ keepF n ⟨b, s⟩ = n) ∨ (b.size - s < n ∧ keepF n ⟨b, s⟩ = (b.size - s)) := by
  unfold keepF
  simp only []
  by_cases h1 : n < 0
  · left; exact ⟨h1, if_pos h1⟩
  · right
    rw [if_neg h1]
    by_cases h2 : n ≤ b.size - s
    · left; exact ⟨by omega, h2, if_pos h2⟩
    · right; exact ⟨by omega, if_neg h2⟩
theorem keepF_cases' (n : Int) (b : ByteArray) (s : Int) (h : s ≤ b.size) : (n ≤ 0 ∧ keepF n ⟨b, s⟩ = 0) ∨ (0 < n ∧ n ≤ b.size - s ∧ keepF n ⟨b, s⟩ = n) ∨ (b.size - s < n ∧ 0 < b.size - s ∧ keepF n ⟨b, s⟩ = (b.size - s)) ∨ (b.size - s < n ∧ b.size - s ≤ 0 ∧ keepF n ⟨b, s⟩ = 0) := by
  rcases keepF_cases n b s h with ⟨h1, h2⟩ | ⟨h1, h2, h3⟩ | ⟨h1, h2⟩
  · left; exact ⟨by omega, h2⟩
  · by_cases h4 : n ≤ 0
    · left; exact ⟨h4, by omega⟩
    · right; left; exact ⟨by omega, h2, h3⟩
  · by_cases h4 : 0 < b.size - s
    · right; right; left; exact ⟨h1, h4, h2⟩
    · right; right; right; exact ⟨h1, by omega, by omega⟩
theorem crashF_eq {b0 b1 : ByteArray} {s0 s1 c l a b m0 m1 : Int} {d : Bool} (hok : Dk.ok ⟨⟨b0, s0⟩, ⟨b1, s1⟩, c, l, d⟩ = true) (e0 : keepF a ⟨b0, s0⟩ = m0) (e1 : keepF b ⟨b1, s1⟩ = m1) :
    crashF ⟨⟨b0, s0⟩, ⟨b1, s1⟩, c, l, d⟩ a b = (⟨⟨b0.extract 0 (s0 + m0).toNat, s0 + m0⟩, ⟨b1.extract 0 (s1 + m1).toNat, s1 + m1⟩, c, -1, false⟩, 0) := by
  unfold crashF crashZ
  rw [if_neg (by simp [hok])]
  simp only [e0, e1]
theorem crash_any (b0 b1 : ByteArray) (s0 s1 c l a b : Int) (d : Bool) (w : World) (h0 : b0.size ≤ maxLen) (h1 : b1.size ≤ maxLen) :
    Calls Try.prog 16 #[.agg #[.string b0, .int .i64 s0, .string b1, .int .i64 s1, .int .i64 c, .int .i64 l, .bool d], .int .i64 a, .int .i64 b] w (RetD (crashF ⟨⟨b0, s0⟩, ⟨b1, s1⟩, c, l, d⟩ a b) w) := by
  cases hok : Dk.ok ⟨⟨b0, s0⟩, ⟨b1, s1⟩, c, l, d⟩
  · have := crash_no b0 b1 s0 s1 c l a b d w h0 h1 hok
    simpa [crashF, hok] using this
  obtain ⟨o1, o2, o3, o4, o5, o6, o7, o8⟩ := (ok_iff _ _ _ _ _ _ _).1 hok
  rcases keepF_cases a b0 s0 o5 with ⟨p0, e0⟩ | ⟨p0, q0, e0⟩ | ⟨p0, e0⟩
  · rcases keepF_cases b b1 s1 o8 with ⟨p1, e1⟩ | ⟨p1, q1, e1⟩ | ⟨p1, e1⟩
    · rw [crashF_eq hok e0 e1]; exact crash_neg_neg b0 b1 s0 s1 c l a b d w h0 h1 hok p0 p1
    · rw [crashF_eq hok e0 e1]; exact crash_neg_mid b0 b1 s0 s1 c l a b d w h0 h1 hok p0 p1 q1
    · rw [crashF_eq hok e0 e1]; exact crash_neg_big b0 b1 s0 s1 c l a b d w h0 h1 hok p0 p1
  · rcases keepF_cases b b1 s1 o8 with ⟨p1, e1⟩ | ⟨p1, q1, e1⟩ | ⟨p1, e1⟩
    · rw [crashF_eq hok e0 e1]; exact crash_mid_neg b0 b1 s0 s1 c l a b d w h0 h1 hok p0 q0 p1
    · rw [crashF_eq hok e0 e1]; exact crash_mid_mid b0 b1 s0 s1 c l a b d w h0 h1 hok p0 q0 p1 q1
    · rw [crashF_eq hok e0 e1]; exact crash_mid_big b0 b1 s0 s1 c l a b d w h0 h1 hok p0 q0 p1
  · rcases keepF_cases b b1 s1 o8 with ⟨p1, e1⟩ | ⟨p1, q1, e1⟩ | ⟨p1, e1⟩
    · rw [crashF_eq hok e0 e1]; exact crash_big_neg b0 b1 s0 s1 c l a b d w h0 h1 hok p0 p1
    · rw [crashF_eq hok e0 e1]; exact crash_big_mid b0 b1 s0 s1 c l a b d w h0 h1 hok p0 p1 q1
    · rw [crashF_eq hok e0 e1]; exact crash_big_big b0 b1 s0 s1 c l a b d w h0 h1 hok p0 p1
theorem rcrash_any (b0 b1 : ByteArray) (s0 s1 c l a b : Int) (d : Bool) (w : World) (h0 : b0.size ≤ maxLen) (h1 : b1.size ≤ maxLen) :
    Calls Try.prog 17 #[.agg #[.string b0, .int .i64 s0, .string b1, .int .i64 s1, .int .i64 c, .int .i64 l, .bool d], .int .i64 a, .int .i64 b] w (RetD (crashF ⟨⟨b0, s0⟩, ⟨b1, s1⟩, c, l, d⟩ a b) w) := by
  cases hok : Dk.ok ⟨⟨b0, s0⟩, ⟨b1, s1⟩, c, l, d⟩
  · have := rcrash_no b0 b1 s0 s1 c l a b d w h0 h1 hok
    simpa [crashF, hok] using this
  obtain ⟨o1, o2, o3, o4, o5, o6, o7, o8⟩ := (ok_iff _ _ _ _ _ _ _).1 hok
  rcases keepF_cases' a b0 s0 o5 with ⟨p0, e0⟩ | ⟨p0, q0, e0⟩ | ⟨p0, q0, e0⟩ | ⟨p0, q0, e0⟩
  · rcases keepF_cases' b b1 s1 o8 with ⟨p1, e1⟩ | ⟨p1, q1, e1⟩ | ⟨p1, q1, e1⟩ | ⟨p1, q1, e1⟩
    · rw [crashF_eq hok e0 e1]; exact rcrash_neg_neg b0 b1 s0 s1 c l a b d w h0 h1 hok p0 p1
    · rw [crashF_eq hok e0 e1]; exact rcrash_neg_mid b0 b1 s0 s1 c l a b d w h0 h1 hok p0 p1 q1
    · rw [crashF_eq hok e0 e1]; exact rcrash_neg_big b0 b1 s0 s1 c l a b d w h0 h1 hok p0 p1 q1
    · rw [crashF_eq hok e0 e1]; exact rcrash_neg_bz b0 b1 s0 s1 c l a b d w h0 h1 hok p0 p1 q1
  · rcases keepF_cases' b b1 s1 o8 with ⟨p1, e1⟩ | ⟨p1, q1, e1⟩ | ⟨p1, q1, e1⟩ | ⟨p1, q1, e1⟩
    · rw [crashF_eq hok e0 e1]; exact rcrash_mid_neg b0 b1 s0 s1 c l a b d w h0 h1 hok p0 q0 p1
    · rw [crashF_eq hok e0 e1]; exact rcrash_mid_mid b0 b1 s0 s1 c l a b d w h0 h1 hok p0 q0 p1 q1
    · rw [crashF_eq hok e0 e1]; exact rcrash_mid_big b0 b1 s0 s1 c l a b d w h0 h1 hok p0 q0 p1 q1
    · rw [crashF_eq hok e0 e1]; exact rcrash_mid_bz b0 b1 s0 s1 c l a b d w h0 h1 hok p0 q0 p1 q1
  · rcases keepF_cases' b b1 s1 o8 with ⟨p1, e1⟩ | ⟨p1, q1, e1⟩ | ⟨p1, q1, e1⟩ | ⟨p1, q1, e1⟩
    · rw [crashF_eq hok e0 e1]; exact rcrash_big_neg b0 b1 s0 s1 c l a b d w h0 h1 hok p0 q0 p1
    · rw [crashF_eq hok e0 e1]; exact rcrash_big_mid b0 b1 s0 s1 c l a b d w h0 h1 hok p0 q0 p1 q1
    · rw [crashF_eq hok e0 e1]; exact rcrash_big_big b0 b1 s0 s1 c l a b d w h0 h1 hok p0 q0 p1 q1
    · rw [crashF_eq hok e0 e1]; exact rcrash_big_bz b0 b1 s0 s1 c l a b d w h0 h1 hok p0 q0 p1 q1
  · rcases keepF_cases' b b1 s1 o8 with ⟨p1, e1⟩ | ⟨p1, q1, e1⟩ | ⟨p1, q1, e1⟩ | ⟨p1, q1, e1⟩
    · rw [crashF_eq hok e0 e1]; exact rcrash_bz_neg b0 b1 s0 s1 c l a b d w h0 h1 hok p0 q0 p1
    · rw [crashF_eq hok e0 e1]; exact rcrash_bz_mid b0 b1 s0 s1 c l a b d w h0 h1 hok p0 q0 p1 q1
    · rw [crashF_eq hok e0 e1]; exact rcrash_bz_big b0 b1 s0 s1 c l a b d w h0 h1 hok p0 q0 p1 q1
    · rw [crashF_eq hok e0 e1]; exact rcrash_bz_bz b0 b1 s0 s1 c l a b d w h0 h1 hok p0 q0 p1 q1
def ws3 : List Wr := [⟨0, 0, ⟨#[97]⟩, 0⟩, ⟨1, 0, ⟨#[]⟩, 0⟩, ⟨0, 0, ⟨#[98, 99]⟩, 0⟩]
theorem ex1 : newF 9 = (⟨⟨⟨#[]⟩, 0⟩, ⟨⟨#[]⟩, 0⟩, 9, -1, false⟩, 0) := by kernel_rfl
theorem ex2 : allF ⟨⟨⟨#[]⟩, 0⟩, ⟨⟨#[]⟩, 0⟩, 9, -1, false⟩ ws3 0 = (⟨⟨⟨#[97, 98, 99]⟩, 1⟩, ⟨⟨#[]⟩, 0⟩, 9, -1, false⟩, 3, 0) := by kernel_rfl
theorem ex3 : crashF ⟨⟨⟨#[97, 98, 99]⟩, 1⟩, ⟨⟨#[]⟩, 0⟩, 9, -1, false⟩ 1 0 = (⟨⟨⟨#[97, 98]⟩, 2⟩, ⟨⟨#[]⟩, 0⟩, 9, -1, false⟩, 0) := by kernel_rfl
theorem ex4 : doF ⟨⟨⟨#[97, 98, 99]⟩, 1⟩, ⟨⟨#[]⟩, 0⟩, 9, -1, false⟩ 0 1 ⟨#[48, 49, 50, 51, 52, 53, 54, 55, 56, 57]⟩ 0 = (zeroD, 31) := by kernel_rfl
theorem wsAt {w : World} {g : Nat} (h : Blk w g #[.int .i8 0, .int .i64 0, .string ⟨#[97]⟩, .int .i64 0, .int .i8 1, .int .i64 0, .string ⟨#[]⟩, .int .i64 0, .int .i8 0, .int .i64 0, .string ⟨#[98, 99]⟩, .int .i64 0] 29) : WrAt w g 0 ws3 := by
  intro i hi
  simp only [h.cell]
  have : i < 3 := hi
  match i, this with
  | 0, _ => exact ⟨rfl, rfl, rfl, rfl⟩
  | 1, _ => exact ⟨rfl, rfl, rfl, rfl⟩
  | 2, _ => exact ⟨rfl, rfl, rfl, rfl⟩
theorem new9 (w : World) : Calls Try.prog 18 #[.int .i64 9] w fun e w' => e = .returned (.tuple #[.agg #[.string ⟨#[]⟩, .int .i64 0, .string ⟨#[]⟩, .int .i64 0, .int .i64 9, .int .i64 (-1), .bool false], .int .i64 0]) ∧ Below w.heap.size w w' := by
  have := new_any 9 w
  rw [ex1] at this
  exact this
theorem all3 (w : World) (g : Nat) (h : Blk w g #[.int .i8 0, .int .i64 0, .string ⟨#[97]⟩, .int .i64 0, .int .i8 1, .int .i64 0, .string ⟨#[]⟩, .int .i64 0, .int .i8 0, .int .i64 0, .string ⟨#[98, 99]⟩, .int .i64 0] 29) :
    Calls Try.prog 23 #[.agg #[.string ⟨#[]⟩, .int .i64 0, .string ⟨#[]⟩, .int .i64 0, .int .i64 9, .int .i64 (-1), .bool false], .slice (some ⟨g, 0, none⟩) 3 3] w
      fun e w' => e = .returned (.tuple #[.agg #[.string ⟨#[97, 98, 99]⟩, .int .i64 1, .string ⟨#[]⟩, .int .i64 0, .int .i64 9, .int .i64 (-1), .bool false], .int .i64 3, .int .i64 0]) ∧ Below w.heap.size w w' := by
  have := all_any ⟨#[]⟩ ⟨#[]⟩ 0 0 9 (-1) false g 0 3 ws3 w (by unfold Dk.fit maxLen; exact ⟨by decide, by decide, by decide⟩) (wsAt h) h.lt (by decide) (by decide) (by intro x hx; simp [ws3] at hx; rcases hx with rfl | rfl | rfl <;> decide)
  rw [ex2] at this
  exact this
theorem crash9 (w : World) : Calls Try.prog 16 #[.agg #[.string ⟨#[97, 98, 99]⟩, .int .i64 1, .string ⟨#[]⟩, .int .i64 0, .int .i64 9, .int .i64 (-1), .bool false], .int .i64 1, .int .i64 0] w
      fun e w' => e = .returned (.tuple #[.agg #[.string ⟨#[97, 98]⟩, .int .i64 2, .string ⟨#[]⟩, .int .i64 0, .int .i64 9, .int .i64 (-1), .bool false], .int .i64 0]) ∧ Below w.heap.size w w' := by
  have := crash_any ⟨#[97, 98, 99]⟩ ⟨#[]⟩ 1 0 9 (-1) 1 0 false w (by unfold maxLen; decide) (by unfold maxLen; decide)
  rw [ex3] at this
  exact this
theorem do9 (w : World) : Calls Try.prog 11 #[.agg #[.string ⟨#[97, 98, 99]⟩, .int .i64 1, .string ⟨#[]⟩, .int .i64 0, .int .i64 9, .int .i64 (-1), .bool false], .agg #[.int .i8 0, .int .i64 1, .string ⟨#[48, 49, 50, 51, 52, 53, 54, 55, 56, 57]⟩, .int .i64 0]] w
      fun e w' => e = .returned (.tuple #[.agg #[.string ⟨#[]⟩, .int .i64 0, .string ⟨#[]⟩, .int .i64 0, .int .i64 0, .int .i64 0, .bool false], .int .i64 31]) ∧ Below w.heap.size w w' := by
  have := do_any ⟨#[97, 98, 99]⟩ ⟨#[]⟩ ⟨#[48, 49, 50, 51, 52, 53, 54, 55, 56, 57]⟩ 1 0 9 (-1) 0 1 0 false w (by unfold maxLen; decide) (by unfold maxLen; decide) (by decide) (by decide)
  rw [ex4] at this
  exact this
set_option maxHeartbeats 1600000 in
theorem wakes_any (w : World) : Calls Try.prog 10 #[] w (RetB true w) := by
  go_enter Try.func10, Try.ntmps10
  go_wp2_with fail
  refine (new9 _).mono ?_
  rintro e w1 ⟨rfl, hb1⟩
  have qw := hb1.size
  go_wp2_with fail
  refine (all3 _ _ (by repeat' (first | (with_reducible assumption) | (with_reducible exact Blk.new _ _ _) | (with_reducible refine Blk.new' _ _ _ ?_) | (with_reducible refine Blk.alloc ?_ _) | (with_reducible refine Blk.drew ?_) | (with_reducible refine Blk.drewN ?_ _) | (with_reducible refine Blk.below ?_ (by with_reducible assumption)) | (simp; done)))).mono ?_
  rintro e w2 ⟨rfl, hb2⟩
  have kd : Blk w2 w1.heap.size #[.string ⟨#[]⟩, .int .i64 0, .string ⟨#[]⟩, .int .i64 0, .int .i64 9, .int .i64 (-1), .bool false] 26 := by repeat' (first | (with_reducible assumption) | (with_reducible exact Blk.new _ _ _) | ((with_reducible refine Blk.new' _ _ _ ?_); simp; done) | (with_reducible refine Blk.alloc ?_ _) | (with_reducible refine Blk.drew ?_) | (with_reducible refine Blk.drewN ?_ _) | (with_reducible apply Blk.set) | (with_reducible refine Blk.set' ?_ ?_) | (with_reducible refine Blk.below ?_ (by with_reducible assumption)) | (show @Eq (Array Value) _ _; rfl) | (simp; done) | (simp; omega))
  have cd := kd.cell; have fd := kd.froz; have qd := kd.lt
  go_wp2_with fail
  refine (crash9 _).mono ?_
  rintro e w3 ⟨rfl, hb3⟩
  have kd3 : Blk w3 w1.heap.size #[.string ⟨#[97, 98, 99]⟩, .int .i64 1, .string ⟨#[]⟩, .int .i64 0, .int .i64 9, .int .i64 (-1), .bool false] 26 := by repeat' (first | (with_reducible assumption) | (with_reducible exact Blk.new _ _ _) | ((with_reducible refine Blk.new' _ _ _ ?_); simp; done) | (with_reducible refine Blk.alloc ?_ _) | (with_reducible refine Blk.drew ?_) | (with_reducible refine Blk.drewN ?_ _) | (with_reducible apply Blk.set) | (with_reducible refine Blk.set' ?_ ?_) | (with_reducible refine Blk.below ?_ (by with_reducible assumption)) | (show @Eq (Array Value) _ _; rfl) | (simp; done) | (simp; omega))
  have cd3 := kd3.cell; have fd3 := kd3.froz; have qd3 := kd3.lt
  clear cd fd
  go_wp2_with fail
  refine (do9 _).mono ?_
  rintro e w4 ⟨rfl, hb4⟩
  have kc : Blk w4 w3.heap.size #[.string ⟨#[97, 98]⟩, .int .i64 2, .string ⟨#[]⟩, .int .i64 0, .int .i64 9, .int .i64 (-1), .bool false] 26 := by repeat' (first | (with_reducible assumption) | (with_reducible exact Blk.new _ _ _) | ((with_reducible refine Blk.new' _ _ _ ?_); simp; done) | (with_reducible refine Blk.alloc ?_ _) | (with_reducible refine Blk.drew ?_) | (with_reducible refine Blk.drewN ?_ _) | (with_reducible apply Blk.set) | (with_reducible refine Blk.set' ?_ ?_) | (with_reducible refine Blk.below ?_ (by with_reducible assumption)) | (show @Eq (Array Value) _ _; rfl) | (simp; done) | (simp; omega))
  have cc := kc.cell; have fc := kc.froz; have qc := kc.lt
  clear cd3 fd3
  go_wp2_with fail
  go_ret
  refine ⟨rfl, ?_⟩
  repeat' (first | (with_reducible exact Below.refl _ _) | (with_reducible assumption) | (with_reducible refine below_call ?_ (by with_reducible assumption)) | (with_reducible refine below_draws ?_ _) | (with_reducible refine Below.drew ?_) | (with_reducible refine Below.alloc ?_ ?_ _) | (with_reducible refine Below.setCell ?_ ?_ _) | omega | (simp; done) | (simp; omega))
/-- GreatWrites: more operations than a hundred, or one with more bytes than 4096. -/
def GreatW (ws : List Wr) : Prop := 100 < ws.length ∨ ∃ x ∈ ws, 4096 < x.b.size
set_option maxHeartbeats 1600000 in
theorem greatw_slice (ab ao cap : Nat) (ws : List Wr) (w : World) (hw : WrAt w ab ao ws) (hcap : ws.length ≤ cap) (hcm : cap ≤ maxLen) (hsz : ∀ x ∈ ws, x.b.size ≤ maxLen) :
    Calls Try.prog 9 #[.slice (some ⟨ab, ao, none⟩) ws.length cap] w (RetP (GreatW ws) w) := by
  unfold maxLen at hcm hsz
  have Hw := Lib.hid hw; clear hw
  have Hs := Lib.hid hsz; clear hsz
  by_cases hlen : 100 < ws.length
  · go_enter Try.func9, Try.ntmps9
    go_wp2_with fail
    go_ret
    refine ⟨_, rfl, ?_, Below.refl _ _⟩
    simp [GreatW, hlen]
  · go_enter Try.func9, Try.ntmps9
    go_wp2_with fail
    go_loop [3] (fun i => ∃ k : Nat, k ≤ ws.length ∧ i = .int .i64 k ∧ Hid (∀ x ∈ ws.take k, x.b.size ≤ 4096)) (fun i => ws.length - (intOf i).toNat)
    case atStart => exact ⟨0, Nat.zero_le _, rfl, by intro x hx; simp at hx⟩
    case round =>
      obtain ⟨k, hk, rfl, Hk⟩ := hrel
      by_cases hlt : k < ws.length
      · obtain ⟨d0, d1, d2, d3⟩ := Hw.out k hlt
        have hm : ws[k] ∈ ws := List.getElem_mem hlt
        have hbs := Hs.out _ hm
        have hts : ws.take (k + 1) = ws.take k ++ [ws[k]] := by rw [List.take_succ_eq_append_getElem hlt]
        have Hts := Lib.hid hts; have Hm := Lib.hid hm; clear hts hm
        generalize ws[k] = wk at *
        obtain ⟨op, zn, b, n⟩ := wk
        simp only [] at d0 d1 d2 d3 hbs
        by_cases hb : 4096 < b.size
        · go_wp2_with fail
          go_ret
          refine ⟨_, rfl, ?_, Below.refl _ _⟩
          simp only [true_iff]
          exact .inr ⟨_, Hm.out, hb⟩
        · go_wp2_with fail
          go_round
          case rel =>
            refine ⟨k + 1, by omega, by go_num, ?_⟩
            intro x hx
            rw [Hts.out] at hx
            rcases List.mem_append.1 hx with hx | hx
            · exact Hk.out x hx
            · have hx := List.mem_singleton.1 hx
              subst hx
              simp only []; omega
          case measure => simp [intOf]; omega
      · go_wp2_with fail
        go_ret
        refine ⟨_, rfl, ?_, Below.refl _ _⟩
        have := Hk.out
        rw [List.take_of_length_le (by omega)] at this
        simp only [Bool.false_eq_true, false_iff]
        rintro (h | ⟨x, hx, h⟩)
        · omega
        · have := this x hx; omega
theorem greatw_nil (w : World) : Calls Try.prog 9 #[.slice none 0 0] w (RetP (GreatW []) w) := by
  go_enter Try.func9, Try.ntmps9
  go_wp2_with fail
  refine wp_loop_rounds 1 ?_
  rw [rounds_succ]
  go_wp2_with fail
  go_ret
  refine ⟨_, rfl, ?_, Below.refl _ _⟩
  simp [GreatW]
end Go.Proofs.Ytjgbnagacbiolaa
