/- Layer 1: an armed disk, its walks. -/
import Derived.Test.YtjgbnagacbiolaaPL
namespace Go.Proofs.Ytjgbnagacbiolaa
open Go.RowKit
set_option linter.unusedVariables false
set_option linter.unusedSimpArgs false
theorem doF_leftL {x : Dk} {op zn n : Int} {b : ByteArray} (hok : x.ok = true) (hw : wrP x.z0.b.size x.z1.b.size op zn b.size n) (hd : x.d = false) (hl : x.l = 0) : doF x op zn b n = ({ x with d := true }, 30) := by
  unfold doF
  rw [if_neg (by simp [hok]), if_neg (by simpa using hw), if_neg (by simp [hd]), if_pos hl]
theorem doF_fullL {x : Dk} {op zn n : Int} {b : ByteArray} (hok : x.ok = true) (hw : wrP x.z0.b.size x.z1.b.size op zn b.size n) (hd : x.d = false) (hl : x.l ≠ 0)
    (hf : (zn = 0 ∧ x.c - x.z0.b.size < b.size) ∨ (zn = 1 ∧ x.c - x.z1.b.size < b.size)) : doF x op zn b n = (zeroD, 31) := by
  unfold doF
  rw [if_neg (by simp [hok]), if_neg (by simpa using hw), if_neg (by simp [hd]), if_neg hl, if_pos hf]
theorem allF_ge : ∀ (ws : List Wr) (x : Dk) (k : Nat), k ≤ (allF x ws k).2.1
  | [], x, k => Nat.le_refl k
  | w :: ws, x, k => by
    unfold allF
    split
    · exact Nat.le_refl k
    · split
      · exact Nat.le_refl k
      · exact Nat.le_trans (Nat.le_succ k) (allF_ge ws _ (k + 1))
/-- What the law says of the disk that was not armed (A, ka, f), and of the one that was (X, kx, h), both from round k on. -/
def LeftP (k m : Nat) (A : Dk) (ka : Nat) (f : Int) (X : Dk) (kx : Nat) (h : Int) : Prop :=
  if ka < k + m ∨ (k + m = ka ∧ f ≠ 31) then h = f ∧ kx = ka ∧ X.z0 = A.z0 ∧ X.z1 = A.z1 else h = 30 ∧ kx = k + m ∧ X.d = true ∧ X.ok = true
theorem left_law : ∀ (ws : List Wr) (x : Dk) (k m : Nat), x.ok = true → x.d = false → x.l = -1 →
    LeftP k m (allF x ws k).1 (allF x ws k).2.1 (allF x ws k).2.2 (allF { x with l := m } ws k).1 (allF { x with l := m } ws k).2.1 (allF { x with l := m } ws k).2.2
  | [], x, k, m, _, _, _ => by
    unfold LeftP allF
    rw [if_pos (by simp only []; omega)]
    exact ⟨rfl, rfl, rfl, rfl⟩
  | w :: ws, x, k, m, hok, hd, hl => by
    have hok' : Dk.ok { x with l := (m : Int) } = true := hok
    by_cases hw : wrP x.z0.b.size x.z1.b.size w.op w.zn w.b.size w.n
    rotate_left 1
    · have e1 : doF x w.op w.zn w.b w.n = (zeroD, 2) := by unfold doF; rw [if_neg (by simp [hok]), if_pos hw]
      have e2 : doF { x with l := (m : Int) } w.op w.zn w.b w.n = (zeroD, 2) := by unfold doF; rw [if_neg (by simp [hok']), if_pos hw]
      unfold LeftP allF
      simp only [e1, e2]
      simp only [show ¬ ((2 : Int) = 30) by decide, show (2 : Int) ≠ 0 by decide, if_false, if_true, ne_eq, not_false_eq_true]
      rw [if_pos (by omega)]
      exact ⟨trivial, trivial, trivial, trivial⟩
    by_cases hf : (w.zn = 0 ∧ x.c - x.z0.b.size < w.b.size) ∨ (w.zn = 1 ∧ x.c - x.z1.b.size < w.b.size)
    · have e1 : doF x w.op w.zn w.b w.n = (zeroD, 31) := by
        unfold doF; rw [if_neg (by simp [hok]), if_neg (by simpa using hw), if_neg (by simp [hd]), if_neg (by omega), if_pos hf]
      cases m with
      | zero =>
        have e2 : doF { x with l := ((0 : Nat) : Int) } w.op w.zn w.b w.n = ({ x with l := ((0 : Nat) : Int), d := true }, 30) :=
          doF_leftL (x := { x with l := ((0 : Nat) : Int) }) hok' hw hd rfl
        unfold LeftP allF
        simp only [e1, e2]
        simp only [show ¬ ((31 : Int) = 30) by decide, show (31 : Int) ≠ 0 by decide, if_false, if_true, ne_eq, not_false_eq_true]
        rw [if_neg (by simp)]
        refine ⟨?_, ?_, ?_, ?_⟩ <;> first | trivial | rfl | exact hok
      | succ m =>
        have e2 : doF { x with l := ((m + 1 : Nat) : Int) } w.op w.zn w.b w.n = (zeroD, 31) :=
          doF_fullL (x := { x with l := ((m + 1 : Nat) : Int) }) hok' hw hd (by show ((m + 1 : Nat) : Int) ≠ 0; omega) hf
        unfold LeftP allF
        simp only [e1, e2]
        simp only [show ¬ ((31 : Int) = 30) by decide, show (31 : Int) ≠ 0 by decide, if_false, if_true, ne_eq, not_false_eq_true]
        rw [if_pos (by omega)]
        exact ⟨trivial, trivial, trivial, trivial⟩
    · obtain ⟨o, ho⟩ : ∃ o, doF x w.op w.zn w.b w.n = (o, 0) := ⟨_, doF_mk hok hw hd (by omega) hf⟩
      have hoo := doF_ok ho
      have hoz := (doF_zero ho).2.2.2.2.2
      have hol : o.l = -1 := by
        rcases hoz with ⟨_, h⟩ | ⟨_, h⟩ <;> rw [h] <;> simp only [hl] <;> decide
      cases m with
      | zero =>
        have e2 : doF { x with l := ((0 : Nat) : Int) } w.op w.zn w.b w.n = ({ x with l := ((0 : Nat) : Int), d := true }, 30) :=
          doF_leftL (x := { x with l := ((0 : Nat) : Int) }) hok' hw hd rfl
        have hge := allF_ge ws o (k + 1)
        unfold LeftP allF
        simp only [ho, e2]
        simp only [show ¬ ((0 : Int) = 30) by decide, if_false, if_true, ne_eq, not_true_eq_false]
        rw [if_neg (by omega)]
        refine ⟨?_, ?_, ?_, ?_⟩ <;> first | trivial | rfl | exact hok
      | succ m =>
        have e2 : doF { x with l := ((m + 1 : Nat) : Int) } w.op w.zn w.b w.n = ({ o with l := (m : Int) }, 0) := by
          rw [doF_mk (x := { x with l := ((m + 1 : Nat) : Int) }) hok' hw hd (by show ((m + 1 : Nat) : Int) ≠ 0; omega) hf]
          have h2 : (if (0 : Int) < ((m + 1 : Nat) : Int) then ((m + 1 : Nat) : Int) - 1 else ((m + 1 : Nat) : Int)) = (m : Int) := by rw [if_pos (by omega)]; omega
          rcases hoz with ⟨hz, h⟩ | ⟨hz, h⟩
          · rw [if_pos hz, h]; simp only [h2]
          · rw [if_neg (by omega), h]; simp only [h2]
        have ih := left_law ws o (k + 1) m hoo.1 hoo.2.2.2 hol
        unfold LeftP at ih ⊢
        rw [show allF x (w :: ws) k = allF o ws (k + 1) from by rw [allF]; simp only [ho]; simp, show allF { x with l := ((m + 1 : Nat) : Int) } (w :: ws) k = allF { o with l := (m : Int) } ws (k + 1) from by rw [allF]; simp only [e2]; simp]
        rw [show k + (m + 1) = k + 1 + m by omega]
        exact ih
theorem fz1 : newF 131072 = (⟨⟨⟨#[]⟩, 0⟩, ⟨⟨#[]⟩, 0⟩, 131072, -1, false⟩, 0) := by kernel_rfl
theorem fz2 : Dk.ok ⟨⟨⟨#[]⟩, 0⟩, ⟨⟨#[]⟩, 0⟩, 131072, -1, false⟩ = true := by kernel_rfl
theorem fz3 : Dk.fit ⟨⟨⟨#[]⟩, 0⟩, ⟨⟨#[]⟩, 0⟩, 131072, -1, false⟩ := fit_of_ok fz2 (by decide)
theorem fz4 (m : Nat) : armF ⟨⟨⟨#[]⟩, 0⟩, ⟨⟨#[]⟩, 0⟩, 131072, -1, false⟩ m = (⟨⟨⟨#[]⟩, 0⟩, ⟨⟨#[]⟩, 0⟩, 131072, (m : Int), false⟩, 0) := by
  unfold armF
  rw [if_neg (by simp [fz2])]
  simp only []
  rw [show max (m : Int) (-1) = m by omega]
theorem fz5 (m : Nat) (h : m < 50) : Dk.fit ⟨⟨⟨#[]⟩, 0⟩, ⟨⟨#[]⟩, 0⟩, 131072, (m : Int), false⟩ := by
  refine fit_of_ok (show Dk.ok ⟨⟨⟨#[]⟩, 0⟩, ⟨⟨#[]⟩, 0⟩, 131072, (m : Int), false⟩ = true from fz2) ?_
  show (m : Int) ≤ _
  omega
theorem tm1 (n : Int) : -50 < n.tmod 50 ∧ n.tmod 50 < 50 := by
  have h := Int.tmod_lt_of_pos n (show (0 : Int) < 50 by decide)
  have h2 := Int.lt_tmod_of_pos n (show (0 : Int) < 50 by decide)
  omega
theorem down_do {x : Dk} (hok : x.ok = true) (hd : x.d = true) : doF x 0 0 ⟨#[97]⟩ 0 = (zeroD, 30) := by
  unfold doF
  rw [if_neg (by simp [hok]), if_neg (by rw [Decidable.not_not]; unfold wrP; exact ⟨Or.inl rfl, Or.inl ⟨rfl, by decide, rfl⟩⟩), if_pos hd]
theorem down_crash {x : Dk} (hok : x.ok = true) : crashF x 0 0 = (⟨crashZ 0 x.z0, crashZ 0 x.z1, x.c, -1, false⟩, 0) := by
  unfold crashF
  rw [if_neg (by simp [hok])]
set_option maxHeartbeats 1600000 in
theorem lf_g (v : Value) (ws : List Wr) (n : Int) (W : World) (hv : SlOf W v ws) (hs : ∀ x ∈ ws, x.b.size ≤ maxLen) (hn1 : -9223372036854775808 ≤ n) (hn2 : n ≤ 9223372036854775807) (hg2 : GreatW ws) :
    Calls Try.prog 7 #[v, .int .i64 n] W (RetB true W) := by
  have Hv := Lib.hid hv; clear hv
  have Hs := Lib.hid hs; clear hs
  obtain ⟨t1, t2⟩ := tm1 n
  have Hg2 := Lib.hid hg2; clear hg2
  go_enter Try.func7, Try.ntmps7
  go_wp2_with fail
  refine (greatw_yes _ ws _ Hv.out Hs.out Hg2.out).mono ?_
  rintro en w1 ⟨rfl, hw1⟩
  have zhw1 := hw1.size
  try simp at zhw1
  go_wp2_with fail
  refine (wakes_any _).mono ?_
  rintro en wz ⟨rfl, hbz⟩
  have zz := hbz.size
  try simp at zz
  go_wp2_with fail
  go_ret
  refine ⟨rfl, ?_⟩
  repeat' (first | (with_reducible exact Below.refl _ _) | (with_reducible assumption) | (with_reducible refine below_call ?_ (by with_reducible assumption)) | (with_reducible refine below_draws ?_ _) | (with_reducible refine Below.drew ?_) | (with_reducible refine Below.alloc ?_ ?_ _) | (with_reducible refine Below.setCell ?_ ?_ _) | omega | (simp; done) | (simp; omega))
set_option maxHeartbeats 3200000 in
theorem lf_a (v : Value) (ws : List Wr) (n : Int) (W : World) (hv : SlOf W v ws) (hs : ∀ x ∈ ws, x.b.size ≤ maxLen) (hn1 : -9223372036854775808 ≤ n) (hn2 : n ≤ 9223372036854775807) (hg2 : ¬ GreatW ws) (m : Nat) (hm50 : m < 50) (hm : (n.tmod 50 + 50) % 50 = (m : Int)) (A0 A1 : ByteArray) (As At Ac Al f : Int) (Ad : Bool) (k : Nat) (hr1 : allF ⟨⟨⟨#[]⟩, 0⟩, ⟨⟨#[]⟩, 0⟩, 131072, -1, false⟩ ws 0 = (⟨⟨A0, As⟩, ⟨A1, At⟩, Ac, Al, Ad⟩, k, f)) (Xc Xl : Int) (Xd : Bool) (hr2 : allF ⟨⟨⟨#[]⟩, 0⟩, ⟨⟨#[]⟩, 0⟩, 131072, (m : Int), false⟩ ws 0 = (⟨⟨A0, As⟩, ⟨A1, At⟩, Xc, Xl, Xd⟩, k, f)) (hc : k < m) :
    Calls Try.prog 7 #[v, .int .i64 n] W (RetB true W) := by
  have Hv := Lib.hid hv; clear hv
  have Hs := Lib.hid hs; clear hs
  obtain ⟨t1, t2⟩ := tm1 n
  have Hg2 := Lib.hid hg2; clear hg2
  have Hm := Lib.hid hm; clear hm
  have Hr1 := Lib.hid hr1; clear hr1
  have Hr2 := Lib.hid hr2; clear hr2
  have he := fun w => eq24 9997 A0 A1 A0 A1 As At As At w
  have he' := fun w => eq24' A0 A1 A0 A1 As At As At w
  have z0 : zeq A0 As A0 As = true := (zeq_iff ..).2 ⟨rfl, rfl⟩
  have z1 : zeq A1 At A1 At = true := (zeq_iff ..).2 ⟨rfl, rfl⟩
  have q1 : decide ((k : Int) < (m : Int)) = true := by simp; omega
  have q2 : decide (k < m) = true := by simpa using hc
  go_enter Try.func7, Try.ntmps7
  go_wp2_with fail
  refine (greatw_no _ ws _ Hv.out Hs.out Hg2.out).mono ?_
  rintro en w1 ⟨rfl, hw1⟩
  have zhw1 := hw1.size
  try simp at zhw1
  go_wp2_with fail
  rw [Hm.out]
  refine (new_r _ fz1).mono ?_
  rintro en w2 ⟨rfl, hw2⟩
  have zhw2 := hw2.size
  try simp at zhw2
  go_wp2_with fail
  refine (all_r _ fz3 (Hv.out.below (by repeat' (first | (with_reducible exact Below.refl _ _) | (with_reducible assumption) | (with_reducible refine below_call ?_ (by with_reducible assumption)) | (with_reducible refine below_draws ?_ _) | (with_reducible refine Below.drew ?_) | (with_reducible refine Below.alloc ?_ ?_ _) | (with_reducible refine Below.setCell ?_ ?_ _) | omega | (simp; done) | (simp; omega)))) Hg2.out Hr1.out).mono ?_
  rintro en w3 ⟨rfl, hw3⟩
  have zhw3 := hw3.size
  try simp at zhw3
  have kd : Blk w3 w2.heap.size #[.string ⟨#[]⟩, .int .i64 0, .string ⟨#[]⟩, .int .i64 0, .int .i64 131072, .int .i64 (-1), .bool false] 26 := by repeat' (first | (with_reducible assumption) | (with_reducible exact Blk.new _ _ _) | ((with_reducible refine Blk.new' _ _ _ ?_); simp; done) | (with_reducible refine Blk.alloc ?_ _) | (with_reducible refine Blk.drew ?_) | (with_reducible refine Blk.drewN ?_ _) | (with_reducible apply Blk.set) | (with_reducible refine Blk.set' ?_ ?_) | (with_reducible refine Blk.below ?_ (by with_reducible assumption)) | (show @Eq (Array Value) _ _; rfl) | (simp; done) | (simp; omega))
  have cd := kd.cell; have fd := kd.froz; have qd := kd.lt
  go_wp2_with fail
  refine (arm_r _ fz3.1 fz3.2.1 (fz4 m)).mono ?_
  rintro en w4 ⟨rfl, hw4⟩
  have zhw4 := hw4.size
  try simp at zhw4
  clear cd fd qd
  have kd : Blk w4 w2.heap.size #[.string ⟨#[]⟩, .int .i64 0, .string ⟨#[]⟩, .int .i64 0, .int .i64 131072, .int .i64 (-1), .bool false] 26 := by repeat' (first | (with_reducible assumption) | (with_reducible exact Blk.new _ _ _) | ((with_reducible refine Blk.new' _ _ _ ?_); simp; done) | (with_reducible refine Blk.alloc ?_ _) | (with_reducible refine Blk.drew ?_) | (with_reducible refine Blk.drewN ?_ _) | (with_reducible apply Blk.set) | (with_reducible refine Blk.set' ?_ ?_) | (with_reducible refine Blk.below ?_ (by with_reducible assumption)) | (show @Eq (Array Value) _ _; rfl) | (simp; done) | (simp; omega))
  have ka : Blk w4 w3.heap.size #[.string A0, .int .i64 As, .string A1, .int .i64 At, .int .i64 Ac, .int .i64 Al, .bool Ad] 26 := by repeat' (first | (with_reducible assumption) | (with_reducible exact Blk.new _ _ _) | ((with_reducible refine Blk.new' _ _ _ ?_); simp; done) | (with_reducible refine Blk.alloc ?_ _) | (with_reducible refine Blk.drew ?_) | (with_reducible refine Blk.drewN ?_ _) | (with_reducible apply Blk.set) | (with_reducible refine Blk.set' ?_ ?_) | (with_reducible refine Blk.below ?_ (by with_reducible assumption)) | (show @Eq (Array Value) _ _; rfl) | (simp; done) | (simp; omega))
  have cd := kd.cell; have fd := kd.froz; have qd := kd.lt; have ca := ka.cell; have fa := ka.froz; have qa := ka.lt
  go_wp2_with fail
  refine (all_r _ (fz5 m hm50) (Hv.out.below (by repeat' (first | (with_reducible exact Below.refl _ _) | (with_reducible assumption) | (with_reducible refine below_call ?_ (by with_reducible assumption)) | (with_reducible refine below_draws ?_ _) | (with_reducible refine Below.drew ?_) | (with_reducible refine Below.alloc ?_ ?_ _) | (with_reducible refine Below.setCell ?_ ?_ _) | omega | (simp; done) | (simp; omega)))) Hg2.out Hr2.out).mono ?_
  rintro en w5 ⟨rfl, hw5⟩
  have zhw5 := hw5.size
  try simp at zhw5
  clear cd fd qd ca fa qa
  have kd : Blk w5 w2.heap.size #[.string ⟨#[]⟩, .int .i64 0, .string ⟨#[]⟩, .int .i64 0, .int .i64 131072, .int .i64 (-1), .bool false] 26 := by repeat' (first | (with_reducible assumption) | (with_reducible exact Blk.new _ _ _) | ((with_reducible refine Blk.new' _ _ _ ?_); simp; done) | (with_reducible refine Blk.alloc ?_ _) | (with_reducible refine Blk.drew ?_) | (with_reducible refine Blk.drewN ?_ _) | (with_reducible apply Blk.set) | (with_reducible refine Blk.set' ?_ ?_) | (with_reducible refine Blk.below ?_ (by with_reducible assumption)) | (show @Eq (Array Value) _ _; rfl) | (simp; done) | (simp; omega))
  have ka : Blk w5 w3.heap.size #[.string A0, .int .i64 As, .string A1, .int .i64 At, .int .i64 Ac, .int .i64 Al, .bool Ad] 26 := by repeat' (first | (with_reducible assumption) | (with_reducible exact Blk.new _ _ _) | ((with_reducible refine Blk.new' _ _ _ ?_); simp; done) | (with_reducible refine Blk.alloc ?_ _) | (with_reducible refine Blk.drew ?_) | (with_reducible refine Blk.drewN ?_ _) | (with_reducible apply Blk.set) | (with_reducible refine Blk.set' ?_ ?_) | (with_reducible refine Blk.below ?_ (by with_reducible assumption)) | (show @Eq (Array Value) _ _; rfl) | (simp; done) | (simp; omega))
  have km : Blk w5 w4.heap.size #[.string ⟨#[]⟩, .int .i64 0, .string ⟨#[]⟩, .int .i64 0, .int .i64 131072, .int .i64 m, .bool false] 26 := by repeat' (first | (with_reducible assumption) | (with_reducible exact Blk.new _ _ _) | ((with_reducible refine Blk.new' _ _ _ ?_); simp; done) | (with_reducible refine Blk.alloc ?_ _) | (with_reducible refine Blk.drew ?_) | (with_reducible refine Blk.drewN ?_ _) | (with_reducible apply Blk.set) | (with_reducible refine Blk.set' ?_ ?_) | (with_reducible refine Blk.below ?_ (by with_reducible assumption)) | (show @Eq (Array Value) _ _; rfl) | (simp; done) | (simp; omega))
  have cd := kd.cell; have fd := kd.froz; have qd := kd.lt; have ca := ka.cell; have fa := ka.froz; have qa := ka.lt; have cm := km.cell; have fm := km.froz; have qm := km.lt
  go_wp2_with fail
  refine (wakes_any _).mono ?_
  rintro en wz ⟨rfl, hbz⟩
  have zz := hbz.size
  try simp at zz
  go_wp2_with fail
  go_ret
  refine ⟨rfl, ?_⟩
  repeat' (first | (with_reducible exact Below.refl _ _) | (with_reducible assumption) | (with_reducible refine below_call ?_ (by with_reducible assumption)) | (with_reducible refine below_draws ?_ _) | (with_reducible refine Below.drew ?_) | (with_reducible refine Below.alloc ?_ ?_ _) | (with_reducible refine Below.setCell ?_ ?_ _) | omega | (simp; done) | (simp; omega))
set_option maxHeartbeats 3200000 in
theorem lf_b (v : Value) (ws : List Wr) (n : Int) (W : World) (hv : SlOf W v ws) (hs : ∀ x ∈ ws, x.b.size ≤ maxLen) (hn1 : -9223372036854775808 ≤ n) (hn2 : n ≤ 9223372036854775807) (hg2 : ¬ GreatW ws) (m : Nat) (hm50 : m < 50) (hm : (n.tmod 50 + 50) % 50 = (m : Int)) (A0 A1 : ByteArray) (As At Ac Al f : Int) (Ad : Bool) (k : Nat) (hr1 : allF ⟨⟨⟨#[]⟩, 0⟩, ⟨⟨#[]⟩, 0⟩, 131072, -1, false⟩ ws 0 = (⟨⟨A0, As⟩, ⟨A1, At⟩, Ac, Al, Ad⟩, k, f)) (Xc Xl : Int) (Xd : Bool) (hr2 : allF ⟨⟨⟨#[]⟩, 0⟩, ⟨⟨#[]⟩, 0⟩, 131072, (m : Int), false⟩ ws 0 = (⟨⟨A0, As⟩, ⟨A1, At⟩, Xc, Xl, Xd⟩, k, f)) (hc : m = k) (hf : f ≠ 31) :
    Calls Try.prog 7 #[v, .int .i64 n] W (RetB true W) := by
  have Hv := Lib.hid hv; clear hv
  have Hs := Lib.hid hs; clear hs
  obtain ⟨t1, t2⟩ := tm1 n
  have Hg2 := Lib.hid hg2; clear hg2
  have Hm := Lib.hid hm; clear hm
  have Hr1 := Lib.hid hr1; clear hr1
  have Hr2 := Lib.hid hr2; clear hr2
  have he := fun w => eq24 9997 A0 A1 A0 A1 As At As At w
  have he' := fun w => eq24' A0 A1 A0 A1 As At As At w
  have z0 : zeq A0 As A0 As = true := (zeq_iff ..).2 ⟨rfl, rfl⟩
  have z1 : zeq A1 At A1 At = true := (zeq_iff ..).2 ⟨rfl, rfl⟩
  subst hc
  have q3 : (f != 31) = true := by rw [bne_iff_ne]; exact hf
  have Hf := Lib.hid hf; clear hf
  go_enter Try.func7, Try.ntmps7
  go_wp2_with fail
  refine (greatw_no _ ws _ Hv.out Hs.out Hg2.out).mono ?_
  rintro en w1 ⟨rfl, hw1⟩
  have zhw1 := hw1.size
  try simp at zhw1
  go_wp2_with fail
  rw [Hm.out]
  refine (new_r _ fz1).mono ?_
  rintro en w2 ⟨rfl, hw2⟩
  have zhw2 := hw2.size
  try simp at zhw2
  go_wp2_with fail
  refine (all_r _ fz3 (Hv.out.below (by repeat' (first | (with_reducible exact Below.refl _ _) | (with_reducible assumption) | (with_reducible refine below_call ?_ (by with_reducible assumption)) | (with_reducible refine below_draws ?_ _) | (with_reducible refine Below.drew ?_) | (with_reducible refine Below.alloc ?_ ?_ _) | (with_reducible refine Below.setCell ?_ ?_ _) | omega | (simp; done) | (simp; omega)))) Hg2.out Hr1.out).mono ?_
  rintro en w3 ⟨rfl, hw3⟩
  have zhw3 := hw3.size
  try simp at zhw3
  have kd : Blk w3 w2.heap.size #[.string ⟨#[]⟩, .int .i64 0, .string ⟨#[]⟩, .int .i64 0, .int .i64 131072, .int .i64 (-1), .bool false] 26 := by repeat' (first | (with_reducible assumption) | (with_reducible exact Blk.new _ _ _) | ((with_reducible refine Blk.new' _ _ _ ?_); simp; done) | (with_reducible refine Blk.alloc ?_ _) | (with_reducible refine Blk.drew ?_) | (with_reducible refine Blk.drewN ?_ _) | (with_reducible apply Blk.set) | (with_reducible refine Blk.set' ?_ ?_) | (with_reducible refine Blk.below ?_ (by with_reducible assumption)) | (show @Eq (Array Value) _ _; rfl) | (simp; done) | (simp; omega))
  have cd := kd.cell; have fd := kd.froz; have qd := kd.lt
  go_wp2_with fail
  refine (arm_r _ fz3.1 fz3.2.1 (fz4 m)).mono ?_
  rintro en w4 ⟨rfl, hw4⟩
  have zhw4 := hw4.size
  try simp at zhw4
  clear cd fd qd
  have kd : Blk w4 w2.heap.size #[.string ⟨#[]⟩, .int .i64 0, .string ⟨#[]⟩, .int .i64 0, .int .i64 131072, .int .i64 (-1), .bool false] 26 := by repeat' (first | (with_reducible assumption) | (with_reducible exact Blk.new _ _ _) | ((with_reducible refine Blk.new' _ _ _ ?_); simp; done) | (with_reducible refine Blk.alloc ?_ _) | (with_reducible refine Blk.drew ?_) | (with_reducible refine Blk.drewN ?_ _) | (with_reducible apply Blk.set) | (with_reducible refine Blk.set' ?_ ?_) | (with_reducible refine Blk.below ?_ (by with_reducible assumption)) | (show @Eq (Array Value) _ _; rfl) | (simp; done) | (simp; omega))
  have ka : Blk w4 w3.heap.size #[.string A0, .int .i64 As, .string A1, .int .i64 At, .int .i64 Ac, .int .i64 Al, .bool Ad] 26 := by repeat' (first | (with_reducible assumption) | (with_reducible exact Blk.new _ _ _) | ((with_reducible refine Blk.new' _ _ _ ?_); simp; done) | (with_reducible refine Blk.alloc ?_ _) | (with_reducible refine Blk.drew ?_) | (with_reducible refine Blk.drewN ?_ _) | (with_reducible apply Blk.set) | (with_reducible refine Blk.set' ?_ ?_) | (with_reducible refine Blk.below ?_ (by with_reducible assumption)) | (show @Eq (Array Value) _ _; rfl) | (simp; done) | (simp; omega))
  have cd := kd.cell; have fd := kd.froz; have qd := kd.lt; have ca := ka.cell; have fa := ka.froz; have qa := ka.lt
  go_wp2_with fail
  refine (all_r _ (fz5 m hm50) (Hv.out.below (by repeat' (first | (with_reducible exact Below.refl _ _) | (with_reducible assumption) | (with_reducible refine below_call ?_ (by with_reducible assumption)) | (with_reducible refine below_draws ?_ _) | (with_reducible refine Below.drew ?_) | (with_reducible refine Below.alloc ?_ ?_ _) | (with_reducible refine Below.setCell ?_ ?_ _) | omega | (simp; done) | (simp; omega)))) Hg2.out Hr2.out).mono ?_
  rintro en w5 ⟨rfl, hw5⟩
  have zhw5 := hw5.size
  try simp at zhw5
  clear cd fd qd ca fa qa
  have kd : Blk w5 w2.heap.size #[.string ⟨#[]⟩, .int .i64 0, .string ⟨#[]⟩, .int .i64 0, .int .i64 131072, .int .i64 (-1), .bool false] 26 := by repeat' (first | (with_reducible assumption) | (with_reducible exact Blk.new _ _ _) | ((with_reducible refine Blk.new' _ _ _ ?_); simp; done) | (with_reducible refine Blk.alloc ?_ _) | (with_reducible refine Blk.drew ?_) | (with_reducible refine Blk.drewN ?_ _) | (with_reducible apply Blk.set) | (with_reducible refine Blk.set' ?_ ?_) | (with_reducible refine Blk.below ?_ (by with_reducible assumption)) | (show @Eq (Array Value) _ _; rfl) | (simp; done) | (simp; omega))
  have ka : Blk w5 w3.heap.size #[.string A0, .int .i64 As, .string A1, .int .i64 At, .int .i64 Ac, .int .i64 Al, .bool Ad] 26 := by repeat' (first | (with_reducible assumption) | (with_reducible exact Blk.new _ _ _) | ((with_reducible refine Blk.new' _ _ _ ?_); simp; done) | (with_reducible refine Blk.alloc ?_ _) | (with_reducible refine Blk.drew ?_) | (with_reducible refine Blk.drewN ?_ _) | (with_reducible apply Blk.set) | (with_reducible refine Blk.set' ?_ ?_) | (with_reducible refine Blk.below ?_ (by with_reducible assumption)) | (show @Eq (Array Value) _ _; rfl) | (simp; done) | (simp; omega))
  have km : Blk w5 w4.heap.size #[.string ⟨#[]⟩, .int .i64 0, .string ⟨#[]⟩, .int .i64 0, .int .i64 131072, .int .i64 m, .bool false] 26 := by repeat' (first | (with_reducible assumption) | (with_reducible exact Blk.new _ _ _) | ((with_reducible refine Blk.new' _ _ _ ?_); simp; done) | (with_reducible refine Blk.alloc ?_ _) | (with_reducible refine Blk.drew ?_) | (with_reducible refine Blk.drewN ?_ _) | (with_reducible apply Blk.set) | (with_reducible refine Blk.set' ?_ ?_) | (with_reducible refine Blk.below ?_ (by with_reducible assumption)) | (show @Eq (Array Value) _ _; rfl) | (simp; done) | (simp; omega))
  have cd := kd.cell; have fd := kd.froz; have qd := kd.lt; have ca := ka.cell; have fa := ka.froz; have qa := ka.lt; have cm := km.cell; have fm := km.froz; have qm := km.lt
  go_wp2_with fail
  refine (wakes_any _).mono ?_
  rintro en wz ⟨rfl, hbz⟩
  have zz := hbz.size
  try simp at zz
  go_wp2_with fail
  go_ret
  refine ⟨rfl, ?_⟩
  repeat' (first | (with_reducible exact Below.refl _ _) | (with_reducible assumption) | (with_reducible refine below_call ?_ (by with_reducible assumption)) | (with_reducible refine below_draws ?_ _) | (with_reducible refine Below.drew ?_) | (with_reducible refine Below.alloc ?_ ?_ _) | (with_reducible refine Below.setCell ?_ ?_ _) | omega | (simp; done) | (simp; omega))
set_option maxHeartbeats 3200000 in
theorem lf_c (v : Value) (ws : List Wr) (n : Int) (W : World) (hv : SlOf W v ws) (hs : ∀ x ∈ ws, x.b.size ≤ maxLen) (hn1 : -9223372036854775808 ≤ n) (hn2 : n ≤ 9223372036854775807) (hg2 : ¬ GreatW ws) (m : Nat) (hm50 : m < 50) (hm : (n.tmod 50 + 50) % 50 = (m : Int)) (A0 A1 : ByteArray) (As At Ac Al : Int) (Ad : Bool) (k : Nat) (hr1 : allF ⟨⟨⟨#[]⟩, 0⟩, ⟨⟨#[]⟩, 0⟩, 131072, -1, false⟩ ws 0 = (⟨⟨A0, As⟩, ⟨A1, At⟩, Ac, Al, Ad⟩, k, 31)) (X0 X1 : ByteArray) (Xs Xt Xc Xl : Int) (hr2 : allF ⟨⟨⟨#[]⟩, 0⟩, ⟨⟨#[]⟩, 0⟩, 131072, (m : Int), false⟩ ws 0 = (⟨⟨X0, Xs⟩, ⟨X1, Xt⟩, Xc, Xl, true⟩, m, 30)) (hok : Dk.ok ⟨⟨X0, Xs⟩, ⟨X1, Xt⟩, Xc, Xl, true⟩ = true) (hXl : Xl ≤ 9223372036854775807) (C0 C1 : ByteArray) (Cs Ct Cc : Int) (hr3 : crashF ⟨⟨X0, Xs⟩, ⟨X1, Xt⟩, Xc, Xl, true⟩ 0 0 = (⟨⟨C0, Cs⟩, ⟨C1, Ct⟩, Cc, -1, false⟩, 0)) (hc : m = k) :
    Calls Try.prog 7 #[v, .int .i64 n] W (RetB true W) := by
  have Hv := Lib.hid hv; clear hv
  have Hs := Lib.hid hs; clear hs
  obtain ⟨t1, t2⟩ := tm1 n
  have Hg2 := Lib.hid hg2; clear hg2
  have Hm := Lib.hid hm; clear hm
  have Hr1 := Lib.hid hr1; clear hr1
  have Hr2 := Lib.hid hr2; clear hr2
  obtain ⟨xa, xb, xc⟩ := fit_of_ok hok hXl
  have Hok := Lib.hid hok; clear hok
  have Hr3 := Lib.hid hr3; clear hr3
  have Hd := Lib.hid (down_do Hok.out rfl)
  subst hc
  go_enter Try.func7, Try.ntmps7
  go_wp2_with fail
  refine (greatw_no _ ws _ Hv.out Hs.out Hg2.out).mono ?_
  rintro en w1 ⟨rfl, hw1⟩
  have zhw1 := hw1.size
  try simp at zhw1
  go_wp2_with fail
  rw [Hm.out]
  refine (new_r _ fz1).mono ?_
  rintro en w2 ⟨rfl, hw2⟩
  have zhw2 := hw2.size
  try simp at zhw2
  go_wp2_with fail
  refine (all_r _ fz3 (Hv.out.below (by repeat' (first | (with_reducible exact Below.refl _ _) | (with_reducible assumption) | (with_reducible refine below_call ?_ (by with_reducible assumption)) | (with_reducible refine below_draws ?_ _) | (with_reducible refine Below.drew ?_) | (with_reducible refine Below.alloc ?_ ?_ _) | (with_reducible refine Below.setCell ?_ ?_ _) | omega | (simp; done) | (simp; omega)))) Hg2.out Hr1.out).mono ?_
  rintro en w3 ⟨rfl, hw3⟩
  have zhw3 := hw3.size
  try simp at zhw3
  have kd : Blk w3 w2.heap.size #[.string ⟨#[]⟩, .int .i64 0, .string ⟨#[]⟩, .int .i64 0, .int .i64 131072, .int .i64 (-1), .bool false] 26 := by repeat' (first | (with_reducible assumption) | (with_reducible exact Blk.new _ _ _) | ((with_reducible refine Blk.new' _ _ _ ?_); simp; done) | (with_reducible refine Blk.alloc ?_ _) | (with_reducible refine Blk.drew ?_) | (with_reducible refine Blk.drewN ?_ _) | (with_reducible apply Blk.set) | (with_reducible refine Blk.set' ?_ ?_) | (with_reducible refine Blk.below ?_ (by with_reducible assumption)) | (show @Eq (Array Value) _ _; rfl) | (simp; done) | (simp; omega))
  have cd := kd.cell; have fd := kd.froz; have qd := kd.lt
  go_wp2_with fail
  refine (arm_r _ fz3.1 fz3.2.1 (fz4 m)).mono ?_
  rintro en w4 ⟨rfl, hw4⟩
  have zhw4 := hw4.size
  try simp at zhw4
  clear cd fd qd
  have kd : Blk w4 w2.heap.size #[.string ⟨#[]⟩, .int .i64 0, .string ⟨#[]⟩, .int .i64 0, .int .i64 131072, .int .i64 (-1), .bool false] 26 := by repeat' (first | (with_reducible assumption) | (with_reducible exact Blk.new _ _ _) | ((with_reducible refine Blk.new' _ _ _ ?_); simp; done) | (with_reducible refine Blk.alloc ?_ _) | (with_reducible refine Blk.drew ?_) | (with_reducible refine Blk.drewN ?_ _) | (with_reducible apply Blk.set) | (with_reducible refine Blk.set' ?_ ?_) | (with_reducible refine Blk.below ?_ (by with_reducible assumption)) | (show @Eq (Array Value) _ _; rfl) | (simp; done) | (simp; omega))
  have ka : Blk w4 w3.heap.size #[.string A0, .int .i64 As, .string A1, .int .i64 At, .int .i64 Ac, .int .i64 Al, .bool Ad] 26 := by repeat' (first | (with_reducible assumption) | (with_reducible exact Blk.new _ _ _) | ((with_reducible refine Blk.new' _ _ _ ?_); simp; done) | (with_reducible refine Blk.alloc ?_ _) | (with_reducible refine Blk.drew ?_) | (with_reducible refine Blk.drewN ?_ _) | (with_reducible apply Blk.set) | (with_reducible refine Blk.set' ?_ ?_) | (with_reducible refine Blk.below ?_ (by with_reducible assumption)) | (show @Eq (Array Value) _ _; rfl) | (simp; done) | (simp; omega))
  have cd := kd.cell; have fd := kd.froz; have qd := kd.lt; have ca := ka.cell; have fa := ka.froz; have qa := ka.lt
  go_wp2_with fail
  refine (all_r _ (fz5 m hm50) (Hv.out.below (by repeat' (first | (with_reducible exact Below.refl _ _) | (with_reducible assumption) | (with_reducible refine below_call ?_ (by with_reducible assumption)) | (with_reducible refine below_draws ?_ _) | (with_reducible refine Below.drew ?_) | (with_reducible refine Below.alloc ?_ ?_ _) | (with_reducible refine Below.setCell ?_ ?_ _) | omega | (simp; done) | (simp; omega)))) Hg2.out Hr2.out).mono ?_
  rintro en w5 ⟨rfl, hw5⟩
  have zhw5 := hw5.size
  try simp at zhw5
  clear cd fd qd ca fa qa
  have kd : Blk w5 w2.heap.size #[.string ⟨#[]⟩, .int .i64 0, .string ⟨#[]⟩, .int .i64 0, .int .i64 131072, .int .i64 (-1), .bool false] 26 := by repeat' (first | (with_reducible assumption) | (with_reducible exact Blk.new _ _ _) | ((with_reducible refine Blk.new' _ _ _ ?_); simp; done) | (with_reducible refine Blk.alloc ?_ _) | (with_reducible refine Blk.drew ?_) | (with_reducible refine Blk.drewN ?_ _) | (with_reducible apply Blk.set) | (with_reducible refine Blk.set' ?_ ?_) | (with_reducible refine Blk.below ?_ (by with_reducible assumption)) | (show @Eq (Array Value) _ _; rfl) | (simp; done) | (simp; omega))
  have ka : Blk w5 w3.heap.size #[.string A0, .int .i64 As, .string A1, .int .i64 At, .int .i64 Ac, .int .i64 Al, .bool Ad] 26 := by repeat' (first | (with_reducible assumption) | (with_reducible exact Blk.new _ _ _) | ((with_reducible refine Blk.new' _ _ _ ?_); simp; done) | (with_reducible refine Blk.alloc ?_ _) | (with_reducible refine Blk.drew ?_) | (with_reducible refine Blk.drewN ?_ _) | (with_reducible apply Blk.set) | (with_reducible refine Blk.set' ?_ ?_) | (with_reducible refine Blk.below ?_ (by with_reducible assumption)) | (show @Eq (Array Value) _ _; rfl) | (simp; done) | (simp; omega))
  have km : Blk w5 w4.heap.size #[.string ⟨#[]⟩, .int .i64 0, .string ⟨#[]⟩, .int .i64 0, .int .i64 131072, .int .i64 m, .bool false] 26 := by repeat' (first | (with_reducible assumption) | (with_reducible exact Blk.new _ _ _) | ((with_reducible refine Blk.new' _ _ _ ?_); simp; done) | (with_reducible refine Blk.alloc ?_ _) | (with_reducible refine Blk.drew ?_) | (with_reducible refine Blk.drewN ?_ _) | (with_reducible apply Blk.set) | (with_reducible refine Blk.set' ?_ ?_) | (with_reducible refine Blk.below ?_ (by with_reducible assumption)) | (show @Eq (Array Value) _ _; rfl) | (simp; done) | (simp; omega))
  have cd := kd.cell; have fd := kd.froz; have qd := kd.lt; have ca := ka.cell; have fa := ka.froz; have qa := ka.lt; have cm := km.cell; have fm := km.froz; have qm := km.lt
  go_wp2_with fail
  refine (do_r _ xa xb (by decide) xc Hd.out).mono ?_
  rintro en w6 ⟨rfl, hw6⟩
  have zhw6 := hw6.size
  try simp at zhw6
  clear cd fd qd ca fa qa cm fm qm
  have kx : Blk w6 w5.heap.size #[.string X0, .int .i64 Xs, .string X1, .int .i64 Xt, .int .i64 Xc, .int .i64 Xl, .bool true] 26 := by repeat' (first | (with_reducible assumption) | (with_reducible exact Blk.new _ _ _) | ((with_reducible refine Blk.new' _ _ _ ?_); simp; done) | (with_reducible refine Blk.alloc ?_ _) | (with_reducible refine Blk.drew ?_) | (with_reducible refine Blk.drewN ?_ _) | (with_reducible apply Blk.set) | (with_reducible refine Blk.set' ?_ ?_) | (with_reducible refine Blk.below ?_ (by with_reducible assumption)) | (show @Eq (Array Value) _ _; rfl) | (simp; done) | (simp; omega))
  have cx := kx.cell; have fx := kx.froz; have qx := kx.lt
  go_wp2_with fail
  refine (crash_r _ xa xb Hr3.out).mono ?_
  rintro en w7 ⟨rfl, hw7⟩
  have zhw7 := hw7.size
  try simp at zhw7
  clear cx fx qx
  have kx : Blk w7 w5.heap.size #[.string X0, .int .i64 Xs, .string X1, .int .i64 Xt, .int .i64 Xc, .int .i64 Xl, .bool true] 26 := by repeat' (first | (with_reducible assumption) | (with_reducible exact Blk.new _ _ _) | ((with_reducible refine Blk.new' _ _ _ ?_); simp; done) | (with_reducible refine Blk.alloc ?_ _) | (with_reducible refine Blk.drew ?_) | (with_reducible refine Blk.drewN ?_ _) | (with_reducible apply Blk.set) | (with_reducible refine Blk.set' ?_ ?_) | (with_reducible refine Blk.below ?_ (by with_reducible assumption)) | (show @Eq (Array Value) _ _; rfl) | (simp; done) | (simp; omega))
  have cx := kx.cell; have fx := kx.froz; have qx := kx.lt
  go_wp2_with fail
  refine (wakes_any _).mono ?_
  rintro en wz ⟨rfl, hbz⟩
  have zz := hbz.size
  try simp at zz
  go_wp2_with fail
  go_ret
  refine ⟨rfl, ?_⟩
  repeat' (first | (with_reducible exact Below.refl _ _) | (with_reducible assumption) | (with_reducible refine below_call ?_ (by with_reducible assumption)) | (with_reducible refine below_draws ?_ _) | (with_reducible refine Below.drew ?_) | (with_reducible refine Below.alloc ?_ ?_ _) | (with_reducible refine Below.setCell ?_ ?_ _) | omega | (simp; done) | (simp; omega))
set_option maxHeartbeats 3200000 in
theorem lf_d (v : Value) (ws : List Wr) (n : Int) (W : World) (hv : SlOf W v ws) (hs : ∀ x ∈ ws, x.b.size ≤ maxLen) (hn1 : -9223372036854775808 ≤ n) (hn2 : n ≤ 9223372036854775807) (hg2 : ¬ GreatW ws) (m : Nat) (hm50 : m < 50) (hm : (n.tmod 50 + 50) % 50 = (m : Int)) (A0 A1 : ByteArray) (As At Ac Al f : Int) (Ad : Bool) (k : Nat) (hr1 : allF ⟨⟨⟨#[]⟩, 0⟩, ⟨⟨#[]⟩, 0⟩, 131072, -1, false⟩ ws 0 = (⟨⟨A0, As⟩, ⟨A1, At⟩, Ac, Al, Ad⟩, k, f)) (X0 X1 : ByteArray) (Xs Xt Xc Xl : Int) (hr2 : allF ⟨⟨⟨#[]⟩, 0⟩, ⟨⟨#[]⟩, 0⟩, 131072, (m : Int), false⟩ ws 0 = (⟨⟨X0, Xs⟩, ⟨X1, Xt⟩, Xc, Xl, true⟩, m, 30)) (hok : Dk.ok ⟨⟨X0, Xs⟩, ⟨X1, Xt⟩, Xc, Xl, true⟩ = true) (hXl : Xl ≤ 9223372036854775807) (C0 C1 : ByteArray) (Cs Ct Cc : Int) (hr3 : crashF ⟨⟨X0, Xs⟩, ⟨X1, Xt⟩, Xc, Xl, true⟩ 0 0 = (⟨⟨C0, Cs⟩, ⟨C1, Ct⟩, Cc, -1, false⟩, 0)) (hc : m < k) :
    Calls Try.prog 7 #[v, .int .i64 n] W (RetB true W) := by
  have Hv := Lib.hid hv; clear hv
  have Hs := Lib.hid hs; clear hs
  obtain ⟨t1, t2⟩ := tm1 n
  have Hg2 := Lib.hid hg2; clear hg2
  have Hm := Lib.hid hm; clear hm
  have Hr1 := Lib.hid hr1; clear hr1
  have Hr2 := Lib.hid hr2; clear hr2
  obtain ⟨xa, xb, xc⟩ := fit_of_ok hok hXl
  have Hok := Lib.hid hok; clear hok
  have Hr3 := Lib.hid hr3; clear hr3
  have Hd := Lib.hid (down_do Hok.out rfl)
  have q1 : decide ((k : Int) < (m : Int)) = false := by simp; omega
  have q2 : decide (k < m) = false := by simp; omega
  have q4 : ((m : Int) == (k : Int)) = false := by rw [beq_eq_false_iff_ne]; omega
  have q5 : (m == k) = false := by rw [beq_eq_false_iff_ne]; omega
  have Hc := Lib.hid hc; clear hc
  go_enter Try.func7, Try.ntmps7
  go_wp2_with fail
  refine (greatw_no _ ws _ Hv.out Hs.out Hg2.out).mono ?_
  rintro en w1 ⟨rfl, hw1⟩
  have zhw1 := hw1.size
  try simp at zhw1
  go_wp2_with fail
  rw [Hm.out]
  refine (new_r _ fz1).mono ?_
  rintro en w2 ⟨rfl, hw2⟩
  have zhw2 := hw2.size
  try simp at zhw2
  go_wp2_with fail
  refine (all_r _ fz3 (Hv.out.below (by repeat' (first | (with_reducible exact Below.refl _ _) | (with_reducible assumption) | (with_reducible refine below_call ?_ (by with_reducible assumption)) | (with_reducible refine below_draws ?_ _) | (with_reducible refine Below.drew ?_) | (with_reducible refine Below.alloc ?_ ?_ _) | (with_reducible refine Below.setCell ?_ ?_ _) | omega | (simp; done) | (simp; omega)))) Hg2.out Hr1.out).mono ?_
  rintro en w3 ⟨rfl, hw3⟩
  have zhw3 := hw3.size
  try simp at zhw3
  have kd : Blk w3 w2.heap.size #[.string ⟨#[]⟩, .int .i64 0, .string ⟨#[]⟩, .int .i64 0, .int .i64 131072, .int .i64 (-1), .bool false] 26 := by repeat' (first | (with_reducible assumption) | (with_reducible exact Blk.new _ _ _) | ((with_reducible refine Blk.new' _ _ _ ?_); simp; done) | (with_reducible refine Blk.alloc ?_ _) | (with_reducible refine Blk.drew ?_) | (with_reducible refine Blk.drewN ?_ _) | (with_reducible apply Blk.set) | (with_reducible refine Blk.set' ?_ ?_) | (with_reducible refine Blk.below ?_ (by with_reducible assumption)) | (show @Eq (Array Value) _ _; rfl) | (simp; done) | (simp; omega))
  have cd := kd.cell; have fd := kd.froz; have qd := kd.lt
  go_wp2_with fail
  refine (arm_r _ fz3.1 fz3.2.1 (fz4 m)).mono ?_
  rintro en w4 ⟨rfl, hw4⟩
  have zhw4 := hw4.size
  try simp at zhw4
  clear cd fd qd
  have kd : Blk w4 w2.heap.size #[.string ⟨#[]⟩, .int .i64 0, .string ⟨#[]⟩, .int .i64 0, .int .i64 131072, .int .i64 (-1), .bool false] 26 := by repeat' (first | (with_reducible assumption) | (with_reducible exact Blk.new _ _ _) | ((with_reducible refine Blk.new' _ _ _ ?_); simp; done) | (with_reducible refine Blk.alloc ?_ _) | (with_reducible refine Blk.drew ?_) | (with_reducible refine Blk.drewN ?_ _) | (with_reducible apply Blk.set) | (with_reducible refine Blk.set' ?_ ?_) | (with_reducible refine Blk.below ?_ (by with_reducible assumption)) | (show @Eq (Array Value) _ _; rfl) | (simp; done) | (simp; omega))
  have ka : Blk w4 w3.heap.size #[.string A0, .int .i64 As, .string A1, .int .i64 At, .int .i64 Ac, .int .i64 Al, .bool Ad] 26 := by repeat' (first | (with_reducible assumption) | (with_reducible exact Blk.new _ _ _) | ((with_reducible refine Blk.new' _ _ _ ?_); simp; done) | (with_reducible refine Blk.alloc ?_ _) | (with_reducible refine Blk.drew ?_) | (with_reducible refine Blk.drewN ?_ _) | (with_reducible apply Blk.set) | (with_reducible refine Blk.set' ?_ ?_) | (with_reducible refine Blk.below ?_ (by with_reducible assumption)) | (show @Eq (Array Value) _ _; rfl) | (simp; done) | (simp; omega))
  have cd := kd.cell; have fd := kd.froz; have qd := kd.lt; have ca := ka.cell; have fa := ka.froz; have qa := ka.lt
  go_wp2_with fail
  refine (all_r _ (fz5 m hm50) (Hv.out.below (by repeat' (first | (with_reducible exact Below.refl _ _) | (with_reducible assumption) | (with_reducible refine below_call ?_ (by with_reducible assumption)) | (with_reducible refine below_draws ?_ _) | (with_reducible refine Below.drew ?_) | (with_reducible refine Below.alloc ?_ ?_ _) | (with_reducible refine Below.setCell ?_ ?_ _) | omega | (simp; done) | (simp; omega)))) Hg2.out Hr2.out).mono ?_
  rintro en w5 ⟨rfl, hw5⟩
  have zhw5 := hw5.size
  try simp at zhw5
  clear cd fd qd ca fa qa
  have kd : Blk w5 w2.heap.size #[.string ⟨#[]⟩, .int .i64 0, .string ⟨#[]⟩, .int .i64 0, .int .i64 131072, .int .i64 (-1), .bool false] 26 := by repeat' (first | (with_reducible assumption) | (with_reducible exact Blk.new _ _ _) | ((with_reducible refine Blk.new' _ _ _ ?_); simp; done) | (with_reducible refine Blk.alloc ?_ _) | (with_reducible refine Blk.drew ?_) | (with_reducible refine Blk.drewN ?_ _) | (with_reducible apply Blk.set) | (with_reducible refine Blk.set' ?_ ?_) | (with_reducible refine Blk.below ?_ (by with_reducible assumption)) | (show @Eq (Array Value) _ _; rfl) | (simp; done) | (simp; omega))
  have ka : Blk w5 w3.heap.size #[.string A0, .int .i64 As, .string A1, .int .i64 At, .int .i64 Ac, .int .i64 Al, .bool Ad] 26 := by repeat' (first | (with_reducible assumption) | (with_reducible exact Blk.new _ _ _) | ((with_reducible refine Blk.new' _ _ _ ?_); simp; done) | (with_reducible refine Blk.alloc ?_ _) | (with_reducible refine Blk.drew ?_) | (with_reducible refine Blk.drewN ?_ _) | (with_reducible apply Blk.set) | (with_reducible refine Blk.set' ?_ ?_) | (with_reducible refine Blk.below ?_ (by with_reducible assumption)) | (show @Eq (Array Value) _ _; rfl) | (simp; done) | (simp; omega))
  have km : Blk w5 w4.heap.size #[.string ⟨#[]⟩, .int .i64 0, .string ⟨#[]⟩, .int .i64 0, .int .i64 131072, .int .i64 m, .bool false] 26 := by repeat' (first | (with_reducible assumption) | (with_reducible exact Blk.new _ _ _) | ((with_reducible refine Blk.new' _ _ _ ?_); simp; done) | (with_reducible refine Blk.alloc ?_ _) | (with_reducible refine Blk.drew ?_) | (with_reducible refine Blk.drewN ?_ _) | (with_reducible apply Blk.set) | (with_reducible refine Blk.set' ?_ ?_) | (with_reducible refine Blk.below ?_ (by with_reducible assumption)) | (show @Eq (Array Value) _ _; rfl) | (simp; done) | (simp; omega))
  have cd := kd.cell; have fd := kd.froz; have qd := kd.lt; have ca := ka.cell; have fa := ka.froz; have qa := ka.lt; have cm := km.cell; have fm := km.froz; have qm := km.lt
  go_wp2_with fail
  refine (do_r _ xa xb (by decide) xc Hd.out).mono ?_
  rintro en w6 ⟨rfl, hw6⟩
  have zhw6 := hw6.size
  try simp at zhw6
  clear cd fd qd ca fa qa cm fm qm
  have kx : Blk w6 w5.heap.size #[.string X0, .int .i64 Xs, .string X1, .int .i64 Xt, .int .i64 Xc, .int .i64 Xl, .bool true] 26 := by repeat' (first | (with_reducible assumption) | (with_reducible exact Blk.new _ _ _) | ((with_reducible refine Blk.new' _ _ _ ?_); simp; done) | (with_reducible refine Blk.alloc ?_ _) | (with_reducible refine Blk.drew ?_) | (with_reducible refine Blk.drewN ?_ _) | (with_reducible apply Blk.set) | (with_reducible refine Blk.set' ?_ ?_) | (with_reducible refine Blk.below ?_ (by with_reducible assumption)) | (show @Eq (Array Value) _ _; rfl) | (simp; done) | (simp; omega))
  have cx := kx.cell; have fx := kx.froz; have qx := kx.lt
  go_wp2_with fail
  refine (crash_r _ xa xb Hr3.out).mono ?_
  rintro en w7 ⟨rfl, hw7⟩
  have zhw7 := hw7.size
  try simp at zhw7
  clear cx fx qx
  have kx : Blk w7 w5.heap.size #[.string X0, .int .i64 Xs, .string X1, .int .i64 Xt, .int .i64 Xc, .int .i64 Xl, .bool true] 26 := by repeat' (first | (with_reducible assumption) | (with_reducible exact Blk.new _ _ _) | ((with_reducible refine Blk.new' _ _ _ ?_); simp; done) | (with_reducible refine Blk.alloc ?_ _) | (with_reducible refine Blk.drew ?_) | (with_reducible refine Blk.drewN ?_ _) | (with_reducible apply Blk.set) | (with_reducible refine Blk.set' ?_ ?_) | (with_reducible refine Blk.below ?_ (by with_reducible assumption)) | (show @Eq (Array Value) _ _; rfl) | (simp; done) | (simp; omega))
  have cx := kx.cell; have fx := kx.froz; have qx := kx.lt
  go_wp2_with fail
  refine (wakes_any _).mono ?_
  rintro en wz ⟨rfl, hbz⟩
  have zz := hbz.size
  try simp at zz
  go_wp2_with fail
  go_ret
  refine ⟨rfl, ?_⟩
  repeat' (first | (with_reducible exact Below.refl _ _) | (with_reducible assumption) | (with_reducible refine below_call ?_ (by with_reducible assumption)) | (with_reducible refine below_draws ?_ _) | (with_reducible refine Below.drew ?_) | (with_reducible refine Below.alloc ?_ ?_ _) | (with_reducible refine Below.setCell ?_ ?_ _) | omega | (simp; done) | (simp; omega))
end Go.Proofs.Ytjgbnagacbiolaa
