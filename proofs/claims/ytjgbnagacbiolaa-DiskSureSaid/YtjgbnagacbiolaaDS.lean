import Derived.Test.YtjgbnagacbiolaaPF
namespace Go.Proofs.Ytjgbnagacbiolaa
open Go.RowKit
set_option linter.unusedVariables false
set_option linter.unusedSimpArgs false
/-- The slice's numbers. -/
def ClAt (W : World) (cv : Option Addr) (xs : List Int) : Prop := ∀ i, i < xs.length → ∃ cb co, cv = some ⟨cb, co, none⟩ ∧ cb < W.heap.size ∧ ∀ (j : Nat) (hj : j < xs.length), W.cell? ⟨cb, co + j, none⟩ = some (.int .i64 xs[j])
/-- SureInv -/
def SureInv (W : World) (nd : Nat) (len : Nat) (i : Value) (wr : World) : Prop :=
  ∃ k : Nat, k ≤ len ∧ i = .int .i64 k ∧ ∃ (b0 : ByteArray) (s0 : Int) (b1 : ByteArray) (s1 c : Int) (u0 u1 : ByteArray), Dk.ok ⟨⟨b0, s0⟩, ⟨b1, s1⟩, c, -1, false⟩ = true ∧ PF ⟨b0, s0⟩ u0 ∧ PF ⟨b1, s1⟩ u1 ∧
    Blk wr nd #[.string b0, .int .i64 s0, .string b1, .int .i64 s1, .int .i64 c, .int .i64 (-1), .bool false] 26 ∧ Blk wr (nd + 1) #[.string u0, .string u1] 47 ∧ Below W.heap.size W wr
/-- Behind 'd = o', ahead of 'sure[..] = ""'. -/
def SureR1 (W : World) (nd nw : Nat) (e op zn n : Int) (b : ByteArray) (s : Value) (wx : World) : Prop :=
  s = .pointer (some ⟨nd, 0, none⟩) ∧ ∃ (b0 : ByteArray) (s0 : Int) (b1 : ByteArray) (s1 c : Int) (u0 u1 : ByteArray), Dk.ok ⟨⟨b0, s0⟩, ⟨b1, s1⟩, c, -1, false⟩ = true ∧
    (¬ (e = 0 ∧ op = 2 ∧ zn = 0) → PF ⟨b0, s0⟩ u0) ∧ (¬ (e = 0 ∧ op = 2 ∧ zn = 1) → PF ⟨b1, s1⟩ u1) ∧ (e = 0 → zn = 0 ∨ zn = 1) ∧
    Blk wx nd #[.string b0, .int .i64 s0, .string b1, .int .i64 s1, .int .i64 c, .int .i64 (-1), .bool false] 26 ∧ Blk wx (nd + 1) #[.string u0, .string u1] 47 ∧ Blk wx nw #[.int .i8 op, .int .i64 zn, .string b, .int .i64 n] 29 ∧ Below W.heap.size W wx
/-- Behind 'sure[..] = ""', and behind the crash. -/
def SureR2 (W : World) (nd : Nat) (s : Value) (wx : World) : Prop :=
  s = .pointer (some ⟨nd, 0, none⟩) ∧ ∃ (b0 : ByteArray) (s0 : Int) (b1 : ByteArray) (s1 c : Int) (u0 u1 : ByteArray), Dk.ok ⟨⟨b0, s0⟩, ⟨b1, s1⟩, c, -1, false⟩ = true ∧ PF ⟨b0, s0⟩ u0 ∧ PF ⟨b1, s1⟩ u1 ∧
    Blk wx nd #[.string b0, .int .i64 s0, .string b1, .int .i64 s1, .int .i64 c, .int .i64 (-1), .bool false] 26 ∧ Blk wx (nd + 1) #[.string u0, .string u1] 47 ∧ Below W.heap.size W wx
theorem down_crash' {x : Dk} (hok : x.ok = true) (a b : Int) : crashF x a b = (⟨crashZ a x.z0, crashZ b x.z1, x.c, -1, false⟩, 0) := by
  unfold crashF
  rw [if_neg (by simp [hok])]
theorem newR (n : Int) (h : 0 ≤ n ∧ n ≤ 131072) : newF n = (⟨⟨⟨#[]⟩, 0⟩, ⟨⟨#[]⟩, 0⟩, n, -1, false⟩, 0) := by rw [newF, if_pos h]
theorem newOk (n : Int) (h : 0 ≤ n ∧ n ≤ 131072) : Dk.ok ⟨⟨⟨#[]⟩, 0⟩, ⟨⟨#[]⟩, 0⟩, n, -1, false⟩ = true := by
  rw [ok_iff, show (⟨#[]⟩ : ByteArray).size = 0 from rfl]; omega
set_option maxRecDepth 100000 in
set_option maxHeartbeats 64000000 in
theorem su_ok (most : Int) (lb lo lcap : Nat) (ws : List Wr) (cv : Option Addr) (ccap : Nat) (xs : List Int) (W : World) (hw : WrAt W lb lo ws) (hlb : lb < W.heap.size) (h1 : ws.length ≤ lcap) (h2 : lcap ≤ maxLen) (hs : ∀ x ∈ ws, x.b.size ≤ maxLen) (hcl : xs.length ≤ ccap) (hg2 : ¬ GreatW ws) (hc : ClAt W cv xs) (hcs : xs.length ≤ 200) (hm : 0 ≤ most ∧ most ≤ 131072) :
    Calls Try.prog 5 #[.int .i64 most, .slice (some ⟨lb, lo, none⟩) ws.length lcap, .slice cv xs.length ccap] W (RetB true W) := by
  have hl100 : ws.length ≤ 100 := by unfold GreatW at hg2; omega
  have Hv : Hid (SlOf W (.slice (some ⟨lb, lo, none⟩) ws.length lcap) ws) := .inr ⟨lb, lo, lcap, rfl, hw, hlb, h1, h2⟩
  have Hw := Lib.hid hw; clear hw
  have Hs := Lib.hid hs; clear hs
  have Hc := Lib.hid hc; clear hc
  have Hb : Hid (∀ x ∈ ws, x.b.size ≤ 4096) := fun x hx => by
    by_cases hb : 4096 < x.b.size
    · exact absurd (Or.inr ⟨x, hx, hb⟩) hg2
    · omega
  have Hg2 := Lib.hid hg2; clear hg2
  have Hnr := Lib.hid (newR most hm)
  have Hnk := Lib.hid (newOk most hm)
  unfold maxLen at h2
  go_enter Try.func5, Try.ntmps5
  go_wp2_with fail
  refine (greatw_no _ ws _ Hv.out Hs.out Hg2.out).mono ?_
  rintro en w1 ⟨rfl, hw1⟩
  have zhw1 := hw1.size
  try simp at zhw1
  go_wp2_with fail
  refine (new_r _ Hnr.out).mono ?_
  rintro en w2 ⟨rfl, hw2⟩
  have zhw2 := hw2.size
  try simp at zhw2
  go_wp2_with fail
  go_loopw [42] (fun i wr => SureInv W w2.heap.size ws.length i wr) (fun i _ => ws.length - (intOf i).toNat)
  case atStart =>
    refine ⟨0, Nat.zero_le _, rfl, ⟨#[]⟩, 0, ⟨#[]⟩, 0, most, ⟨#[]⟩, ⟨#[]⟩, Hnk.out, pf_empty _ (by decide) (by decide), pf_empty _ (by decide) (by decide), ?_, ?_, ?_⟩
    · repeat' (first | (with_reducible assumption) | (with_reducible exact Blk.new _ _ _) | ((with_reducible refine Blk.new' _ _ _ ?_); simp; done) | (with_reducible refine Blk.alloc ?_ _) | (with_reducible refine Blk.drew ?_) | (with_reducible refine Blk.drewN ?_ _) | (with_reducible apply Blk.set) | (with_reducible refine Blk.set' ?_ ?_) | (with_reducible refine Blk.below ?_ (by with_reducible assumption)) | (show @Eq (Array Value) _ _; rfl) | (simp; done) | (simp; omega))
    · repeat' (first | (with_reducible assumption) | (with_reducible exact Blk.new _ _ _) | ((with_reducible refine Blk.new' _ _ _ ?_); simp; done) | (with_reducible refine Blk.alloc ?_ _) | (with_reducible refine Blk.drew ?_) | (with_reducible refine Blk.drewN ?_ _) | (with_reducible apply Blk.set) | (with_reducible refine Blk.set' ?_ ?_) | (with_reducible refine Blk.below ?_ (by with_reducible assumption)) | (show @Eq (Array Value) _ _; rfl) | (simp; done) | (simp; omega))
    · repeat' (first | (with_reducible exact Below.refl _ _) | (with_reducible assumption) | (with_reducible refine below_call ?_ (by with_reducible assumption)) | (with_reducible refine below_draws ?_ _) | (with_reducible refine Below.drew ?_) | (with_reducible refine Below.alloc ?_ ?_ _) | (with_reducible refine Below.setCell ?_ ?_ _) | omega | (simp; done) | (simp; omega))
  case round =>
    obtain ⟨k, hk, rfl, b0, s0, b1, s1, c, u0, u1, hok, hp0, hp1, kd, ks, hb⟩ := hrel
    have cd := kd.cell; have fd := kd.froz; have qd := kd.lt
    have cs' := ks.cell; have fs := ks.froz; have qs := ks.lt
    have Hok := Lib.hid hok; clear hok
    have Hp0 := Lib.hid hp0; clear hp0
    have Hp1 := Lib.hid hp1; clear hp1
    by_cases hlt : k < ws.length
    · obtain ⟨d0, d1, d2, d3⟩ := (Hw.out.below hlb hb) k hlt
      have hbs := Hb.out _ (List.getElem_mem hlt)
      generalize ws[k] = wk at *
      obtain ⟨op, zn, b, n⟩ := wk
      simp only [] at d0 d1 d2 d3 hbs
      obtain ⟨fa, fb, fc⟩ := fit_of_ok Hok.out (show (-1 : Int) ≤ 9223372036854775807 by decide)
      have qlb : lb < wr.heap.size := by have := hb.size; omega
      obtain ⟨⟨⟨⟨z0, r0⟩, ⟨z1, r1⟩, zc, zl, zd⟩, e⟩, hr⟩ : ∃ r, doF ⟨⟨b0, s0⟩, ⟨b1, s1⟩, c, -1, false⟩ op zn b n = r := ⟨_, rfl⟩
      have Hr := Lib.hid hr; clear hr
      have hkk : (k : Int) + 1 ≤ 100 := by omega
      go_wp2_with fail
      refine (do_r _ fa fb hbs fc Hr.out).mono ?_
      rintro en w3 ⟨rfl, hw3⟩
      have zhw3 := hw3.size
      try simp at zhw3
      have kd : Blk w3 w2.heap.size #[.string b0, .int .i64 s0, .string b1, .int .i64 s1, .int .i64 c, .int .i64 (-1), .bool false] 26 := by repeat' (first | (with_reducible assumption) | (with_reducible exact Blk.new _ _ _) | ((with_reducible refine Blk.new' _ _ _ ?_); simp; done) | (with_reducible refine Blk.alloc ?_ _) | (with_reducible refine Blk.drew ?_) | (with_reducible refine Blk.drewN ?_ _) | (with_reducible apply Blk.set) | (with_reducible refine Blk.set' ?_ ?_) | (with_reducible refine Blk.below ?_ (by with_reducible assumption)) | (show @Eq (Array Value) _ _; rfl) | (simp; done) | (simp; omega))
      have ks : Blk w3 (w2.heap.size + 1) #[.string u0, .string u1] 47 := by repeat' (first | (with_reducible assumption) | (with_reducible exact Blk.new _ _ _) | ((with_reducible refine Blk.new' _ _ _ ?_); simp; done) | (with_reducible refine Blk.alloc ?_ _) | (with_reducible refine Blk.drew ?_) | (with_reducible refine Blk.drewN ?_ _) | (with_reducible apply Blk.set) | (with_reducible refine Blk.set' ?_ ?_) | (with_reducible refine Blk.below ?_ (by with_reducible assumption)) | (show @Eq (Array Value) _ _; rfl) | (simp; done) | (simp; omega))
      have kw : Blk w3 wr.heap.size #[.int .i8 op, .int .i64 zn, .string b, .int .i64 n] 29 := by repeat' (first | (with_reducible assumption) | (with_reducible exact Blk.new _ _ _) | ((with_reducible refine Blk.new' _ _ _ ?_); simp; done) | (with_reducible refine Blk.alloc ?_ _) | (with_reducible refine Blk.drew ?_) | (with_reducible refine Blk.drewN ?_ _) | (with_reducible apply Blk.set) | (with_reducible refine Blk.set' ?_ ?_) | (with_reducible refine Blk.below ?_ (by with_reducible assumption)) | (show @Eq (Array Value) _ _; rfl) | (simp; done) | (simp; omega))
      have cd := kd.cell; have fd := kd.froz; have qd := kd.lt; have cs := ks.cell; have fs := ks.froz; have qs := ks.lt; have cw := kw.cell; have fw := kw.froz; have qw := kw.lt
      go_upto_if 54 with fail
      go_cut [7] (fun s7 wx => SureR1 W w2.heap.size wr.heap.size e op zn n b s7 wx)
      case first =>
        by_cases he : e = 0
        · subst he
          obtain ⟨p1, p2, p3, p4, p5, p6⟩ := pf_do Hr.out Hp0.out Hp1.out
          obtain rfl : zl = -1 := p2
          obtain rfl : zd = false := p3
          have Hp := Lib.hid (And.intro p1 (And.intro p4 (And.intro p5 p6))); clear p1 p4 p5 p6
          go_wp2_with fail
          go_meet
          obtain ⟨p1, p4, p5, p6⟩ := Hp.out
          refine ⟨rfl, z0, r0, z1, r1, zc, u0, u1, p1, fun h => ?_, fun h => ?_, fun _ => p4, ?_, ?_, ?_, ?_⟩
          · rw [if_neg (by omega)] at p5; exact p5
          · rw [if_neg (by omega)] at p6; exact p6
          · repeat' (first | (with_reducible assumption) | (with_reducible exact Blk.new _ _ _) | ((with_reducible refine Blk.new' _ _ _ ?_); simp; done) | (with_reducible refine Blk.alloc ?_ _) | (with_reducible refine Blk.drew ?_) | (with_reducible refine Blk.drewN ?_ _) | (with_reducible apply Blk.set) | (with_reducible refine Blk.set' ?_ ?_) | (with_reducible refine Blk.below ?_ (by with_reducible assumption)) | (show @Eq (Array Value) _ _; rfl) | (simp; done) | (simp; omega))
          · repeat' (first | (with_reducible assumption) | (with_reducible exact Blk.new _ _ _) | ((with_reducible refine Blk.new' _ _ _ ?_); simp; done) | (with_reducible refine Blk.alloc ?_ _) | (with_reducible refine Blk.drew ?_) | (with_reducible refine Blk.drewN ?_ _) | (with_reducible apply Blk.set) | (with_reducible refine Blk.set' ?_ ?_) | (with_reducible refine Blk.below ?_ (by with_reducible assumption)) | (show @Eq (Array Value) _ _; rfl) | (simp; done) | (simp; omega))
          · repeat' (first | (with_reducible assumption) | (with_reducible exact Blk.new _ _ _) | ((with_reducible refine Blk.new' _ _ _ ?_); simp; done) | (with_reducible refine Blk.alloc ?_ _) | (with_reducible refine Blk.drew ?_) | (with_reducible refine Blk.drewN ?_ _) | (with_reducible apply Blk.set) | (with_reducible refine Blk.set' ?_ ?_) | (with_reducible refine Blk.below ?_ (by with_reducible assumption)) | (show @Eq (Array Value) _ _; rfl) | (simp; done) | (simp; omega))
          · repeat' (first | (with_reducible exact Below.refl _ _) | (with_reducible assumption) | (with_reducible refine below_call ?_ (by with_reducible assumption)) | (with_reducible refine below_draws ?_ _) | (with_reducible refine Below.drew ?_) | (with_reducible refine Below.alloc ?_ ?_ _) | (with_reducible refine Below.setCell ?_ ?_ _) | omega | (simp; done) | (simp; omega))
        · have he1 : (e == 0) = false := by rw [beq_eq_false_iff_ne]; exact he
          have He := Lib.hid he; clear he
          go_wp2_with fail
          go_meet
          refine ⟨rfl, b0, s0, b1, s1, c, u0, u1, Hok.out, fun _ => Hp0.out, fun _ => Hp1.out, fun h => absurd h He.out, ?_, ?_, ?_, ?_⟩
          · repeat' (first | (with_reducible assumption) | (with_reducible exact Blk.new _ _ _) | ((with_reducible refine Blk.new' _ _ _ ?_); simp; done) | (with_reducible refine Blk.alloc ?_ _) | (with_reducible refine Blk.drew ?_) | (with_reducible refine Blk.drewN ?_ _) | (with_reducible apply Blk.set) | (with_reducible refine Blk.set' ?_ ?_) | (with_reducible refine Blk.below ?_ (by with_reducible assumption)) | (show @Eq (Array Value) _ _; rfl) | (simp; done) | (simp; omega))
          · repeat' (first | (with_reducible assumption) | (with_reducible exact Blk.new _ _ _) | ((with_reducible refine Blk.new' _ _ _ ?_); simp; done) | (with_reducible refine Blk.alloc ?_ _) | (with_reducible refine Blk.drew ?_) | (with_reducible refine Blk.drewN ?_ _) | (with_reducible apply Blk.set) | (with_reducible refine Blk.set' ?_ ?_) | (with_reducible refine Blk.below ?_ (by with_reducible assumption)) | (show @Eq (Array Value) _ _; rfl) | (simp; done) | (simp; omega))
          · repeat' (first | (with_reducible assumption) | (with_reducible exact Blk.new _ _ _) | ((with_reducible refine Blk.new' _ _ _ ?_); simp; done) | (with_reducible refine Blk.alloc ?_ _) | (with_reducible refine Blk.drew ?_) | (with_reducible refine Blk.drewN ?_ _) | (with_reducible apply Blk.set) | (with_reducible refine Blk.set' ?_ ?_) | (with_reducible refine Blk.below ?_ (by with_reducible assumption)) | (show @Eq (Array Value) _ _; rfl) | (simp; done) | (simp; omega))
          · repeat' (first | (with_reducible exact Below.refl _ _) | (with_reducible assumption) | (with_reducible refine below_call ?_ (by with_reducible assumption)) | (with_reducible refine below_draws ?_ _) | (with_reducible refine Below.drew ?_) | (with_reducible refine Below.alloc ?_ ?_ _) | (with_reducible refine Below.setCell ?_ ?_ _) | omega | (simp; done) | (simp; omega))
      case rest =>
        clear kd ks kw cd fd qd cs fs qs cw fw qw
        obtain ⟨rfl, b0, s0, b1, s1, c, u0, u1, hok, g0, g1, gz, kd, ks, kw, hbc⟩ := hcut
        have HR := Lib.hid (And.intro hok (And.intro g0 (And.intro g1 gz))); clear hok g0 g1 gz
        have cd := kd.cell; have fd := kd.froz; have qd := kd.lt; have cs := ks.cell; have fs := ks.froz; have qs := ks.lt; have cw := kw.cell; have fw := kw.froz; have qw := kw.lt
        go_step
        apply wp_seq_k; intro _ _
        go_cut [7] (fun s7 wx => SureR2 W w2.heap.size s7 wx)
        case first =>
          obtain ⟨hok, g0, g1, gz⟩ := HR.out
          by_cases he : e = 0
          rotate_left 1
          · have he1 : (e == 0) = false := by rw [beq_eq_false_iff_ne]; exact he
            have HQ := Lib.hid (And.intro hok (And.intro (g0 (by omega)) (g1 (by omega)))); clear hok g0 g1 gz he
            go_wp2_with fail
            go_meet
            refine ⟨rfl, b0, s0, b1, s1, c, u0, u1, HQ.out.1, HQ.out.2.1, HQ.out.2.2, ?_, ?_, ?_⟩
            · repeat' (first | (with_reducible assumption) | (with_reducible exact Blk.new _ _ _) | ((with_reducible refine Blk.new' _ _ _ ?_); simp; done) | (with_reducible refine Blk.alloc ?_ _) | (with_reducible refine Blk.drew ?_) | (with_reducible refine Blk.drewN ?_ _) | (with_reducible apply Blk.set) | (with_reducible refine Blk.set' ?_ ?_) | (with_reducible refine Blk.below ?_ (by with_reducible assumption)) | (show @Eq (Array Value) _ _; rfl) | (simp; done) | (simp; omega))
            · repeat' (first | (with_reducible assumption) | (with_reducible exact Blk.new _ _ _) | ((with_reducible refine Blk.new' _ _ _ ?_); simp; done) | (with_reducible refine Blk.alloc ?_ _) | (with_reducible refine Blk.drew ?_) | (with_reducible refine Blk.drewN ?_ _) | (with_reducible apply Blk.set) | (with_reducible refine Blk.set' ?_ ?_) | (with_reducible refine Blk.below ?_ (by with_reducible assumption)) | (show @Eq (Array Value) _ _; rfl) | (simp; done) | (simp; omega))
            · repeat' (first | (with_reducible exact Below.refl _ _) | (with_reducible assumption) | (with_reducible refine below_call ?_ (by with_reducible assumption)) | (with_reducible refine below_draws ?_ _) | (with_reducible refine Below.drew ?_) | (with_reducible refine Below.alloc ?_ ?_ _) | (with_reducible refine Below.setCell ?_ ?_ _) | omega | (simp; done) | (simp; omega))
          subst he
          by_cases hop : op = 2
          rotate_left 1
          · have he1 : (op == 2) = false := by rw [beq_eq_false_iff_ne]; exact hop
            have HQ := Lib.hid (And.intro hok (And.intro (g0 (by omega)) (g1 (by omega)))); clear hok g0 g1 gz hop
            go_wp2_with fail
            go_meet
            refine ⟨rfl, b0, s0, b1, s1, c, u0, u1, HQ.out.1, HQ.out.2.1, HQ.out.2.2, ?_, ?_, ?_⟩
            · repeat' (first | (with_reducible assumption) | (with_reducible exact Blk.new _ _ _) | ((with_reducible refine Blk.new' _ _ _ ?_); simp; done) | (with_reducible refine Blk.alloc ?_ _) | (with_reducible refine Blk.drew ?_) | (with_reducible refine Blk.drewN ?_ _) | (with_reducible apply Blk.set) | (with_reducible refine Blk.set' ?_ ?_) | (with_reducible refine Blk.below ?_ (by with_reducible assumption)) | (show @Eq (Array Value) _ _; rfl) | (simp; done) | (simp; omega))
            · repeat' (first | (with_reducible assumption) | (with_reducible exact Blk.new _ _ _) | ((with_reducible refine Blk.new' _ _ _ ?_); simp; done) | (with_reducible refine Blk.alloc ?_ _) | (with_reducible refine Blk.drew ?_) | (with_reducible refine Blk.drewN ?_ _) | (with_reducible apply Blk.set) | (with_reducible refine Blk.set' ?_ ?_) | (with_reducible refine Blk.below ?_ (by with_reducible assumption)) | (show @Eq (Array Value) _ _; rfl) | (simp; done) | (simp; omega))
            · repeat' (first | (with_reducible exact Below.refl _ _) | (with_reducible assumption) | (with_reducible refine below_call ?_ (by with_reducible assumption)) | (with_reducible refine below_draws ?_ _) | (with_reducible refine Below.drew ?_) | (with_reducible refine Below.alloc ?_ ?_ _) | (with_reducible refine Below.setCell ?_ ?_ _) | omega | (simp; done) | (simp; omega))
          subst hop
          obtain ⟨o1, o2, o3, o4, o5, o6, o7, o8⟩ := (ok_iff _ _ _ _ _ _ _).1 hok
          rcases gz rfl with rfl | rfl
          · have HQ := Lib.hid (And.intro hok (And.intro (pf_empty ⟨b0, s0⟩ o4 o5) (g1 (by omega)))); clear hok g0 g1 gz
            go_wp2_with fail
            go_meet
            refine ⟨rfl, b0, s0, b1, s1, c, ⟨#[]⟩, u1, HQ.out.1, HQ.out.2.1, HQ.out.2.2, ?_, ?_, ?_⟩
            · repeat' (first | (with_reducible assumption) | (with_reducible exact Blk.new _ _ _) | ((with_reducible refine Blk.new' _ _ _ ?_); simp; done) | (with_reducible refine Blk.alloc ?_ _) | (with_reducible refine Blk.drew ?_) | (with_reducible refine Blk.drewN ?_ _) | (with_reducible apply Blk.set) | (with_reducible refine Blk.set' ?_ ?_) | (with_reducible refine Blk.below ?_ (by with_reducible assumption)) | (show @Eq (Array Value) _ _; rfl) | (simp; done) | (simp; omega))
            · repeat' (first | (with_reducible assumption) | (with_reducible exact Blk.new _ _ _) | ((with_reducible refine Blk.new' _ _ _ ?_); simp; done) | (with_reducible refine Blk.alloc ?_ _) | (with_reducible refine Blk.drew ?_) | (with_reducible refine Blk.drewN ?_ _) | (with_reducible apply Blk.set) | (with_reducible refine Blk.set' ?_ ?_) | (with_reducible refine Blk.below ?_ (by with_reducible assumption)) | (show @Eq (Array Value) _ _; rfl) | (simp; done) | (simp; omega))
            · repeat' (first | (with_reducible exact Below.refl _ _) | (with_reducible assumption) | (with_reducible refine below_call ?_ (by with_reducible assumption)) | (with_reducible refine below_draws ?_ _) | (with_reducible refine Below.drew ?_) | (with_reducible refine Below.alloc ?_ ?_ _) | (with_reducible refine Below.setCell ?_ ?_ _) | omega | (simp; done) | (simp; omega))
          · have HQ := Lib.hid (And.intro hok (And.intro (g0 (by omega)) (pf_empty ⟨b1, s1⟩ o7 o8))); clear hok g0 g1 gz
            go_wp2_with fail
            go_meet
            refine ⟨rfl, b0, s0, b1, s1, c, u0, ⟨#[]⟩, HQ.out.1, HQ.out.2.1, HQ.out.2.2, ?_, ?_, ?_⟩
            · repeat' (first | (with_reducible assumption) | (with_reducible exact Blk.new _ _ _) | ((with_reducible refine Blk.new' _ _ _ ?_); simp; done) | (with_reducible refine Blk.alloc ?_ _) | (with_reducible refine Blk.drew ?_) | (with_reducible refine Blk.drewN ?_ _) | (with_reducible apply Blk.set) | (with_reducible refine Blk.set' ?_ ?_) | (with_reducible refine Blk.below ?_ (by with_reducible assumption)) | (show @Eq (Array Value) _ _; rfl) | (simp; done) | (simp; omega))
            · repeat' (first | (with_reducible assumption) | (with_reducible exact Blk.new _ _ _) | ((with_reducible refine Blk.new' _ _ _ ?_); simp; done) | (with_reducible refine Blk.alloc ?_ _) | (with_reducible refine Blk.drew ?_) | (with_reducible refine Blk.drewN ?_ _) | (with_reducible apply Blk.set) | (with_reducible refine Blk.set' ?_ ?_) | (with_reducible refine Blk.below ?_ (by with_reducible assumption)) | (show @Eq (Array Value) _ _; rfl) | (simp; done) | (simp; omega))
            · repeat' (first | (with_reducible exact Below.refl _ _) | (with_reducible assumption) | (with_reducible refine below_call ?_ (by with_reducible assumption)) | (with_reducible refine below_draws ?_ _) | (with_reducible refine Below.drew ?_) | (with_reducible refine Below.alloc ?_ ?_ _) | (with_reducible refine Below.setCell ?_ ?_ _) | omega | (simp; done) | (simp; omega))
        case rest =>
          clear kd ks kw cd fd qd cs fs qs cw fw qw HR Hr
          obtain ⟨rfl, b0, s0, b1, s1, c, u0, u1, hok, g0, g1, kd, ks, hbd⟩ := hcut
          have HR := Lib.hid (And.intro hok (And.intro g0 g1)); clear hok g0 g1
          have cd := kd.cell; have fd := kd.froz; have qd := kd.lt; have cs := ks.cell; have fs := ks.froz; have qs := ks.lt
          go_step
          apply wp_seq_k; intro _ _
          go_cut [7] (fun s7 wx => SureR2 W w2.heap.size s7 wx)
          case first =>
            obtain ⟨hok, g0, g1⟩ := HR.out
            have hsz := hbd.size
            by_cases hlx : k + 1 < xs.length
            rotate_left 1
            · have e1 : decide ((k : Int) + 1 < (xs.length : Int)) = false := by simp; omega
              have e2 : decide (k + 1 < xs.length) = false := by simp; omega
              clear hok g0 g1
              go_wp2_with fail
              go_meet
              refine ⟨rfl, b0, s0, b1, s1, c, u0, u1, HR.out.1, HR.out.2.1, HR.out.2.2, ?_, ?_, ?_⟩
              · repeat' (first | (with_reducible assumption) | (with_reducible exact Blk.new _ _ _) | ((with_reducible refine Blk.new' _ _ _ ?_); simp; done) | (with_reducible refine Blk.alloc ?_ _) | (with_reducible refine Blk.drew ?_) | (with_reducible refine Blk.drewN ?_ _) | (with_reducible apply Blk.set) | (with_reducible refine Blk.set' ?_ ?_) | (with_reducible refine Blk.below ?_ (by with_reducible assumption)) | (show @Eq (Array Value) _ _; rfl) | (simp; done) | (simp; omega))
              · repeat' (first | (with_reducible assumption) | (with_reducible exact Blk.new _ _ _) | ((with_reducible refine Blk.new' _ _ _ ?_); simp; done) | (with_reducible refine Blk.alloc ?_ _) | (with_reducible refine Blk.drew ?_) | (with_reducible refine Blk.drewN ?_ _) | (with_reducible apply Blk.set) | (with_reducible refine Blk.set' ?_ ?_) | (with_reducible refine Blk.below ?_ (by with_reducible assumption)) | (show @Eq (Array Value) _ _; rfl) | (simp; done) | (simp; omega))
              · repeat' (first | (with_reducible exact Below.refl _ _) | (with_reducible assumption) | (with_reducible refine below_call ?_ (by with_reducible assumption)) | (with_reducible refine below_draws ?_ _) | (with_reducible refine Below.drew ?_) | (with_reducible refine Below.alloc ?_ ?_ _) | (with_reducible refine Below.setCell ?_ ?_ _) | omega | (simp; done) | (simp; omega))
            obtain ⟨cb, co, rfl, hcb, hcell⟩ := Hc.out k (by omega)
            have x1 := hcell k (by omega)
            have x2 := hcell (k + 1) hlx
            rw [← hbd.cell (p := ⟨cb, _, none⟩) hcb] at x1 x2
            have Hx := Lib.hid hcell; clear hcell
            have qcb : cb < wc.heap.size := by omega
            have hlx' : (k : Int) + 1 < (xs.length : Int) := by omega
            generalize xs[k] = xa at *
            generalize xs[k + 1] = xb at *
            by_cases hxa : 0 ≤ xa
            rotate_left 1
            · have e1 : decide (0 ≤ xa) = false := by simp; omega
              clear hok g0 g1
              go_wp2_with fail
              go_meet
              refine ⟨rfl, b0, s0, b1, s1, c, u0, u1, HR.out.1, HR.out.2.1, HR.out.2.2, ?_, ?_, ?_⟩
              · repeat' (first | (with_reducible assumption) | (with_reducible exact Blk.new _ _ _) | ((with_reducible refine Blk.new' _ _ _ ?_); simp; done) | (with_reducible refine Blk.alloc ?_ _) | (with_reducible refine Blk.drew ?_) | (with_reducible refine Blk.drewN ?_ _) | (with_reducible apply Blk.set) | (with_reducible refine Blk.set' ?_ ?_) | (with_reducible refine Blk.below ?_ (by with_reducible assumption)) | (show @Eq (Array Value) _ _; rfl) | (simp; done) | (simp; omega))
              · repeat' (first | (with_reducible assumption) | (with_reducible exact Blk.new _ _ _) | ((with_reducible refine Blk.new' _ _ _ ?_); simp; done) | (with_reducible refine Blk.alloc ?_ _) | (with_reducible refine Blk.drew ?_) | (with_reducible refine Blk.drewN ?_ _) | (with_reducible apply Blk.set) | (with_reducible refine Blk.set' ?_ ?_) | (with_reducible refine Blk.below ?_ (by with_reducible assumption)) | (show @Eq (Array Value) _ _; rfl) | (simp; done) | (simp; omega))
              · repeat' (first | (with_reducible exact Below.refl _ _) | (with_reducible assumption) | (with_reducible refine below_call ?_ (by with_reducible assumption)) | (with_reducible refine below_draws ?_ _) | (with_reducible refine Below.drew ?_) | (with_reducible refine Below.alloc ?_ ?_ _) | (with_reducible refine Below.setCell ?_ ?_ _) | omega | (simp; done) | (simp; omega))
            obtain ⟨oa, ob, oc⟩ := fit_of_ok hok (show (-1 : Int) ≤ 9223372036854775807 by decide)
            obtain ⟨o1, o2, o3, o4, o5, o6, o7, o8⟩ := (ok_iff _ _ _ _ _ _ _).1 hok
            have hcr := down_crash' hok xa xb
            have hcok := crash_ok hok xa xb
            have hc0 := pf_crash xa g0 o4
            have hc1 := pf_crash xb g1 o7
            simp only [] at hcr hcok
            clear o1 o2 o3 o4 o5 o6 o7 o8
            generalize crashZ xa ⟨b0, s0⟩ = ya at *
            generalize crashZ xb ⟨b1, s1⟩ = yb at *
            obtain ⟨y0, q0⟩ := ya
            obtain ⟨y1, q1⟩ := yb
            have Hcr := Lib.hid hcr; clear hcr
            have HQ := Lib.hid (And.intro hcok (And.intro hc0 hc1)); clear hcok hc0 hc1 hok g0 g1
            go_wp2_with fail
            have v0 : 0 ≤ (k : Int) + 1 := by omega
            have v1 : ((k : Int) + 1).toNat = k + 1 := by omega
            have v2 : IntKind.i64.wrap ((k : Int) + 1) = (k : Int) + 1 := by apply IntWalk.i64_in <;> omega
            go_region_with ((go_at_call 16; (
              refine (crash_r _ oa ob Hcr.out).mono ?_
              rintro en w5 ⟨rfl, hb5⟩
              have kd5 := Blk.below (Blk.drew kd) hb5
              have ks5 := Blk.below (Blk.drew ks) hb5
              have cd5 := kd5.cell
              have fd5 := kd5.froz)))
            all_goals go_wp2_with fail
            all_goals go_meet
            all_goals refine ⟨rfl, y0, q0, y1, q1, c, u0, u1, HQ.out.1, HQ.out.2.1, HQ.out.2.2, (by repeat' (first | (with_reducible assumption) | (with_reducible exact Blk.new _ _ _) | ((with_reducible refine Blk.new' _ _ _ ?_); simp; done) | (with_reducible refine Blk.alloc ?_ _) | (with_reducible refine Blk.drew ?_) | (with_reducible refine Blk.drewN ?_ _) | (with_reducible apply Blk.set) | (with_reducible refine Blk.set' ?_ ?_) | (with_reducible refine Blk.below ?_ (by with_reducible assumption)) | (show @Eq (Array Value) _ _; rfl) | (simp; done) | (simp; omega))), (by repeat' (first | (with_reducible assumption) | (with_reducible exact Blk.new _ _ _) | ((with_reducible refine Blk.new' _ _ _ ?_); simp; done) | (with_reducible refine Blk.alloc ?_ _) | (with_reducible refine Blk.drew ?_) | (with_reducible refine Blk.drewN ?_ _) | (with_reducible apply Blk.set) | (with_reducible refine Blk.set' ?_ ?_) | (with_reducible refine Blk.below ?_ (by with_reducible assumption)) | (show @Eq (Array Value) _ _; rfl) | (simp; done) | (simp; omega))), (by repeat' (first | (with_reducible exact Below.refl _ _) | (with_reducible assumption) | (with_reducible refine below_call ?_ (by with_reducible assumption)) | (with_reducible refine below_draws ?_ _) | (with_reducible refine Below.drew ?_) | (with_reducible refine Below.alloc ?_ ?_ _) | (with_reducible refine Below.setCell ?_ ?_ _) | omega | (simp; done) | (simp; omega)))⟩
          case rest =>
            clear kd ks cd fd qd cs fs qs HR
            obtain ⟨rfl, b0, s0, b1, s1, c, u0, u1, hok, g0, g1, kd, ks, hbe⟩ := hcut
            have hsz := hbe.size
            obtain ⟨oa, ob, oc⟩ := fit_of_ok hok (show (-1 : Int) ≤ 9223372036854775807 by decide)
            obtain ⟨o1, o2, o3, o4, o5, o6, o7, o8⟩ := (ok_iff _ _ _ _ _ _ _).1 hok
            obtain ⟨p1, p2, p3, p4⟩ := g0
            obtain ⟨p5, p6, p7, p8⟩ := g1
            simp only [] at p1 p2 p3 p4 p5 p6 p7 p8
            have HE := Lib.hid (And.intro hok (And.intro (pf_start ⟨b0, s0⟩ o4 o5) (pf_start ⟨b1, s1⟩ o7 o8)))
            have Hok := Lib.hid hok; clear hok
            have t1 : decide ((b0.size : Int) < (u0.size : Int)) = false := by simp; omega
            have t1' : decide (b0.size < u0.size) = false := by simp; omega
            have t4' : decide (b1.size < u1.size) = false := by simp; omega
            have t2 : decide (s0 < (u0.size : Int)) = false := by simp; omega
            have t3 : decide ((b0.size : Int) < s0) = false := by simp; omega
            have t4 : decide ((b1.size : Int) < (u1.size : Int)) = false := by simp; omega
            have t5 : decide (s1 < (u1.size : Int)) = false := by simp; omega
            have t6 : decide ((b1.size : Int) < s1) = false := by simp; omega
            have i0 : ∀ w, (Instr.index 24 (.agg #[.string b0, .int .i64 s0, .string b1, .int .i64 s1]) (.int .i64 0)).run Try.prog w = .ok (.agg #[.string b0, .int .i64 s0]) w := fun _ => by kernel_rfl
            have i1 : ∀ w, (Instr.index 24 (.agg #[.string b0, .int .i64 s0, .string b1, .int .i64 s1]) (.int .i64 1)).run Try.prog w = .ok (.agg #[.string b1, .int .i64 s1]) w := fun _ => by kernel_rfl
            have cd := kd.cell; have fd := kd.froz; have qd := kd.lt; have cs := ks.cell; have fs := ks.froz; have qs := ks.lt
            go_step
            go_wp2_with fail
            refine wp_loop_rounds 3 ?_
            rw [rounds_succ]
            go_wp2_with fail
            go_region_held3 (fun wx => (Blk wx w2.heap.size #[.string b0, .int .i64 s0, .string b1, .int .i64 s1, .int .i64 c, .int .i64 (-1), .bool false] 26 ∧ ∀ o, wx.cell? ⟨w2.heap.size, o, none⟩ = #[.string b0, .int .i64 s0, .string b1, .int .i64 s1, .int .i64 c, .int .i64 (-1), .bool false][o]?) ∧ (Blk wx (w2.heap.size + 1) #[.string u0, .string u1] 47 ∧ ∀ o, wx.cell? ⟨(w2.heap.size + 1), o, none⟩ = #[.string u0, .string u1][o]?) ∧ (Blk wx wc.heap.size #[.string b0, .int .i64 s0] 23 ∧ ∀ o, wx.cell? ⟨wc.heap.size, o, none⟩ = #[.string b0, .int .i64 s0][o]?))
              (((refine ⟨blk_both ?_, blk_both ?_, blk_both ?_⟩) <;> repeat' (first | (with_reducible assumption) | (with_reducible exact Blk.new _ _ _) | ((with_reducible refine Blk.new' _ _ _ ?_); simp; done) | (with_reducible refine Blk.alloc ?_ _) | (with_reducible refine Blk.drew ?_) | (with_reducible refine Blk.drewN ?_ _) | (with_reducible apply Blk.set) | (with_reducible refine Blk.set' ?_ ?_) | (with_reducible refine Blk.below ?_ (by with_reducible assumption)) | (show @Eq (Array Value) _ _; rfl) | (simp; done) | (simp; omega))))
              (first
                | (go_at_call 20; (refine (check_yes _ _ _ _ _ _ _ _ oa ob Hok.out).mono ?_; rintro en wq ⟨rfl, hq⟩)))
            have zq := hq.size
            have kd2 : Blk wq w2.heap.size #[.string b0, .int .i64 s0, .string b1, .int .i64 s1, .int .i64 c, .int .i64 (-1), .bool false] 26 := by repeat' (first | (with_reducible assumption) | (with_reducible exact Blk.new _ _ _) | ((with_reducible refine Blk.new' _ _ _ ?_); simp; done) | (with_reducible refine Blk.alloc ?_ _) | (with_reducible refine Blk.drew ?_) | (with_reducible refine Blk.drewN ?_ _) | (with_reducible apply Blk.set) | (with_reducible refine Blk.set' ?_ ?_) | (with_reducible refine Blk.below ?_ (by with_reducible assumption)) | (show @Eq (Array Value) _ _; rfl) | (simp; done) | (simp; omega))
            have ks2 : Blk wq (w2.heap.size + 1) #[.string u0, .string u1] 47 := by repeat' (first | (with_reducible assumption) | (with_reducible exact Blk.new _ _ _) | ((with_reducible refine Blk.new' _ _ _ ?_); simp; done) | (with_reducible refine Blk.alloc ?_ _) | (with_reducible refine Blk.drew ?_) | (with_reducible refine Blk.drewN ?_ _) | (with_reducible apply Blk.set) | (with_reducible refine Blk.set' ?_ ?_) | (with_reducible refine Blk.below ?_ (by with_reducible assumption)) | (show @Eq (Array Value) _ _; rfl) | (simp; done) | (simp; omega))
            have kz2 : Blk wq wc.heap.size #[.string b0, .int .i64 s0] 23 := by repeat' (first | (with_reducible assumption) | (with_reducible exact Blk.new _ _ _) | ((with_reducible refine Blk.new' _ _ _ ?_); simp; done) | (with_reducible refine Blk.alloc ?_ _) | (with_reducible refine Blk.drew ?_) | (with_reducible refine Blk.drewN ?_ _) | (with_reducible apply Blk.set) | (with_reducible refine Blk.set' ?_ ?_) | (with_reducible refine Blk.below ?_ (by with_reducible assumption)) | (show @Eq (Array Value) _ _; rfl) | (simp; done) | (simp; omega))
            have zlt : wc.heap.size < wq.heap.size := kz2.lt
            clear cd fd qd cs fs qs
            have cd := kd2.cell; have fd := kd2.froz; have qd := kd2.lt; have cs := ks2.cell; have fs := ks2.froz; have qs := ks2.lt; have cz := kz2.cell; have fz := kz2.froz; have qz := kz2.lt
            go_wp2_with fail
            rw [rounds_succ]
            go_wp2_with fail
            go_region_held3 (fun wx => (Blk wx w2.heap.size #[.string b0, .int .i64 s0, .string b1, .int .i64 s1, .int .i64 c, .int .i64 (-1), .bool false] 26 ∧ ∀ o, wx.cell? ⟨w2.heap.size, o, none⟩ = #[.string b0, .int .i64 s0, .string b1, .int .i64 s1, .int .i64 c, .int .i64 (-1), .bool false][o]?) ∧ (Blk wx (w2.heap.size + 1) #[.string (b0.extract 0 s0.toNat), .string u1] 47 ∧ ∀ o, wx.cell? ⟨(w2.heap.size + 1), o, none⟩ = #[.string (b0.extract 0 s0.toNat), .string u1][o]?) ∧ (Blk wx wq.heap.size #[.string b1, .int .i64 s1] 23 ∧ ∀ o, wx.cell? ⟨wq.heap.size, o, none⟩ = #[.string b1, .int .i64 s1][o]?))
              (((refine ⟨blk_both ?_, blk_both ?_, blk_both ?_⟩) <;> repeat' (first | (with_reducible assumption) | (with_reducible exact Blk.new _ _ _) | ((with_reducible refine Blk.new' _ _ _ ?_); simp; done) | (with_reducible refine Blk.alloc ?_ _) | (with_reducible refine Blk.drew ?_) | (with_reducible refine Blk.drewN ?_ _) | (with_reducible apply Blk.set) | (with_reducible refine Blk.set' ?_ ?_) | (with_reducible refine Blk.below ?_ (by with_reducible assumption)) | (show @Eq (Array Value) _ _; rfl) | (simp; done) | (simp; omega))))
              (first
                | (go_at_call 20; (refine (check_yes _ _ _ _ _ _ _ _ oa ob Hok.out).mono ?_; rintro en wp ⟨rfl, hp⟩)))
            have zp := hp.size
            have kd3 : Blk wp w2.heap.size #[.string b0, .int .i64 s0, .string b1, .int .i64 s1, .int .i64 c, .int .i64 (-1), .bool false] 26 := by repeat' (first | (with_reducible assumption) | (with_reducible exact Blk.new _ _ _) | ((with_reducible refine Blk.new' _ _ _ ?_); simp; done) | (with_reducible refine Blk.alloc ?_ _) | (with_reducible refine Blk.drew ?_) | (with_reducible refine Blk.drewN ?_ _) | (with_reducible apply Blk.set) | (with_reducible refine Blk.set' ?_ ?_) | (with_reducible refine Blk.below ?_ (by with_reducible assumption)) | (show @Eq (Array Value) _ _; rfl) | (simp; done) | (simp; omega))
            have ks3 : Blk wp (w2.heap.size + 1) #[.string (b0.extract 0 s0.toNat), .string u1] 47 := by repeat' (first | (with_reducible assumption) | (with_reducible exact Blk.new _ _ _) | ((with_reducible refine Blk.new' _ _ _ ?_); simp; done) | (with_reducible refine Blk.alloc ?_ _) | (with_reducible refine Blk.drew ?_) | (with_reducible refine Blk.drewN ?_ _) | (with_reducible apply Blk.set) | (with_reducible refine Blk.set' ?_ ?_) | (with_reducible refine Blk.below ?_ (by with_reducible assumption)) | (show @Eq (Array Value) _ _; rfl) | (simp; done) | (simp; omega))
            have kz3 : Blk wp wq.heap.size #[.string b1, .int .i64 s1] 23 := by repeat' (first | (with_reducible assumption) | (with_reducible exact Blk.new _ _ _) | ((with_reducible refine Blk.new' _ _ _ ?_); simp; done) | (with_reducible refine Blk.alloc ?_ _) | (with_reducible refine Blk.drew ?_) | (with_reducible refine Blk.drewN ?_ _) | (with_reducible apply Blk.set) | (with_reducible refine Blk.set' ?_ ?_) | (with_reducible refine Blk.below ?_ (by with_reducible assumption)) | (show @Eq (Array Value) _ _; rfl) | (simp; done) | (simp; omega))
            clear cd fd qd cs fs qs cz fz qz
            have cd := kd3.cell; have fd := kd3.froz; have qd := kd3.lt; have cs := ks3.cell; have fs := ks3.froz; have qs := ks3.lt; have cz := kz3.cell; have fz := kz3.froz; have qz := kz3.lt
            go_wp2_with fail
            rw [rounds_succ]
            go_wp2_with fail
            go_roundw
            case rel =>
              refine ⟨k + 1, by omega, by go_num, b0, s0, b1, s1, c, b0.extract 0 s0.toNat, b1.extract 0 s1.toNat, HE.out.1, HE.out.2.1, HE.out.2.2, ?_, ?_, ?_⟩
              · repeat' (first | (with_reducible assumption) | (with_reducible exact Blk.new _ _ _) | ((with_reducible refine Blk.new' _ _ _ ?_); simp; done) | (with_reducible refine Blk.alloc ?_ _) | (with_reducible refine Blk.drew ?_) | (with_reducible refine Blk.drewN ?_ _) | (with_reducible apply Blk.set) | (with_reducible refine Blk.set' ?_ ?_) | (with_reducible refine Blk.below ?_ (by with_reducible assumption)) | (show @Eq (Array Value) _ _; rfl) | (simp; done) | (simp; omega))
              · repeat' (first | (with_reducible assumption) | (with_reducible exact Blk.new _ _ _) | ((with_reducible refine Blk.new' _ _ _ ?_); simp; done) | (with_reducible refine Blk.alloc ?_ _) | (with_reducible refine Blk.drew ?_) | (with_reducible refine Blk.drewN ?_ _) | (with_reducible apply Blk.set) | (with_reducible refine Blk.set' ?_ ?_) | (with_reducible refine Blk.below ?_ (by with_reducible assumption)) | (show @Eq (Array Value) _ _; rfl) | (simp; done) | (simp; omega))
              · repeat' (first | (with_reducible exact Below.refl _ _) | (with_reducible assumption) | (with_reducible refine below_call ?_ (by with_reducible assumption)) | (with_reducible refine below_draws ?_ _) | (with_reducible refine Below.drew ?_) | (with_reducible refine Below.alloc ?_ ?_ _) | (with_reducible refine Below.setCell ?_ ?_ _) | omega | (simp; done) | (simp; omega))
            case measure => simp [intOf]; omega
    · have hkl : ¬ k < ws.length := hlt
      go_wp2_with fail
      refine (wakes_any _).mono ?_
      rintro en wz ⟨rfl, hbz⟩
      have zz := hbz.size
      go_wp2_with fail
      go_ret
      refine ⟨rfl, ?_⟩
      repeat' (first | (with_reducible exact Below.refl _ _) | (with_reducible assumption) | (with_reducible refine below_call ?_ (by with_reducible assumption)) | (with_reducible refine below_draws ?_ _) | (with_reducible refine Below.drew ?_) | (with_reducible refine Below.alloc ?_ ?_ _) | (with_reducible refine Below.setCell ?_ ?_ _) | omega | (simp; done) | (simp; omega))
end Go.Proofs.Ytjgbnagacbiolaa
