import Derived.Test.YtjgbnagacbiolaaP
namespace Go.Proofs.Ytjgbnagacbiolaa
open Go.RowKit
set_option linter.unusedVariables false
set_option linter.unusedSimpArgs false
/-- The slice's cells hold these operations. -/
def WrAt (w : World) (ab ao : Nat) (ws : List Wr) : Prop := ∀ (i : Nat) (h : i < ws.length),
  w.cell? ⟨ab, ao + i * 4, none⟩ = some (.int .i8 ws[i].op) ∧ w.cell? ⟨ab, ao + i * 4 + 1, none⟩ = some (.int .i64 ws[i].zn) ∧
  w.cell? ⟨ab, ao + i * 4 + 2, none⟩ = some (.string ws[i].b) ∧ w.cell? ⟨ab, ao + i * 4 + 3, none⟩ = some (.int .i64 ws[i].n)
theorem WrAt.below {w w' : World} {ab ao : Nat} {ws : List Wr} (h : WrAt w ab ao ws) (hab : ab < w.heap.size) (hb : Below w.heap.size w w') : WrAt w' ab ao ws := fun i hi => by
  obtain ⟨a, b, c, d⟩ := h i hi
  exact ⟨by rw [hb.cell (p := ⟨ab, _, none⟩) hab]; exact a, by rw [hb.cell (p := ⟨ab, _, none⟩) hab]; exact b, by rw [hb.cell (p := ⟨ab, _, none⟩) hab]; exact c, by rw [hb.cell (p := ⟨ab, _, none⟩) hab]; exact d⟩
def RetA (r : Dk × Nat × Int) (w : World) (e : Ending) (w' : World) : Prop := e = .returned (.tuple #[r.1.v, .int .i64 r.2.1, .int .i64 r.2.2]) ∧ Below w.heap.size w w'
theorem retA_of {x : Dk} {n : Nat} {e : Int} {r : Dk × Nat × Int} {w w' : World} (h : r = (x, n, e)) (hb : Below w.heap.size w w') : RetA r w (.returned (.tuple #[x.v, .int .i64 n, .int .i64 e])) w' := ⟨by rw [h], hb⟩
/-- What stands at the head of round k. -/
def AllRel (x0 : Dk) (ws : List Wr) (w : World) (k : Nat) (y0 : ByteArray) (t0 : Int) (y1 : ByteArray) (t1 xc xl : Int) (xd : Bool) (wr : World) : Prop :=
  allF x0 ws 0 = allF ⟨⟨y0, t0⟩, ⟨y1, t1⟩, xc, xl, xd⟩ (ws.drop k) k ∧ Dk.fit ⟨⟨y0, t0⟩, ⟨y1, t1⟩, xc, xl, xd⟩ ∧ Below w.heap.size w wr ∧
    Blk wr w.heap.size #[.string y0, .int .i64 t0, .string y1, .int .i64 t1, .int .i64 xc, .int .i64 xl, .bool xd] 26 ∧ Blk wr (w.heap.size + 1) #[.string ⟨#[]⟩, .int .i64 0, .string ⟨#[]⟩, .int .i64 0, .int .i64 0, .int .i64 0, .bool false] 26
def AllInv (x0 : Dk) (ws : List Wr) (w : World) (i : Value) (wr : World) : Prop :=
  ∃ k : Nat, k ≤ ws.length ∧ i = .int .i64 k ∧ ∃ (y0 : ByteArray) (t0 : Int) (y1 : ByteArray) (t1 xc xl : Int) (xd : Bool), AllRel x0 ws w k y0 t0 y1 t1 xc xl xd wr
theorem do_r {b0 b1 b : ByteArray} {s0 s1 c l op zn n : Int} {d : Bool} (w : World) {z0 z1 : ByteArray} {r0 r1 zc zl e : Int} {zd : Bool} (h0 : b0.size ≤ maxLen) (h1 : b1.size ≤ maxLen) (hbs : b.size ≤ 4096) (hlm : l ≤ 9223372036854775807)
    (hr : doF ⟨⟨b0, s0⟩, ⟨b1, s1⟩, c, l, d⟩ op zn b n = (⟨⟨z0, r0⟩, ⟨z1, r1⟩, zc, zl, zd⟩, e)) :
    Calls Try.prog 11 #[.agg #[.string b0, .int .i64 s0, .string b1, .int .i64 s1, .int .i64 c, .int .i64 l, .bool d], .agg #[.int .i8 op, .int .i64 zn, .string b, .int .i64 n]] w fun en w' => en = .returned (.tuple #[.agg #[.string z0, .int .i64 r0, .string z1, .int .i64 r1, .int .i64 zc, .int .i64 zl, .bool zd], .int .i64 e]) ∧ Below w.heap.size w w' := by
  have := do_any b0 b1 b s0 s1 c l op zn n d w h0 h1 hbs hlm
  rw [hr] at this
  exact this
theorem rdo_r {b0 b1 b : ByteArray} {s0 s1 c l op zn n : Int} {d : Bool} (w : World) {z0 z1 : ByteArray} {r0 r1 zc zl e : Int} {zd : Bool} (h0 : b0.size ≤ maxLen) (h1 : b1.size ≤ maxLen) (hbs : b.size ≤ 4096) (hlm : l ≤ 9223372036854775807)
    (hr : doF ⟨⟨b0, s0⟩, ⟨b1, s1⟩, c, l, d⟩ op zn b n = (⟨⟨z0, r0⟩, ⟨z1, r1⟩, zc, zl, zd⟩, e)) :
    Calls Try.prog 12 #[.agg #[.string b0, .int .i64 s0, .string b1, .int .i64 s1, .int .i64 c, .int .i64 l, .bool d], .agg #[.int .i8 op, .int .i64 zn, .string b, .int .i64 n]] w fun en w' => en = .returned (.tuple #[.agg #[.string z0, .int .i64 r0, .string z1, .int .i64 r1, .int .i64 zc, .int .i64 zl, .bool zd], .int .i64 e]) ∧ Below w.heap.size w w' := by
  have := rdo_any b0 b1 b s0 s1 c l op zn n d w h0 h1 hbs hlm
  rw [hr] at this
  exact this
set_option maxHeartbeats 1600000 in
theorem all_any (b0 b1 : ByteArray) (s0 s1 c l : Int) (d : Bool) (ab ao cap : Nat) (ws : List Wr) (w : World) (hfit : Dk.fit ⟨⟨b0, s0⟩, ⟨b1, s1⟩, c, l, d⟩)
    (hw : WrAt w ab ao ws) (hab : ab < w.heap.size) (hlen : ws.length ≤ 100) (hcap : ws.length ≤ cap) (hsz : ∀ x ∈ ws, x.b.size ≤ 4096) :
    Calls Try.prog 23 #[.agg #[.string b0, .int .i64 s0, .string b1, .int .i64 s1, .int .i64 c, .int .i64 l, .bool d], .slice (some ⟨ab, ao, none⟩) ws.length cap] w (RetA (allF ⟨⟨b0, s0⟩, ⟨b1, s1⟩, c, l, d⟩ ws 0) w) := by
  have Hw := Lib.hid hw; clear hw
  have Hs := Lib.hid hsz; clear hsz
  have Hf := Lib.hid hfit; clear hfit
  go_enter Try.func23, Try.ntmps23
  go_wp2_with fail
  go_loopw [13] (fun i wr => AllInv ⟨⟨b0, s0⟩, ⟨b1, s1⟩, c, l, d⟩ ws w i wr) (fun i _ => ws.length - (intOf i).toNat)
  case atStart =>
    refine ⟨0, Nat.zero_le _, rfl, b0, s0, b1, s1, c, l, d, by simp, Hf.out, ?_, ?_, ?_⟩
    · repeat' (first | (with_reducible exact Below.refl _ _) | (with_reducible assumption) | (with_reducible refine below_call ?_ (by with_reducible assumption)) | (with_reducible refine below_draws ?_ _) | (with_reducible refine Below.drew ?_) | (with_reducible refine Below.alloc ?_ ?_ _) | (with_reducible refine Below.setCell ?_ ?_ _) | omega | (simp; done) | (simp; omega))
    · repeat' (first | (with_reducible assumption) | (with_reducible exact Blk.new _ _ _) | (with_reducible refine Blk.new' _ _ _ ?_) | (with_reducible refine Blk.alloc ?_ _) | (with_reducible refine Blk.drew ?_) | (with_reducible refine Blk.drewN ?_ _) | (with_reducible refine Blk.below ?_ (by with_reducible assumption)) | (simp; done))
    · repeat' (first | (with_reducible assumption) | (with_reducible exact Blk.new _ _ _) | (with_reducible refine Blk.new' _ _ _ ?_) | (with_reducible refine Blk.alloc ?_ _) | (with_reducible refine Blk.drew ?_) | (with_reducible refine Blk.drewN ?_ _) | (with_reducible refine Blk.below ?_ (by with_reducible assumption)) | (simp; done))
  case round =>
    obtain ⟨k, hk, rfl, y0, t0, y1, t1, xc, xl, xd, hst, hfi, hb, k0, k1⟩ := hrel
    have Hst := Lib.hid hst; clear hst
    have Hfi := Lib.hid hfi; clear hfi
    have c0 := k0.cell; have f0 := k0.froz; have q0 := k0.lt
    have c1 := k1.cell; have f1 := k1.froz; have q1 := k1.lt
    by_cases hlt : k < ws.length
    · obtain ⟨d0, d1, d2, d3⟩ := (Hw.out.below hab hb) k hlt
      have hm : ws[k] ∈ ws := List.getElem_mem hlt
      have hbs := Hs.out _ hm
      have hdr : ws.drop k = ws[k] :: ws.drop (k + 1) := List.drop_eq_getElem_cons hlt
      rw [hdr] at Hst
      generalize ws[k] = wk at *
      obtain ⟨op, zn, b, n⟩ := wk
      simp only [] at d0 d1 d2 d3 hbs
      have HH : Hid (allF ⟨⟨b0, s0⟩, ⟨b1, s1⟩, c, l, d⟩ ws 0 = allF ⟨⟨y0, t0⟩, ⟨y1, t1⟩, xc, xl, xd⟩ (⟨op, zn, b, n⟩ :: ws.drop (k + 1)) k) := Hst
      clear Hst hdr hm
      obtain ⟨fa, fb, fc⟩ := Hfi.out
      obtain ⟨⟨⟨⟨z0, r0⟩, ⟨z1, r1⟩, zc, zl, zd⟩, e⟩, hr⟩ : ∃ r, doF ⟨⟨y0, t0⟩, ⟨y1, t1⟩, xc, xl, xd⟩ op zn b n = r := ⟨_, rfl⟩
      have Hr := Lib.hid hr; clear hr
      have hkk : (k : Int) + 1 ≤ 100 := by omega
      by_cases he : e = 30
      · subst he
        go_wp2_with fail
        refine (do_r _ fa fb hbs fc Hr.out).mono ?_
        rintro en w2 ⟨rfl, hb2⟩
        have k0 : Blk w2 w.heap.size #[.string y0, .int .i64 t0, .string y1, .int .i64 t1, .int .i64 xc, .int .i64 xl, .bool xd] 26 := by repeat' (first | (with_reducible assumption) | (with_reducible exact Blk.new _ _ _) | (with_reducible refine Blk.new' _ _ _ ?_) | (with_reducible refine Blk.alloc ?_ _) | (with_reducible refine Blk.drew ?_) | (with_reducible refine Blk.drewN ?_ _) | (with_reducible refine Blk.below ?_ (by with_reducible assumption)) | (simp; done))
        have k1 : Blk w2 (w.heap.size + 1) #[.string ⟨#[]⟩, .int .i64 0, .string ⟨#[]⟩, .int .i64 0, .int .i64 0, .int .i64 0, .bool false] 26 := by repeat' (first | (with_reducible assumption) | (with_reducible exact Blk.new _ _ _) | (with_reducible refine Blk.new' _ _ _ ?_) | (with_reducible refine Blk.alloc ?_ _) | (with_reducible refine Blk.drew ?_) | (with_reducible refine Blk.drewN ?_ _) | (with_reducible refine Blk.below ?_ (by with_reducible assumption)) | (simp; done))
        have c0 := k0.cell; have f0 := k0.froz; have q0 := k0.lt
        have c1 := k1.cell; have f1 := k1.froz; have q1 := k1.lt
        go_wp2_with fail
        refine bodyPost_ret (v := .tuple #[Dk.v ⟨⟨y0, t0⟩, ⟨y1, t1⟩, xc, xl, true⟩, .int .i64 k, .int .i64 30]) (by simp [results, Try.results23, go_sem, c0, c1, f0, f1, q0, q1]; done) rfl (retA_of ?_ ?_)
        · rw [HH.out]
          simp [allF, Hr.out]
        · repeat' (first | (with_reducible exact Below.refl _ _) | (with_reducible assumption) | (with_reducible refine below_call ?_ (by with_reducible assumption)) | (with_reducible refine below_draws ?_ _) | (with_reducible refine Below.drew ?_) | (with_reducible refine Below.alloc ?_ ?_ _) | (with_reducible refine Below.setCell ?_ ?_ _) | omega | (simp; done) | (simp; omega))
      · by_cases he0 : e = 0
        · subst he0
          go_wp2_with fail
          refine (do_r _ fa fb hbs fc Hr.out).mono ?_
          rintro en w2 ⟨rfl, hb2⟩
          have k0 : Blk w2 w.heap.size #[.string y0, .int .i64 t0, .string y1, .int .i64 t1, .int .i64 xc, .int .i64 xl, .bool xd] 26 := by repeat' (first | (with_reducible assumption) | (with_reducible exact Blk.new _ _ _) | (with_reducible refine Blk.new' _ _ _ ?_) | (with_reducible refine Blk.alloc ?_ _) | (with_reducible refine Blk.drew ?_) | (with_reducible refine Blk.drewN ?_ _) | (with_reducible refine Blk.below ?_ (by with_reducible assumption)) | (simp; done))
          have k1 : Blk w2 (w.heap.size + 1) #[.string ⟨#[]⟩, .int .i64 0, .string ⟨#[]⟩, .int .i64 0, .int .i64 0, .int .i64 0, .bool false] 26 := by repeat' (first | (with_reducible assumption) | (with_reducible exact Blk.new _ _ _) | (with_reducible refine Blk.new' _ _ _ ?_) | (with_reducible refine Blk.alloc ?_ _) | (with_reducible refine Blk.drew ?_) | (with_reducible refine Blk.drewN ?_ _) | (with_reducible refine Blk.below ?_ (by with_reducible assumption)) | (simp; done))
          have c0 := k0.cell; have f0 := k0.froz; have q0 := k0.lt
          have c1 := k1.cell; have f1 := k1.froz; have q1 := k1.lt
          go_wp2_with fail
          go_roundw
          case rel =>
            refine ⟨k + 1, by omega, by go_num, z0, r0, z1, r1, zc, zl, zd, ?_, ?_, ?_, ?_, ?_⟩
            · rw [HH.out]
              simp [allF, Hr.out]
            · have hq := doF_ok Hr.out
              refine fit_of_ok hq.1 ?_
              have := hq.2.1
              simp only [] at this
              simp only []
              omega
            · repeat' (first | (with_reducible exact Below.refl _ _) | (with_reducible assumption) | (with_reducible refine below_call ?_ (by with_reducible assumption)) | (with_reducible refine below_draws ?_ _) | (with_reducible refine Below.drew ?_) | (with_reducible refine Below.alloc ?_ ?_ _) | (with_reducible refine Below.setCell ?_ ?_ _) | omega | (simp; done) | (simp; omega))
            · repeat' (first | (with_reducible assumption) | (with_reducible exact Blk.new _ _ _) | ((with_reducible refine Blk.new' _ _ _ ?_); simp; done) | (with_reducible refine Blk.alloc ?_ _) | (with_reducible refine Blk.drew ?_) | (with_reducible refine Blk.drewN ?_ _) | (with_reducible apply Blk.set) | (with_reducible refine Blk.set' ?_ ?_) | (with_reducible refine Blk.below ?_ (by with_reducible assumption)) | (show @Eq (Array Value) _ _; rfl) | (simp; done) | (simp; omega))
            · repeat' (first | (with_reducible assumption) | (with_reducible exact Blk.new _ _ _) | ((with_reducible refine Blk.new' _ _ _ ?_); simp; done) | (with_reducible refine Blk.alloc ?_ _) | (with_reducible refine Blk.drew ?_) | (with_reducible refine Blk.drewN ?_ _) | (with_reducible apply Blk.set) | (with_reducible refine Blk.set' ?_ ?_) | (with_reducible refine Blk.below ?_ (by with_reducible assumption)) | (show @Eq (Array Value) _ _; rfl) | (simp; done) | (simp; omega))
          case measure => simp [intOf]; omega
        · have he1 : (e == 30) = false := by rw [beq_eq_false_iff_ne]; exact he
          have he2 : (e != 0) = true := by rw [bne_iff_ne]; exact he0
          have he3 : (e == 0) = false := by rw [beq_eq_false_iff_ne]; exact he0
          have He := Lib.hid he; have He0 := Lib.hid he0; clear he he0
          go_wp2_with fail
          refine (do_r _ fa fb hbs fc Hr.out).mono ?_
          rintro en w2 ⟨rfl, hb2⟩
          have k0 : Blk w2 w.heap.size #[.string y0, .int .i64 t0, .string y1, .int .i64 t1, .int .i64 xc, .int .i64 xl, .bool xd] 26 := by repeat' (first | (with_reducible assumption) | (with_reducible exact Blk.new _ _ _) | (with_reducible refine Blk.new' _ _ _ ?_) | (with_reducible refine Blk.alloc ?_ _) | (with_reducible refine Blk.drew ?_) | (with_reducible refine Blk.drewN ?_ _) | (with_reducible refine Blk.below ?_ (by with_reducible assumption)) | (simp; done))
          have k1 : Blk w2 (w.heap.size + 1) #[.string ⟨#[]⟩, .int .i64 0, .string ⟨#[]⟩, .int .i64 0, .int .i64 0, .int .i64 0, .bool false] 26 := by repeat' (first | (with_reducible assumption) | (with_reducible exact Blk.new _ _ _) | (with_reducible refine Blk.new' _ _ _ ?_) | (with_reducible refine Blk.alloc ?_ _) | (with_reducible refine Blk.drew ?_) | (with_reducible refine Blk.drewN ?_ _) | (with_reducible refine Blk.below ?_ (by with_reducible assumption)) | (simp; done))
          have c0 := k0.cell; have f0 := k0.froz; have q0 := k0.lt
          have c1 := k1.cell; have f1 := k1.froz; have q1 := k1.lt
          go_wp2_with fail
          refine bodyPost_ret (v := .tuple #[Dk.v ⟨⟨y0, t0⟩, ⟨y1, t1⟩, xc, xl, xd⟩, .int .i64 k, .int .i64 e]) (by simp [results, Try.results23, go_sem, c0, c1, f0, f1, q0, q1]; done) rfl (retA_of ?_ ?_)
          · rw [HH.out]
            simp [allF, Hr.out, He.out, He0.out]
          · repeat' (first | (with_reducible exact Below.refl _ _) | (with_reducible assumption) | (with_reducible refine below_call ?_ (by with_reducible assumption)) | (with_reducible refine below_draws ?_ _) | (with_reducible refine Below.drew ?_) | (with_reducible refine Below.alloc ?_ ?_ _) | (with_reducible refine Below.setCell ?_ ?_ _) | omega | (simp; done) | (simp; omega))
    · have hkl : k = ws.length := by omega
      have Hk := Lib.hid hkl; clear hkl
      go_wp2_with fail
      refine bodyPost_ret (v := .tuple #[Dk.v ⟨⟨y0, t0⟩, ⟨y1, t1⟩, xc, xl, xd⟩, .int .i64 ws.length, .int .i64 0]) (by simp [results, Try.results23, go_sem, c0, c1, f0, f1, q0, q1]; done) rfl (retA_of ?_ ?_)
      · rw [Hst.out, Hk.out]
        simp [allF]
      · repeat' (first | (with_reducible exact Below.refl _ _) | (with_reducible assumption) | (with_reducible refine below_call ?_ (by with_reducible assumption)) | (with_reducible refine below_draws ?_ _) | (with_reducible refine Below.drew ?_) | (with_reducible refine Below.alloc ?_ ?_ _) | (with_reducible refine Below.setCell ?_ ?_ _) | omega | (simp; done) | (simp; omega))
end Go.Proofs.Ytjgbnagacbiolaa
