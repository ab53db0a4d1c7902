import Derived.Test.YtjgbnagacbiolaaAL
namespace Go.Proofs.Ytjgbnagacbiolaa
open Go.RowKit
set_option linter.unusedVariables false
set_option linter.unusedSimpArgs false
theorem doF_30 {x o : Dk} {op zn n : Int} {b : ByteArray} (h : doF x op zn b n = (o, 30)) : (o = zeroD ∧ x.d = true) ∨ o = { x with d := true } := by
  unfold doF at h
  split at h
  · simp at h
  split at h
  · simp at h
  split at h
  · rename_i hd; left; exact ⟨by simpa using h.symm, hd⟩
  split at h
  · right; simpa using h.symm
  split at h
  · simp at h
  split at h
  · simp at h
  · simp at h
theorem doF_other {x o : Dk} {op zn n e : Int} {b : ByteArray} (h : doF x op zn b n = (o, e)) (h0 : e ≠ 0) (h30 : e ≠ 30) : o = zeroD := by
  unfold doF at h
  split at h
  · simp only [Prod.mk.injEq] at h; exact h.1.symm
  split at h
  · simp only [Prod.mk.injEq] at h; exact h.1.symm
  split at h
  · simp only [Prod.mk.injEq] at h; omega
  split at h
  · simp only [Prod.mk.injEq] at h; omega
  split at h
  · simp only [Prod.mk.injEq] at h; exact h.1.symm
  split at h
  · simp only [Prod.mk.injEq] at h; omega
  · simp only [Prod.mk.injEq] at h; omega
/-- What region 4 of the document's All leaves: the answer's disk in a block of its own, its error. -/
def CutA (w : World) (xs ys : Array Value) (e : Int) (s8 s9 : Value) (wx : World) : Prop :=
  ∃ g : Nat, s8 = .pointer (some ⟨g, 0, none⟩) ∧ s9 = .int .i64 e ∧ w.heap.size + 1 < g ∧ Blk wx g ys 26 ∧ Blk wx w.heap.size xs 26 ∧ Blk wx (w.heap.size + 1) #[.string ⟨#[]⟩, .int .i64 0, .string ⟨#[]⟩, .int .i64 0, .int .i64 0, .int .i64 0, .bool false] 26 ∧ Below w.heap.size w wx
set_option maxHeartbeats 6400000 in
theorem rall_any (b0 b1 : ByteArray) (s0 s1 c l : Int) (d : Bool) (ab ao cap : Nat) (ws : List Wr) (w : World) (hfit : Dk.fit ⟨⟨b0, s0⟩, ⟨b1, s1⟩, c, l, d⟩)
    (hw : WrAt w ab ao ws) (hab : ab < w.heap.size) (hlen : ws.length ≤ 100) (hcap : ws.length ≤ cap) (hsz : ∀ x ∈ ws, x.b.size ≤ 4096) :
    Calls Try.prog 24 #[.agg #[.string b0, .int .i64 s0, .string b1, .int .i64 s1, .int .i64 c, .int .i64 l, .bool d], .slice (some ⟨ab, ao, none⟩) ws.length cap] w (RetA (allF ⟨⟨b0, s0⟩, ⟨b1, s1⟩, c, l, d⟩ ws 0) w) := by
  have Hw := Lib.hid hw; clear hw
  have Hs := Lib.hid hsz; clear hsz
  have Hf := Lib.hid hfit; clear hfit
  go_enter Try.func24, Try.ntmps24
  go_wp2_with fail
  go_loopw [7] (fun i wr => AllInv ⟨⟨b0, s0⟩, ⟨b1, s1⟩, c, l, d⟩ ws w i wr) (fun i _ => ws.length - (intOf i).toNat)
  case atStart =>
    refine ⟨0, Nat.zero_le _, rfl, b0, s0, b1, s1, c, l, d, by simp, Hf.out, ?_, ?_, ?_⟩
    · repeat' (first | (with_reducible exact Below.refl _ _) | (with_reducible assumption) | (with_reducible refine below_call ?_ (by with_reducible assumption)) | (with_reducible refine below_draws ?_ _) | (with_reducible refine Below.drew ?_) | (with_reducible refine Below.alloc ?_ ?_ _) | (with_reducible refine Below.setCell ?_ ?_ _) | omega | (simp; done) | (simp; omega))
    · repeat' (first | (with_reducible assumption) | (with_reducible exact Blk.new _ _ _) | (with_reducible refine Blk.new' _ _ _ ?_) | (with_reducible refine Blk.alloc ?_ _) | (with_reducible refine Blk.drew ?_) | (with_reducible refine Blk.drewN ?_ _) | (with_reducible refine Blk.below ?_ (by with_reducible assumption)) | (simp; done))
    · repeat' (first | (with_reducible assumption) | (with_reducible exact Blk.new _ _ _) | (with_reducible refine Blk.new' _ _ _ ?_) | (with_reducible refine Blk.alloc ?_ _) | (with_reducible refine Blk.drew ?_) | (with_reducible refine Blk.drewN ?_ _) | (with_reducible refine Blk.below ?_ (by with_reducible assumption)) | (simp; done))
  case round =>
    obtain ⟨k, hk, rfl, y0, t0, y1, t1, xc, xl, xd, hst, hfi, hb, k0, k1⟩ := hrel
    have Hst := Lib.hid hst; clear hst
    have Hfi := Lib.hid hfi; clear hfi
    have c0 := k0.cell; have f0 := k0.froz; have q0 := k0.lt
    have c1 := k1.cell; have f1 := k1.froz; have q1 := k1.lt
    by_cases hlt : k < ws.length
    · obtain ⟨d0, d1, d2, d3⟩ := (Hw.out.below hab hb) k hlt
      have hm : ws[k] ∈ ws := List.getElem_mem hlt
      have qab : ab < wr.heap.size := by have := hb.size; omega
      have hbs := Hs.out _ hm
      have hdr : ws.drop k = ws[k] :: ws.drop (k + 1) := List.drop_eq_getElem_cons hlt
      rw [hdr] at Hst
      generalize ws[k] = wk at *
      obtain ⟨op, zn, b, n⟩ := wk
      simp only [] at d0 d1 d2 d3 hbs
      have HH : Hid (allF ⟨⟨b0, s0⟩, ⟨b1, s1⟩, c, l, d⟩ ws 0 = allF ⟨⟨y0, t0⟩, ⟨y1, t1⟩, xc, xl, xd⟩ (⟨op, zn, b, n⟩ :: ws.drop (k + 1)) k) := Hst
      clear Hst hdr hm
      obtain ⟨fa, fb, fc⟩ := Hfi.out
      obtain ⟨⟨⟨⟨z0, r0⟩, ⟨z1, r1⟩, zc, zl, zd⟩, e⟩, hr⟩ : ∃ r, doF ⟨⟨y0, t0⟩, ⟨y1, t1⟩, xc, xl, xd⟩ op zn b n = r := ⟨_, rfl⟩
      have Hr := Lib.hid hr; clear hr
      have hkk : (k : Int) + 1 ≤ 100 := by omega
      by_cases he : e = 30
      · subst he
        rcases doF_30 Hr.out with hz | hz
        · obtain ⟨hz, rfl⟩ : _ ∧ xd = true := hz
          simp only [zeroD, Dk.mk.injEq, Zn.mk.injEq] at hz
          obtain ⟨⟨rfl, rfl⟩, ⟨rfl, rfl⟩, rfl, rfl, rfl⟩ := hz
          go_upto_region 4 with fail
          go_cut [8, 9] (fun s8 s9 wx => CutA w #[.string y0, .int .i64 t0, .string y1, .int .i64 t1, .int .i64 xc, .int .i64 xl, .bool true] #[.string ⟨#[]⟩, .int .i64 0, .string ⟨#[]⟩, .int .i64 0, .int .i64 0, .int .i64 0, .bool false] 30 s8 s9 wx)
          case first =>
            go_region_with ((go_at_call 12; (
              refine (rdo_r _ fa fb hbs fc Hr.out).mono ?_
              rintro en w2 ⟨rfl, hb2⟩
              have hs9 : w.heap.size + 1 < w2.heap.size := by have h9 := hb2.size; (try simp at h9); omega
              try have kg := Blk.below (Blk.drew (Blk.new _ _ _)) hb2
              try have cg := kg.cell
              try have fg := kg.froz)))
            all_goals go_wp2_with fail
            all_goals go_meet
            all_goals refine ⟨_, rfl, rfl, (by omega), (by repeat' (first | (with_reducible assumption) | (with_reducible exact Blk.new _ _ _) | ((with_reducible refine Blk.new' _ _ _ ?_); simp; done) | (with_reducible refine Blk.alloc ?_ _) | (with_reducible refine Blk.drew ?_) | (with_reducible refine Blk.drewN ?_ _) | (with_reducible apply Blk.set) | (with_reducible refine Blk.set' ?_ ?_) | (with_reducible refine Blk.below ?_ (by with_reducible assumption)) | (show @Eq (Array Value) _ _; rfl) | (simp; done) | (simp; omega))), (by repeat' (first | (with_reducible assumption) | (with_reducible exact Blk.new _ _ _) | ((with_reducible refine Blk.new' _ _ _ ?_); simp; done) | (with_reducible refine Blk.alloc ?_ _) | (with_reducible refine Blk.drew ?_) | (with_reducible refine Blk.drewN ?_ _) | (with_reducible apply Blk.set) | (with_reducible refine Blk.set' ?_ ?_) | (with_reducible refine Blk.below ?_ (by with_reducible assumption)) | (show @Eq (Array Value) _ _; rfl) | (simp; done) | (simp; omega))), (by repeat' (first | (with_reducible assumption) | (with_reducible exact Blk.new _ _ _) | ((with_reducible refine Blk.new' _ _ _ ?_); simp; done) | (with_reducible refine Blk.alloc ?_ _) | (with_reducible refine Blk.drew ?_) | (with_reducible refine Blk.drewN ?_ _) | (with_reducible apply Blk.set) | (with_reducible refine Blk.set' ?_ ?_) | (with_reducible refine Blk.below ?_ (by with_reducible assumption)) | (show @Eq (Array Value) _ _; rfl) | (simp; done) | (simp; omega))), (by repeat' (first | (with_reducible exact Below.refl _ _) | (with_reducible assumption) | (with_reducible refine below_call ?_ (by with_reducible assumption)) | (with_reducible refine below_draws ?_ _) | (with_reducible refine Below.drew ?_) | (with_reducible refine Below.alloc ?_ ?_ _) | (with_reducible refine Below.setCell ?_ ?_ _) | omega | (simp; done) | (simp; omega)))⟩
          case rest =>
            obtain ⟨g, rfl, rfl, hg, kg, k0, k1, hbc⟩ := hcut
            have c0 := k0.cell; have f0 := k0.froz; have q0 := k0.lt
            have c1 := k1.cell; have f1 := k1.froz; have q1 := k1.lt
            have cg := kg.cell; have fg := kg.froz; have qg := kg.lt
            go_wp2_with fail
            refine bodyPost_ret (v := .tuple #[Dk.v ⟨⟨y0, t0⟩, ⟨y1, t1⟩, xc, xl, true⟩, .int .i64 k, .int .i64 30]) (by simp [results, Try.results24, go_sem, c0, c1, cg, f0, f1, fg, q0, q1, qg]; done) rfl (retA_of ?_ ?_)
            · rw [HH.out]
              simp [allF, Hr.out]
            · repeat' (first | (with_reducible exact Below.refl _ _) | (with_reducible assumption) | (with_reducible refine below_call ?_ (by with_reducible assumption)) | (with_reducible refine below_draws ?_ _) | (with_reducible refine Below.drew ?_) | (with_reducible refine Below.alloc ?_ ?_ _) | (with_reducible refine Below.setCell ?_ ?_ _) | omega | (simp; done) | (simp; omega))
        · have hz := hz.symm
          simp only [Dk.mk.injEq, Zn.mk.injEq] at hz
          obtain ⟨⟨rfl, rfl⟩, ⟨rfl, rfl⟩, rfl, rfl, rfl⟩ := hz
          go_upto_region 4 with fail
          go_cut [8, 9] (fun s8 s9 wx => CutA w #[.string y0, .int .i64 t0, .string y1, .int .i64 t1, .int .i64 xc, .int .i64 xl, .bool xd] #[.string y0, .int .i64 t0, .string y1, .int .i64 t1, .int .i64 xc, .int .i64 xl, .bool true] 30 s8 s9 wx)
          case first =>
            go_region_with ((go_at_call 12; (
              refine (rdo_r _ fa fb hbs fc Hr.out).mono ?_
              rintro en w2 ⟨rfl, hb2⟩
              have hs9 : w.heap.size + 1 < w2.heap.size := by have h9 := hb2.size; (try simp at h9); omega
              try have kg := Blk.below (Blk.drew (Blk.new _ _ _)) hb2
              try have cg := kg.cell
              try have fg := kg.froz)))
            all_goals go_wp2_with fail
            all_goals go_meet
            all_goals refine ⟨_, rfl, rfl, (by omega), (by repeat' (first | (with_reducible assumption) | (with_reducible exact Blk.new _ _ _) | ((with_reducible refine Blk.new' _ _ _ ?_); simp; done) | (with_reducible refine Blk.alloc ?_ _) | (with_reducible refine Blk.drew ?_) | (with_reducible refine Blk.drewN ?_ _) | (with_reducible apply Blk.set) | (with_reducible refine Blk.set' ?_ ?_) | (with_reducible refine Blk.below ?_ (by with_reducible assumption)) | (show @Eq (Array Value) _ _; rfl) | (simp; done) | (simp; omega))), (by repeat' (first | (with_reducible assumption) | (with_reducible exact Blk.new _ _ _) | ((with_reducible refine Blk.new' _ _ _ ?_); simp; done) | (with_reducible refine Blk.alloc ?_ _) | (with_reducible refine Blk.drew ?_) | (with_reducible refine Blk.drewN ?_ _) | (with_reducible apply Blk.set) | (with_reducible refine Blk.set' ?_ ?_) | (with_reducible refine Blk.below ?_ (by with_reducible assumption)) | (show @Eq (Array Value) _ _; rfl) | (simp; done) | (simp; omega))), (by repeat' (first | (with_reducible assumption) | (with_reducible exact Blk.new _ _ _) | ((with_reducible refine Blk.new' _ _ _ ?_); simp; done) | (with_reducible refine Blk.alloc ?_ _) | (with_reducible refine Blk.drew ?_) | (with_reducible refine Blk.drewN ?_ _) | (with_reducible apply Blk.set) | (with_reducible refine Blk.set' ?_ ?_) | (with_reducible refine Blk.below ?_ (by with_reducible assumption)) | (show @Eq (Array Value) _ _; rfl) | (simp; done) | (simp; omega))), (by repeat' (first | (with_reducible exact Below.refl _ _) | (with_reducible assumption) | (with_reducible refine below_call ?_ (by with_reducible assumption)) | (with_reducible refine below_draws ?_ _) | (with_reducible refine Below.drew ?_) | (with_reducible refine Below.alloc ?_ ?_ _) | (with_reducible refine Below.setCell ?_ ?_ _) | omega | (simp; done) | (simp; omega)))⟩
          case rest =>
            obtain ⟨g, rfl, rfl, hg, kg, k0, k1, hbc⟩ := hcut
            have c0 := k0.cell; have f0 := k0.froz; have q0 := k0.lt
            have c1 := k1.cell; have f1 := k1.froz; have q1 := k1.lt
            have cg := kg.cell; have fg := kg.froz; have qg := kg.lt
            go_wp2_with fail
            refine bodyPost_ret (v := .tuple #[Dk.v ⟨⟨y0, t0⟩, ⟨y1, t1⟩, xc, xl, true⟩, .int .i64 k, .int .i64 30]) (by simp [results, Try.results24, go_sem, c0, c1, cg, f0, f1, fg, q0, q1, qg]; done) rfl (retA_of ?_ ?_)
            · rw [HH.out]
              simp [allF, Hr.out]
            · repeat' (first | (with_reducible exact Below.refl _ _) | (with_reducible assumption) | (with_reducible refine below_call ?_ (by with_reducible assumption)) | (with_reducible refine below_draws ?_ _) | (with_reducible refine Below.drew ?_) | (with_reducible refine Below.alloc ?_ ?_ _) | (with_reducible refine Below.setCell ?_ ?_ _) | omega | (simp; done) | (simp; omega))
      · by_cases he0 : e = 0
        · subst he0
          obtain rfl : zd = false := (doF_ok Hr.out).2.2.2
          go_upto_region 4 with fail
          go_cut [8, 9] (fun s8 s9 wx => CutA w #[.string y0, .int .i64 t0, .string y1, .int .i64 t1, .int .i64 xc, .int .i64 xl, .bool xd] #[.string z0, .int .i64 r0, .string z1, .int .i64 r1, .int .i64 zc, .int .i64 zl, .bool false] 0 s8 s9 wx)
          case first =>
            go_region_with ((go_at_call 12; (
              refine (rdo_r _ fa fb hbs fc Hr.out).mono ?_
              rintro en w2 ⟨rfl, hb2⟩
              have hs9 : w.heap.size + 1 < w2.heap.size := by have h9 := hb2.size; (try simp at h9); omega
              try have kg := Blk.below (Blk.drew (Blk.new _ _ _)) hb2
              try have cg := kg.cell
              try have fg := kg.froz)))
            all_goals go_wp2_with fail
            all_goals go_meet
            all_goals refine ⟨_, rfl, rfl, (by omega), (by repeat' (first | (with_reducible assumption) | (with_reducible exact Blk.new _ _ _) | ((with_reducible refine Blk.new' _ _ _ ?_); simp; done) | (with_reducible refine Blk.alloc ?_ _) | (with_reducible refine Blk.drew ?_) | (with_reducible refine Blk.drewN ?_ _) | (with_reducible apply Blk.set) | (with_reducible refine Blk.set' ?_ ?_) | (with_reducible refine Blk.below ?_ (by with_reducible assumption)) | (show @Eq (Array Value) _ _; rfl) | (simp; done) | (simp; omega))), (by repeat' (first | (with_reducible assumption) | (with_reducible exact Blk.new _ _ _) | ((with_reducible refine Blk.new' _ _ _ ?_); simp; done) | (with_reducible refine Blk.alloc ?_ _) | (with_reducible refine Blk.drew ?_) | (with_reducible refine Blk.drewN ?_ _) | (with_reducible apply Blk.set) | (with_reducible refine Blk.set' ?_ ?_) | (with_reducible refine Blk.below ?_ (by with_reducible assumption)) | (show @Eq (Array Value) _ _; rfl) | (simp; done) | (simp; omega))), (by repeat' (first | (with_reducible assumption) | (with_reducible exact Blk.new _ _ _) | ((with_reducible refine Blk.new' _ _ _ ?_); simp; done) | (with_reducible refine Blk.alloc ?_ _) | (with_reducible refine Blk.drew ?_) | (with_reducible refine Blk.drewN ?_ _) | (with_reducible apply Blk.set) | (with_reducible refine Blk.set' ?_ ?_) | (with_reducible refine Blk.below ?_ (by with_reducible assumption)) | (show @Eq (Array Value) _ _; rfl) | (simp; done) | (simp; omega))), (by repeat' (first | (with_reducible exact Below.refl _ _) | (with_reducible assumption) | (with_reducible refine below_call ?_ (by with_reducible assumption)) | (with_reducible refine below_draws ?_ _) | (with_reducible refine Below.drew ?_) | (with_reducible refine Below.alloc ?_ ?_ _) | (with_reducible refine Below.setCell ?_ ?_ _) | omega | (simp; done) | (simp; omega)))⟩
          case rest =>
            obtain ⟨g, rfl, rfl, hg, kg, k0, k1, hbc⟩ := hcut
            have c0 := k0.cell; have f0 := k0.froz; have q0 := k0.lt
            have c1 := k1.cell; have f1 := k1.froz; have q1 := k1.lt
            have cg := kg.cell; have fg := kg.froz; have qg := kg.lt
            go_wp2_with fail
            go_roundw
            case rel =>
              refine ⟨k + 1, by omega, by go_num, z0, r0, z1, r1, zc, zl, false, ?_, ?_, ?_, ?_, ?_⟩
              · rw [HH.out]
                simp [allF, Hr.out]
              · have hq := doF_ok Hr.out
                have hz9 : zl ≤ max xl 0 := hq.2.1
                have hz8 : xl ≤ 9223372036854775807 := fc
                exact fit_of_ok hq.1 (by show zl ≤ _; omega)
              · repeat' (first | (with_reducible exact Below.refl _ _) | (with_reducible assumption) | (with_reducible refine below_call ?_ (by with_reducible assumption)) | (with_reducible refine below_draws ?_ _) | (with_reducible refine Below.drew ?_) | (with_reducible refine Below.alloc ?_ ?_ _) | (with_reducible refine Below.setCell ?_ ?_ _) | omega | (simp; done) | (simp; omega))
              · repeat' (first | (with_reducible assumption) | (with_reducible exact Blk.new _ _ _) | ((with_reducible refine Blk.new' _ _ _ ?_); simp; done) | (with_reducible refine Blk.alloc ?_ _) | (with_reducible refine Blk.drew ?_) | (with_reducible refine Blk.drewN ?_ _) | (with_reducible apply Blk.set) | (with_reducible refine Blk.set' ?_ ?_) | (with_reducible refine Blk.below ?_ (by with_reducible assumption)) | (show @Eq (Array Value) _ _; rfl) | (simp; done) | (simp; omega))
              · repeat' (first | (with_reducible assumption) | (with_reducible exact Blk.new _ _ _) | ((with_reducible refine Blk.new' _ _ _ ?_); simp; done) | (with_reducible refine Blk.alloc ?_ _) | (with_reducible refine Blk.drew ?_) | (with_reducible refine Blk.drewN ?_ _) | (with_reducible apply Blk.set) | (with_reducible refine Blk.set' ?_ ?_) | (with_reducible refine Blk.below ?_ (by with_reducible assumption)) | (show @Eq (Array Value) _ _; rfl) | (simp; done) | (simp; omega))
            case measure => simp [intOf]; omega
        · have hz := doF_other Hr.out he0 he
          simp only [zeroD, Dk.mk.injEq, Zn.mk.injEq] at hz
          obtain ⟨⟨rfl, rfl⟩, ⟨rfl, rfl⟩, rfl, rfl, rfl⟩ := hz
          have he2 : (e != 0) = true := by rw [bne_iff_ne]; exact he0
          have he3 : (e == 0) = false := by rw [beq_eq_false_iff_ne]; exact he0
          have He := Lib.hid he; have He0 := Lib.hid he0; clear he he0
          go_upto_region 4 with fail
          go_cut [8, 9] (fun s8 s9 wx => CutA w #[.string y0, .int .i64 t0, .string y1, .int .i64 t1, .int .i64 xc, .int .i64 xl, .bool xd] #[.string ⟨#[]⟩, .int .i64 0, .string ⟨#[]⟩, .int .i64 0, .int .i64 0, .int .i64 0, .bool false] e s8 s9 wx)
          case first =>
            go_region_with ((go_at_call 12; (
              refine (rdo_r _ fa fb hbs fc Hr.out).mono ?_
              rintro en w2 ⟨rfl, hb2⟩
              have hs9 : w.heap.size + 1 < w2.heap.size := by have h9 := hb2.size; (try simp at h9); omega
              try have kg := Blk.below (Blk.drew (Blk.new _ _ _)) hb2
              try have cg := kg.cell
              try have fg := kg.froz)))
            all_goals go_wp2_with fail
            all_goals go_meet
            all_goals refine ⟨_, rfl, rfl, (by omega), (by repeat' (first | (with_reducible assumption) | (with_reducible exact Blk.new _ _ _) | ((with_reducible refine Blk.new' _ _ _ ?_); simp; done) | (with_reducible refine Blk.alloc ?_ _) | (with_reducible refine Blk.drew ?_) | (with_reducible refine Blk.drewN ?_ _) | (with_reducible apply Blk.set) | (with_reducible refine Blk.set' ?_ ?_) | (with_reducible refine Blk.below ?_ (by with_reducible assumption)) | (show @Eq (Array Value) _ _; rfl) | (simp; done) | (simp; omega))), (by repeat' (first | (with_reducible assumption) | (with_reducible exact Blk.new _ _ _) | ((with_reducible refine Blk.new' _ _ _ ?_); simp; done) | (with_reducible refine Blk.alloc ?_ _) | (with_reducible refine Blk.drew ?_) | (with_reducible refine Blk.drewN ?_ _) | (with_reducible apply Blk.set) | (with_reducible refine Blk.set' ?_ ?_) | (with_reducible refine Blk.below ?_ (by with_reducible assumption)) | (show @Eq (Array Value) _ _; rfl) | (simp; done) | (simp; omega))), (by repeat' (first | (with_reducible assumption) | (with_reducible exact Blk.new _ _ _) | ((with_reducible refine Blk.new' _ _ _ ?_); simp; done) | (with_reducible refine Blk.alloc ?_ _) | (with_reducible refine Blk.drew ?_) | (with_reducible refine Blk.drewN ?_ _) | (with_reducible apply Blk.set) | (with_reducible refine Blk.set' ?_ ?_) | (with_reducible refine Blk.below ?_ (by with_reducible assumption)) | (show @Eq (Array Value) _ _; rfl) | (simp; done) | (simp; omega))), (by repeat' (first | (with_reducible exact Below.refl _ _) | (with_reducible assumption) | (with_reducible refine below_call ?_ (by with_reducible assumption)) | (with_reducible refine below_draws ?_ _) | (with_reducible refine Below.drew ?_) | (with_reducible refine Below.alloc ?_ ?_ _) | (with_reducible refine Below.setCell ?_ ?_ _) | omega | (simp; done) | (simp; omega)))⟩
          case rest =>
            obtain ⟨g, rfl, rfl, hg, kg, k0, k1, hbc⟩ := hcut
            have c0 := k0.cell; have f0 := k0.froz; have q0 := k0.lt
            have c1 := k1.cell; have f1 := k1.froz; have q1 := k1.lt
            have cg := kg.cell; have fg := kg.froz; have qg := kg.lt
            go_wp2_with fail
            refine bodyPost_ret (v := .tuple #[Dk.v ⟨⟨y0, t0⟩, ⟨y1, t1⟩, xc, xl, xd⟩, .int .i64 k, .int .i64 e]) (by simp [results, Try.results24, go_sem, c0, c1, cg, f0, f1, fg, q0, q1, qg]; done) rfl (retA_of ?_ ?_)
            · rw [HH.out]
              simp [allF, Hr.out, He.out, He0.out]
            · repeat' (first | (with_reducible exact Below.refl _ _) | (with_reducible assumption) | (with_reducible refine below_call ?_ (by with_reducible assumption)) | (with_reducible refine below_draws ?_ _) | (with_reducible refine Below.drew ?_) | (with_reducible refine Below.alloc ?_ ?_ _) | (with_reducible refine Below.setCell ?_ ?_ _) | omega | (simp; done) | (simp; omega))
    · have hkl : k = ws.length := by omega
      have Hk := Lib.hid hkl; clear hkl
      go_wp2_with fail
      refine bodyPost_ret (v := .tuple #[Dk.v ⟨⟨y0, t0⟩, ⟨y1, t1⟩, xc, xl, xd⟩, .int .i64 ws.length, .int .i64 0]) (by simp [results, Try.results24, go_sem, c0, c1, f0, f1, q0, q1]; done) rfl (retA_of ?_ ?_)
      · rw [Hst.out, Hk.out]
        simp [allF]
      · repeat' (first | (with_reducible exact Below.refl _ _) | (with_reducible assumption) | (with_reducible refine below_call ?_ (by with_reducible assumption)) | (with_reducible refine below_draws ?_ _) | (with_reducible refine Below.drew ?_) | (with_reducible refine Below.alloc ?_ ?_ _) | (with_reducible refine Below.setCell ?_ ?_ _) | omega | (simp; done) | (simp; omega))
end Go.Proofs.Ytjgbnagacbiolaa
