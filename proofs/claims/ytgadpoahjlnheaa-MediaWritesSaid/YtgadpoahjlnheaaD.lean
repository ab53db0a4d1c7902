/- The contracts of the methods that read a byte. -/
import Derived.Test.YtgadpoahjlnheaaC
namespace Go.Proofs.Ytgadpoahjlnheaa.Med
open Go.RowKit
set_option linter.unusedVariables false
set_option linter.unusedSimpArgs false
open Lab (RetS ret_str str str_size str_list str_eta str_inj u8v st_ixb info5 info_parts)
theorem own_store {w : World} {base e size n cap g : Nat} {xs : List Value} (h : w.ownsRow base e size (.slice (some ⟨g, 0, none⟩) n cap) n xs) (o : Nat) (x : Value) :
    (w.setCell ⟨g, o, none⟩ x).ownsRow base e size (.slice (some ⟨g, 0, none⟩) n cap) n (xs.set o x) := by
  exact (h.stored o x).1
theorem cellsP_set (qs : List Par) (p : Par) (v : List UInt8) : (cellsP (qs ++ [p])).set (2 * qs.length + 1) (.string (str v)) = cellsP (qs ++ [(p.1, v)]) := by
  rw [cellsP_app, cellsP_app, List.set_append_right _ _ (by rw [cellsP_len]; omega), cellsP_len]
  have : 2 * qs.length + 1 - qs.length * 2 = 1 := by omega
  rw [this]; rfl
theorem Rd.form {w : World} {n₀ B : Nat} {s : St} {u v : Value} (h : Rd w n₀ B s u v) (hne : s.ps ≠ []) : ∃ g cap, u = .slice (some ⟨g, 0, none⟩) s.ps.length cap ∧ n₀ ≤ g ∧ g ≠ B ∧ s.ps.length ≤ cap := by
  have hp : 0 < s.ps.length := List.length_pos_iff.2 hne
  have hx := not_row h.blk (by decide) h.pr
  rcases h.pr.2 with ⟨_, h0⟩ | ⟨g, cap, cur, rfl, hb, hg, hc, _⟩
  · omega
  · exact ⟨g, cap, rfl, hb, fun e => by subst e; exact hx rfl, hc⟩
theorem Rd.setV {w : World} {n₀ B : Nat} {s : St} {qs : List Par} {p : Par} {g cap : Nat} {v : Value} (h : Rd w n₀ B ⟨s.ty, s.ps, []⟩ (.slice (some ⟨g, 0, none⟩) (qs.length + 1) cap) v) (hq : s.ps = qs ++ [p]) (hgn : n₀ ≤ g) :
    (w.cell? ⟨g, qs.length * 2 + 1, none⟩ = some (.string (str p.2)) ∧ w.frozen? ⟨g, qs.length * 2 + 1, none⟩ = false) ∧ Rd (w.setCell ⟨g, qs.length * 2 + 1, none⟩ (.string (str s.wd))) n₀ B (vl s) (.slice (some ⟨g, 0, none⟩) (qs.length + 1) cap) v ∧ Fr n₀ B w (w.setCell ⟨g, qs.length * 2 + 1, none⟩ (.string (str s.wd))) := by
  have hp := h.pr
  simp only at hp
  have hn : s.ps.length = qs.length + 1 := by rw [hq]; simp
  rw [hn, hq] at hp
  have hx := not_row h.blk (by decide) h.pr
  have hvl : vl s = ⟨s.ty, qs ++ [(p.1, s.wd)], []⟩ := by unfold vl; rw [hq, setL_snoc]
  have hgB : B ≠ g := fun e => hx (by rw [e]; rfl)
  refine ⟨⟨?_, hp.frozenAt _⟩, ?_, Fr.of ((Below.refl _ _).setCell hgn _)⟩
  · rw [hp.cellAt _ (by omega), show qs.length * 2 + 1 = 2 * qs.length + 1 by omega, (cellsP_at (qs ++ [p]) qs.length (by simp)).2]
    simp
  · rw [hvl]
    refine ⟨h.blk.set' (by simpa using hgB), ?_, ?_, by simpa [World.setCell] using h.sz⟩
    · have := own_store hp (qs.length * 2 + 1) (.string (str s.wd))
      rw [show qs.length * 2 + 1 = 2 * qs.length + 1 by omega, cellsP_set] at this
      simpa [Nat.mul_comm] using this
    · exact h.wr.kept (grown_set w _ _) (rows_apart (by decide) h.wr h.pr)
set_option maxHeartbeats 2000000 in
theorem value_any (s : St) (n₀ B : Nat) (w : World) (h : RdS w n₀ B s) (hne : s.ps ≠ []) (hl : s.ps.length ≤ 1000000) :
    Calls Try.prog 53 #[.pointer (some ⟨B, 0, none⟩)] w fun e w' => e = .returned (.tuple #[]) ∧ RdS w' n₀ B (vl s) ∧ Fr n₀ B w w' := by
  obtain ⟨u, v, hr⟩ := h
  obtain ⟨g, cap, rfl, hgn, hgB, hcap⟩ := hr.form hne
  obtain ⟨qs, p, hqs⟩ : ∃ qs p, s.ps = qs ++ [p] := ⟨s.ps.dropLast, s.ps.getLast hne, (List.dropLast_concat_getLast hne).symm⟩
  have hn : s.ps.length = qs.length + 1 := by rw [hqs]; simp
  have HV : Hid (vl s = ⟨s.ty, qs ++ [(p.1, s.wd)], []⟩) := Lib.hid (by unfold vl; rw [hqs, setL_snoc])
  have HT := Lib.hid fun w u v h => take_any s n₀ B u v w h
  have HQ := Lib.hid hqs
  have c1 := hr.c1
  have HR := Lib.hid hr
  rw [hn] at c1 hcap HR
  clear hr hqs hne hn
  obtain ⟨m, hm⟩ : ∃ m, qs.length = m := ⟨_, rfl⟩
  have HM := Lib.hid hm
  rw [hm] at c1 hcap HR
  have HS : Hid (∀ w1 v1, Rd w1 n₀ B ⟨s.ty, s.ps, []⟩ (.slice (some ⟨g, 0, none⟩) (m + 1) cap) v1 → (w1.cell? ⟨g, m * 2 + 1, none⟩ = some (.string (str p.2)) ∧ w1.frozen? ⟨g, m * 2 + 1, none⟩ = false) ∧ Rd (w1.setCell ⟨g, m * 2 + 1, none⟩ (.string (str s.wd))) n₀ B (vl s) (.slice (some ⟨g, 0, none⟩) (m + 1) cap) v1 ∧ Fr n₀ B w1 (w1.setCell ⟨g, m * 2 + 1, none⟩ (.string (str s.wd)))) := Lib.hid fun w1 v1 h1 => by
    have := Rd.setV (qs := qs) (p := p) (s := s) (by rw [hm]; exact h1) HQ.out hgn
    rwa [hm] at this
  clear hm
  have hm6 : m ≤ 1000000 := by have := congrArg List.length HQ.out; rw [List.length_append, HM.out] at this; simp at this; omega
  have hwm : IntKind.i64.wrap (m : Int) = m := by rw [IntKind.wrap_i64]; omega
  have hi0 : (0 : Int) ≤ (m : Int) := by omega
  have hi1 : (m : Int) < (m : Int) + 1 := by omega
  have hi2 : m < m + 1 := by omega
  clear hl
  go_enter Try.func53, Try.ntmps53
  go_region_held3 (fun wx => wx.cell? ⟨B, 1, none⟩ = some (.slice (some ⟨g, 0, none⟩) (m + 1) cap))
    (first
      | exact c1
      | exact h1.c1
      | go_keep)
    (first
      | (go_at_call 52; refine (HT.out _ _ _ (HR.out.below ((Below.refl _ w).drew))).mono ?_; rintro _ w1 ⟨rfl, ⟨v1, h1⟩, hb1, hs1, hk1⟩; have H := Lib.hid (HS.out _ _ h1); have cS := H.out.1.1; have fS := H.out.1.2))
  all_goals
    go_wp2_with fail
    go_end0
    exact ⟨rfl, ⟨_, _, H.out.2.1⟩, ((Fr.of (Below.refl _ _).drew).trans hb1).trans H.out.2.2⟩
end Go.Proofs.Ytgadpoahjlnheaa.Med
