/- The contract of Pairs, the program's. -/
import Derived.Test.YtdifocahmephjaaTI
namespace Go.Proofs.Ytdifocahmephjaa.Tab
open Go.RowKit Go.Maps
set_option linter.unusedVariables false
set_option linter.unusedSimpArgs false
set_option maxRecDepth 100000
def prsA : List Pr := prs.take 68
def prsB : List Pr := prs.drop 68
theorem prsA_perm : prsA.Perm wl := by decide +kernel
theorem prsB_perm : prsB.Perm dl := by decide +kernel
theorem prsA_up : prsA.Pairwise (fun p q => p.1 < q.1) := by decide +kernel
theorem prsB_up : prsB.Pairwise (fun p q => p.1 < q.1) := by decide +kernel
theorem prs_two_parts : prsA ++ prsB = prs := List.take_append_drop _ _
theorem prsB_len : prsB.length = 5 := by decide
theorem prs_len : prs.length = 73 := by decide
theorem own_base {w : World} {base base' e size n : Nat} {v : Value} {xs : List Value} (h : w.ownsRow base e size v n xs) (hb : base' ≤ base) : w.ownsRow base' e size v n xs := by
  refine ⟨h.1, ?_⟩
  rcases h.2 with h1 | ⟨g, cap, cur, h1, h2, h3⟩
  · exact .inl h1
  · exact .inr ⟨g, cap, cur, h1, Nat.le_trans hb h2, h3⟩
theorem own_below {w w' : World} {base e size n : Nat} {v : Value} {xs : List Value} (h : w.ownsRow base e size v n xs) (hb : Below w.heap.size w w') : w'.ownsRow base e size v n xs := by
  refine ⟨h.1, ?_⟩
  rcases h.2 with h1 | ⟨g, cap, cur, rfl, h1, hg, h2⟩
  · exact .inl h1
  · have hl : g < w.heap.size := (Array.getElem?_eq_some_iff.1 hg).1
    exact .inr ⟨g, cap, cur, rfl, h1, (hb.block g hl).trans hg, h2⟩
theorem tri_new (w : World) (l : List Pr) (n : Nat) (hn : l.length = n) (h0 : 0 < n) (h7 : n ≤ 1000) : Tri (w.alloc (.cells (cells3 l).toArray 40)) (.slice (some ⟨w.heap.size, 0, none⟩) n n) l := by
  subst hn
  exact tri_own (own_new (w := w) (e := 40) rfl h7) (by intro e; subst e; simp at h0)
/-- What Pairs tells. -/
def PairsS (w : World) (e : Ending) (w' : World) : Prop := ∃ g cap, e = .returned (.slice (some ⟨g, 0, none⟩) 73 cap) ∧ Tri w' (.slice (some ⟨g, 0, none⟩) 73 cap) prs ∧ Below w.heap.size w w'
set_option maxHeartbeats 4000000 in
theorem Pairs_any (w : World) : Calls Try.prog 18 #[] w fun e w' => PairsS w e w' := by
  obtain ⟨i0, hi, hz0, hz1, hz2⟩ := info_rows infoQ
  have HW := Lib.hid (wholes_any w)
  have HB1 := Lib.hid ((Below.refl w.heap.size w).alloc (Nat.le_refl _) (.cells (cells3 wl).toArray 40))
  have HP1 := Lib.hid (pairs_any wl prsA 68 wl_len (by omega) (by omega) prsA_perm prsA_up _ _ (tri_new w wl 68 wl_len (by omega) (by omega)))
  generalize (w.alloc (.cells (cells3 wl).toArray 40)) = w1 at HW HB1 HP1
  have HD := Lib.hid fun W => doubles_any W
  have HP2 := Lib.hid fun (W : World) => pairs_any dl prsB 5 dl_len (by omega) (by omega) prsB_perm prsB_up _ _ (tri_new W dl 5 dl_len (by omega) (by omega))
  have HL : Hid ((cells3 prsB).length = 5 * 3 ∧ ∀ u ∈ cells3 prsB, u.oneCell' = true) := Lib.hid ⟨by rw [cells3_len, prsB_len], cells3_one _⟩
  have HE : Hid (cells3 prsA ++ cells3 prsB = cells3 prs ∧ prs.length = 73 ∧ prs ≠ []) := Lib.hid ⟨by rw [← cells3_app, prs_two_parts], prs_len, by decide⟩
  unfold PairsS
  generalize prs = P at HE ⊢
  generalize cells3 prsA = ca at HP1 HE
  generalize cells3 prsB = cb at HP2 HL HE
  generalize cells3 dl = cd at HD HP2
  go_enter Try.func18, Try.ntmps18
  go_wp2_with (first
    | (go_at_call 26; refine (HW.out).mono ?_; rintro _ w9 ⟨rfl, hw9⟩; subst w9)
    | (go_at_call 25; refine (HP1.out).mono ?_; rintro _ w2 ⟨g1, cap1, rfl, ho2, hb2⟩; clear HP1
       have B2 := Lib.hid (below_call HB1.out hb2)
       have O2 := Lib.hid (own_base ho2 HB1.out.size)
       clear ho2 hb2)
    | (go_at_call 27; refine (HD.out _).mono ?_; rintro _ w9 ⟨rfl, hw9⟩; subst w9
       have B3 := Lib.hid (B2.out.alloc B2.out.size (.cells cd.toArray 40))
       have O3 := Lib.hid (O2.out.alloc (.cells cd.toArray 40)))
    | (go_at_call 25; refine (HP2.out _).mono ?_; rintro _ w4 ⟨g2, cap2, rfl, ho4, hb4⟩
       have B4 := Lib.hid (below_call B3.out hb4)
       have O4 := Lib.hid (own_below O3.out hb4)
       have N4 := Lib.hid (World.ownsRow.cells ho4 (g := g2) rfl)
       clear ho4 hb4)
    | (at_builtin; refine wpList_append_lies _ rfl _ _ _ rfl w.heap.size 33 i0 _ 3 24 Try.underlying30 hi hz0 hz1 hz2 rfl (by omega) (.slice (some ⟨g1, 0, none⟩) 68 cap1) 68 ca rfl O4.out ⟨g2, 0, none⟩ 5 cap2 cb rfl HL.out.1 N4.out HL.out.2 (by omega) (by unfold maxLen; omega) (by omega) B4.out.size w4.heap.size rfl ?_; intro g5 cap5 w5 hown5 hgrow5 hat5 hlt5
       have B5 : Hid (Below w.heap.size w w5) := Lib.hid (B4.out.grown hgrow5 B4.out.size (fun k e => (World.ownsRow.lt O4.out k e).1))
       have O5 := Lib.hid hown5
       clear hown5 hgrow5 hat5 hlt5))
  go_ret
  refine ⟨g5, cap5, rfl, ?_, B5.out⟩
  have h := O5.out
  rw [HE.out.1] at h
  have h3 := tri_own (base := w.heap.size) (e := 33) (u := .slice (some ⟨g5, 0, none⟩) 73 cap5) (by rw [HE.out.2.1]; exact h) HE.out.2.2
  exact h3
end Go.Proofs.Ytdifocahmephjaa.Tab
