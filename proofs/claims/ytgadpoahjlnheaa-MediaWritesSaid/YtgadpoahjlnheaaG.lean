/- The contract of the method that reads a parameter's name. -/
import Derived.Test.YtgadpoahjlnheaaF
import Derived.Deep.RegionLaw
namespace Go.Proofs.Ytgadpoahjlnheaa.Med
open Go.RowKit
set_option linter.unusedVariables false
set_option linter.unusedSimpArgs false
open Lab (RetS ret_str str str_size str_list str_eta str_inj u8v st_ixb info5 info_parts)
theorem info48 : (Try.prog.info? 48).map (fun i => (i.zero, i.size, i.bytes)) = some (some (.agg #[.string ⟨#[]⟩, .string ⟨#[]⟩]), 2, 32) := by kernel_rfl
theorem Rd.appP {w w1 : World} {n₀ B : Nat} {s : St} {u v : Value} {tmp : Obj} {u1 : Value} {p : Par} (h : Rd w n₀ B s u v) (hown : w1.ownsRow n₀ 48 2 u1 (s.ps.length + 1) (cellsP s.ps ++ [.string (str p.1), .string (str p.2)])) (hg : (w.alloc tmp).grownBy w1 u.ownBlock) :
    (w1.cell? ⟨B, 1, none⟩ = some u ∧ w1.frozen? ⟨B, 1, none⟩ = false) ∧ Rd (w1.setCell ⟨B, 1, none⟩ u1) n₀ B ⟨s.ty, s.ps ++ [p], s.wd⟩ u1 v ∧ Fr n₀ B w (w1.setCell ⟨B, 1, none⟩ u1) := by
  have hsz := h.sz
  have b1 : Blk w1 B #[.string (str s.ty), u, v] 42 := blk_kept (h.blk.alloc tmp) hg (not_row (h.blk.alloc tmp) (by decide) (h.pr.alloc tmp))
  have p1 : w1.ownsRow n₀ 5 1 v s.wd.length (s.wd.map u8v) := (h.wr.alloc tmp).kept hg (rows_apart (by decide) (h.wr.alloc tmp) (h.pr.alloc tmp))
  have g1 : w.heap.size + 1 ≤ w1.heap.size := by have := hg.size; simpa using this
  refine ⟨⟨by rw [b1.cell]; rfl, b1.froz 1⟩, ⟨b1.set (by simp), ?_, own_set p1 b1 (by decide) _ _, by simp [World.setCell]; omega⟩, ?_⟩
  · have := own_set hown b1 (by decide) 1 u1
    simpa [cellsP] using this
  · exact (Fr.of (((Below.refl n₀ w).alloc hsz tmp).grown hg (by simp; omega) (fun k e => (World.ownsRow.lt h.pr k e).1))).setB _ _
set_option maxHeartbeats 2000000 in
theorem m_named (c : Option UInt8) (s : St) (n₀ B : Nat) (w : World) (h : RdS w n₀ B s) (hl : s.wd.length ≤ 1000000) (hp : s.ps.length ≤ 1000000) :
    Calls Try.prog 41 #[.pointer (some ⟨B, 0, none⟩), .int .i64 (ck c)] w fun e w' => StepE w n₀ B (stp 8 c s) e w' := by
  by_cases h6 : c = some 61
  · have HE : Hid (stp 8 c s = (9, ⟨s.ty, s.ps ++ [(lwr s.wd, [])], []⟩)) := Lib.hid (by simp [stp, h6])
    obtain ⟨u, v, hr⟩ := h
    have HT := Lib.hid fun w u v h => take_any s n₀ B u v w h
    have HL : Hid (∀ w, Calls Try.prog 15 #[.string (str s.wd)] w fun e w' => RetS (lwr s.wd) w e w') := Lib.hid fun w => mlower_any _ w (str_max hl)
    obtain ⟨i0, hi, hz0, hz1, hz2⟩ := info_parts info48
    have c1 := hr.c1
    have HR := Lib.hid hr
    obtain ⟨n, hn⟩ : ∃ n, s.ps.length = n := ⟨_, rfl⟩
    have HN := Lib.hid hn
    rw [hn] at hp
    have HA : Hid (∀ w2 v1, Rd w2 n₀ B ⟨s.ty, s.ps, []⟩ u v1 → w2.ownsRow n₀ 48 2 u n (cellsP s.ps) ∧ n₀ ≤ w2.heap.size ∧ ∀ tmp w3 g cap, w3.ownsRow n₀ 48 2 (.slice (some ⟨g, 0, none⟩) (n + 1) cap) (n + 1) (cellsP s.ps ++ [.string (str (lwr s.wd)), .string ⟨#[]⟩]) → (w2.alloc tmp).grownBy w3 u.ownBlock →
        (w3.cell? ⟨B, 1, none⟩ = some u ∧ w3.frozen? ⟨B, 1, none⟩ = false) ∧ Rd (w3.setCell ⟨B, 1, none⟩ (.slice (some ⟨g, 0, none⟩) (n + 1) cap)) n₀ B ⟨s.ty, s.ps ++ [(lwr s.wd, [])], []⟩ (.slice (some ⟨g, 0, none⟩) (n + 1) cap) v1 ∧ Fr n₀ B w2 (w3.setCell ⟨B, 1, none⟩ (.slice (some ⟨g, 0, none⟩) (n + 1) cap))) := Lib.hid fun w2 v1 h2 => by
      have hpr := h2.pr
      simp only [hn] at hpr
      exact ⟨hpr, h2.sz, fun tmp w3 g cap h3 h4 => Rd.appP (p := (lwr s.wd, [])) h2 (by simp only [hn]; exact h3) h4⟩
    obtain ⟨x, hx⟩ : ∃ x : Int, ck c = x := ⟨_, rfl⟩
    have d1 : (x != 61) = false := by rw [← hx]; simpa using ck_yes h6
    rw [hx]
    clear h6 hl hr hx hn
    go_enter Try.func41, Try.ntmps41
    go_wp2_with fail
    go_region_law (first
      | (refine step_append_lies _ (by rfl) _ _ _ (by rfl) n₀ 48 i0 _ 2 32 Try.underlying23 hi hz0 hz1 hz2 rfl (by omega) u n (cellsP s.ps) (by rfl) (World.ownsRow.alloc (HA.out _ _ h2).1 _)
            ⟨w2.heap.size, 0, none⟩ 1 1 [.string (str (lwr s.wd)), .string ⟨#[]⟩] (by rfl) (by rfl) (World.news_of_block (t := 48) (fr := (0, 0)) (heap_alloc_new w2 _)) (by simp [Value.oneCell'])
            (by omega) (by unfold maxLen; omega) (by omega) (by have := (HA.out _ _ h2).2.1; simp; omega) (w2.heap.size + 1) (by simp) ?_; intro g3 cap3 w3 hown3 hgrow3 hat3 hlt3; have H := Lib.hid ((HA.out _ _ h2).2.2 _ _ _ _ hown3 hgrow3); have c3 := H.out.1.1; have f3 := H.out.1.2)
      | (go_simp; go_at_call 52; refine (HT.out _ _ _ (HR.out.below ((Below.refl _ w).drew))).mono ?_; rintro _ w1 ⟨rfl, ⟨v1, h1⟩, hb1, _, _⟩; have cc1 := h1.c1)
      | (go_simp; go_at_call 15; refine (HL.out _).mono ?_; rintro _ w2 ⟨rfl, hb2⟩; have h2 := h1.below hb2; have cc2 := h2.c1; have cc3 := (h2.below ((Below.refl _ _).alloc (Nat.le_refl _) (Obj.cells #[.string (str (lwr s.wd)), .string ⟨#[]⟩] 48))).c1))
    all_goals
      go_wp2_with fail
      go_ret
      exact step_same HE.out rfl ⟨_, _, H.out.2.1⟩ ((((Fr.of (Below.refl _ _).drew).trans hb1).trans (Fr.of' hb2 h1.sz)).trans H.out.2.2)
  · have HE : Hid (stp 8 c s = kp 12 8 c s) := Lib.hid (by simp [stp, h6])
    have HK : Hid (Calls Try.prog 51 #[.pointer (some ⟨B, 0, none⟩), .int .i64 (ck c), .int .i64 12, .int .i64 8] w fun e w' => StepE w n₀ B (kp 12 8 c s) e w') := Lib.hid (keep_any 12 8 (by decide) c s n₀ B w h hl)
    obtain ⟨r, hr⟩ : ∃ r, kp 12 8 c s = r := ⟨_, rfl⟩
    rw [hr] at HE HK
    obtain ⟨x, hx⟩ : ∃ x : Int, ck c = x := ⟨_, rfl⟩
    have d1 : (x != 61) = true := by rw [← hx]; simpa using ck_no h6
    rw [hx] at HK ⊢
    clear h hx hr h6 hl hp
    go_enter Try.func41, Try.ntmps41
    go_wp2_with (first
      | (go_at_call 51; refine HK.out.mono ?_; rintro _ w9 ⟨rfl, hr9, hb9⟩))
    go_ret
    exact step_same HE.out rfl hr9 hb9
end Go.Proofs.Ytgadpoahjlnheaa.Med
