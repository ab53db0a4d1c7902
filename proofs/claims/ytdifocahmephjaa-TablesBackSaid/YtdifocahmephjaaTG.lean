/- The contracts of table and origins, Made and Whole, the program's. -/
import Derived.Test.YtdifocahmephjaaTF
namespace Go.Proofs.Ytdifocahmephjaa.Tab
open Go.RowKit Go.Maps
set_option linter.unusedVariables false
set_option linter.unusedSimpArgs false
set_option maxRecDepth 100000
theorem info_rows {t : TypeId} {z : Value} {n b : Nat} (h : (Try.prog.info? t).map (fun i => (i.zero, i.size, i.bytes)) = some (some z, n, b)) : ∃ i, Try.prog.info? t = some i ∧ i.zero = some z ∧ i.size = n ∧ i.bytes = b := by
  cases hi : Try.prog.info? t with
  | none => rw [hi] at h; cases h
  | some i =>
    rw [hi] at h
    simp at h
    exact ⟨i, rfl, h.1, h.2.1, h.2.2⟩
theorem news_rows {w : World} {e : TypeId} (l : List Pr) : ∀ j u, (cells3 l)[j]? = some u → (w.alloc (.cells (cells3 l).toArray e)).cell? ((⟨w.heap.size, 0, none⟩ : Addr).add j) = some u := by
  have := World.news_of_block (t := e) (fr := (0, 0)) (heap_alloc_new w (.cells (cells3 l).toArray e))
  simpa using this
theorem wl_ok : ∀ p ∈ wl ++ dl, 0 ≤ p.1 ∧ p.1 ≤ 10000 ∧ 0 ≤ p.2.1 ∧ p.2.1 ≤ 10000 ∧ 0 ≤ p.2.2 ∧ p.2.2 ≤ 10000 := by decide +kernel
theorem keys_int : ∀ p ∈ wl ++ dl, keyOf Try.prog 3 (.int .i64 p.1) = some (kI p) := fun p hp => by
  have := wl_ok p hp
  exact keyOf_int_mk Try.underlying3 (okI_wf ⟨by omega, by omega⟩)
theorem keyA {a b : Int} (ha : okI a) (hb : okI b) : keyOf Try.prog 46 (.agg #[.int .i64 a, .int .i64 b]) = some (.string (keyBytes [.int .i64 a, .int .i64 b])) :=
  WideMaps.keyOf_pair arr2 Try.underlying3 ⟨Try.prog.types.size - 1, by kernel_rfl⟩ (okI_wf ha) (okI_wf hb)
theorem keys_arr : ∀ p ∈ wl, keyOf Try.prog 46 (.agg #[.int .i64 p.2.1, .int .i64 p.2.2]) = some (kA p) := fun p hp => by
  have := wl_ok p (List.mem_append_left _ hp)
  exact keyA ⟨by omega, by omega⟩ ⟨by omega, by omega⟩
theorem make_int (w : World) : (Instr.makeMap 42 (some (.int .i64 73))).run Try.prog w = .ok (.map (some w.heap.size)) (w.alloc (.map #[] 0)) := by kernel_rfl
theorem make_arr (w : World) : (Instr.makeMap 44 (some (.int .i64 68))).run Try.prog w = .ok (.map (some w.heap.size)) (w.alloc (.map #[] 0)) := by kernel_rfl
theorem wl_len : wl.length = 68 := by decide
theorem dl_len : dl.length = 5 := by decide
set_option maxHeartbeats 4000000 in
theorem table_any (w : World) : Calls Try.prog 24 #[] w fun e w' => ∃ G, e = .returned (.map (some G)) ∧ w'.ownsMap Try.prog 46 fnR G 68 (tabM kA wl) ∧ Below w.heap.size w w' := by
  have HW := Lib.hid (wholes_any w)
  have HT : Hid (Tri (w.alloc (.cells (cells3 wl).toArray 40)) (.slice (some ⟨w.heap.size, 0, none⟩) 68 68) wl) := Lib.hid (tri_own (own_new (w := w) (e := 40) wl_len (by omega)) (by decide))
  have HB := Lib.hid ((Below.refl w.heap.size w).alloc (Nat.le_refl _) (.cells (cells3 wl).toArray 40))
  have HY := Lib.hid (by_arr wl 68 wl_len (by omega) keys_arr make_arr _ _ HT.out)
  clear HT
  generalize (w.alloc (.cells (cells3 wl).toArray 40)) = w1 at HW HB HY
  generalize tabM kA wl = D at HY ⊢
  go_enter Try.func24, Try.ntmps24
  go_wp2_with (first
    | (go_at_call 26; refine (HW.out).mono ?_; rintro _ w9 ⟨rfl, hw9⟩; subst w9)
    | (go_at_call 36; refine (HY.out).mono ?_; rintro _ w2 ⟨G, rfl, hm2, hb2⟩; have HM2 := Lib.hid hm2; have HB2 := Lib.hid hb2; clear hm2 hb2))
  go_ret
  exact ⟨G, rfl, HM2.out, below_call HB.out HB2.out⟩
set_option maxHeartbeats 4000000 in
theorem origins_any (w : World) : Calls Try.prog 22 #[] w fun e w' => ∃ G, e = .returned (.map (some G)) ∧ w'.ownsMap Try.prog 3 fnR G 73 (tabM kI (wl ++ dl)) ∧ Below w.heap.size w w' := by
  obtain ⟨i0, hi, hz0, hz1, hz2⟩ := info_rows infoR
  have HW := Lib.hid (wholes_any w)
  have HO : Hid ((w.alloc (.cells (cells3 wl).toArray 40)).ownsRow w.heap.size 40 3 (.slice (some ⟨w.heap.size, 0, none⟩) 68 68) 68 (cells3 wl)) := Lib.hid (own_new wl_len (by omega))
  have HB := Lib.hid ((Below.refl w.heap.size w).alloc (Nat.le_refl _) (.cells (cells3 wl).toArray 40))
  have HZ : Hid ((w.alloc (.cells (cells3 wl).toArray 40)).heap.size = w.heap.size + 1) := Lib.hid (by simp)
  generalize (w.alloc (.cells (cells3 wl).toArray 40)) = w1 at HW HO HB HZ
  have HD := Lib.hid (doubles_any w1)
  have HO2 := Lib.hid (HO.out.alloc (.cells (cells3 dl).toArray 40))
  have HB2 := Lib.hid (HB.out.alloc HB.out.size (.cells (cells3 dl).toArray 40))
  have HN2 := Lib.hid (news_rows (w := w1) (e := 40) dl)
  have HZ2 : Hid ((w1.alloc (.cells (cells3 dl).toArray 40)).heap.size = w.heap.size + 2) := Lib.hid (by simp [HZ.out])
  rw [HZ.out] at HD HN2
  clear HO HB
  generalize (w1.alloc (.cells (cells3 dl).toArray 40)) = w2 at HD HO2 HB2 HN2 HZ2
  have HY : Hid (∀ g cap W, W.ownsRow w.heap.size 40 3 (.slice (some ⟨g, 0, none⟩) (68 + 5) cap) (68 + 5) (cells3 wl ++ cells3 dl) → Calls Try.prog 34 #[.func (.func 35) #[] #[], .slice (some ⟨g, 0, none⟩) 73 cap] W fun e w' => ∃ G, e = .returned (.map (some G)) ∧ w'.ownsMap Try.prog 3 fnR G 73 (tabM kI (wl ++ dl)) ∧ Below W.heap.size W w') := Lib.hid fun g cap W h =>
    by_int (wl ++ dl) 73 (by decide) (by omega) keys_int make_int _ W (tri_own (base := w.heap.size) (e := 40) (by rw [cells3_app]; exact h) (by decide))
  have HLD : Hid ((cells3 dl).length = 5 * 3 ∧ ∀ u ∈ cells3 dl, u.oneCell' = true) := Lib.hid ⟨by rw [cells3_len]; rfl, cells3_one dl⟩
  generalize tabM kI (wl ++ dl) = D at HY ⊢
  generalize cells3 wl = cw at HO2 HY
  generalize cells3 dl = cd at HN2 HY HLD
  go_enter Try.func22, Try.ntmps22
  go_wp2_with (first
    | (go_at_call 26; refine (HW.out).mono ?_; rintro _ w9 ⟨rfl, hw9⟩; subst w9)
    | (go_at_call 27; refine (HD.out).mono ?_; rintro _ w9 ⟨rfl, hw9⟩; subst w9)
    | (at_builtin; refine wpList_append_lies _ rfl _ _ _ rfl w.heap.size 40 i0 _ 3 24 Try.underlying48 hi hz0 hz1 hz2 rfl (by omega) (.slice (some ⟨w.heap.size, 0, none⟩) 68 68) 68 cw rfl HO2.out ⟨w.heap.size + 1, 0, none⟩ 5 5 cd rfl HLD.out.1 HN2.out HLD.out.2 (by omega) (by unfold maxLen; omega) (by omega) (by rw [HZ2.out]; omega) (w.heap.size + 2) HZ2.out ?_; intro g3 cap3 w3 hown3 hgrow3 hat3 hlt3
       have HO3 := Lib.hid hown3
       have HB3 : Hid (Below w.heap.size w w3) := Lib.hid (HB2.out.grown hgrow3 HB2.out.size (fun k e => by cases e; exact Nat.le_refl _))
       clear hown3 hgrow3 hat3 hlt3)
    | (go_at_call 34; refine (HY.out _ _ _ HO3.out).mono ?_; rintro _ w4 ⟨G, rfl, hm4, hb4⟩; have HM4 := Lib.hid hm4; have HB4 := Lib.hid hb4; clear hm4 hb4))
  go_ret
  exact ⟨G, rfl, HM4.out, below_call HB3.out HB4.out⟩
end Go.Proofs.Ytdifocahmephjaa.Tab
