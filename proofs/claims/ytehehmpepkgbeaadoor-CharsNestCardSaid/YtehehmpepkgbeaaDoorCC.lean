/- The iterator of package chars over a text: its contract. -/
import Derived.Test.YtehehmpepkgbeaaDoorCB
import Derived.Test.YtehehmpepkgbeaaDoorBI
namespace Go.Proofs.YtehehmpepkgbeaaDoor.Chr
open Go.RowKit Go.Shelf
set_option linter.unusedVariables false
set_option linter.unusedSimpArgs false
attribute [local go_sem] Oper.semAt_some
structure CAt (l : List UInt8) (a : Nat) (pre : List Item) : Prop where
  le : a ≤ l.length
  few : pre.length ≤ a
  it : itC l 0 = pre.map (·.1) ++ itC (l.drop a) a
theorem CAt.start (l : List UInt8) : CAt l 0 [] := ⟨Nat.zero_le _, Nat.le_refl _, by simp⟩
theorem CAt.step {l : List UInt8} {a : Nat} {pre : List Item} (h : CAt l a pre) (hl : a < l.length) {r : Int} {n : Nat} (hd : dec1 (l.drop a) = (r, n)) (x : Item) (hx : x.1 = (a, r)) : CAt l (a + n) (pre ++ [x]) := by
  have hne := drop_ne hl
  have h1 := dec1_pos (l.drop a)
  have h2 := dec1_le hne
  rw [hd] at h1 h2
  simp only [List.length_drop] at h1 h2
  refine ⟨by omega, by simp; have := h.few; omega, ?_⟩
  rw [h.it, itC_cons hne, hd, List.drop_drop]
  simp [hx]
theorem CAt.done {l : List UInt8} {a : Nat} {pre : List Item} (h : CAt l a pre) (hl : ¬ a < l.length) : pre.map (·.1) = itC l 0 := by
  have e : l.drop a = [] := List.drop_eq_nil_of_le (by omega)
  rw [h.it, e]; simp [itC_nil]
set_option maxRecDepth 100000 in
set_option maxHeartbeats 2000000 in
theorem cscalars1_in (n : Nat) (hn : 1 ≤ n) (lp Bs n₀ : Nat) (s : ByteArray) (hs : s.size ≤ 100000) (h2 : 5 < n₀) (J Jx : List Item → World → Prop)
    (hY : ∀ pre x W, J pre W → pre.length < s.size → YieldAt Fence.wide (n - 1) Tryd.prog lp (encI x) W fun e W' =>
      (e = .returned (.bool true) ∧ J (pre ++ [x]) W' ∧ KpS n₀ Bs W W') ∨ (e = .returned (.bool false) ∧ Jx (pre ++ [x]) W'))
    (W : World) (hg : Gl W) (hn0 : n₀ ≤ W.heap.size) (hBs : W.cell? ⟨Bs, 0, none⟩ = some (.string s)) (h0 : J [] W) :
    CallsIn Fence.wide n Tryd.prog 48 #[.func (.yield lp) #[] #[], .pointer (some ⟨Bs, 0, none⟩)] W fun e W' => (∃ v, e = .returned v) ∧
      ((∃ ys : List Item, ys.map (·.1) = itC s.data.toList 0 ∧ J ys W') ∨ (∃ pre : List Item, (∃ t, itC s.data.toList 0 = pre.map (·.1) ++ t) ∧ Jx pre W')) := by
  have hsz : s.data.toList.length = s.size := by simp
  obtain ⟨l, HL⟩ : ∃ l, Hid (s.data.toList = l) := ⟨_, Lib.hid rfl⟩
  have HSZ : Hid (l.length = s.size) := Lib.hid (by rw [← HL.out]; exact hsz)
  rw [HL.out]
  have HG := Lib.hid hg
  clear hsz hg
  refine callsIn_of_wp Tryd.func48 rfl trivial ?_ rfl
  simp only [Tryd.ntmps48, List.size_toArray, List.length_cons, List.length_nil, Nat.reduceAdd, Nat.reduceSub, Array.replicate_succ, Array.replicate_zero, List.push_toArray, List.append_toArray, List.nil_append, List.cons_append]
  gi_wp2
  gi_loopw [3] (fun q3 wr => ∃ (a : Nat) (pre : List Item), q3 = .int .i64 a ∧ Hid (CAt l a pre) ∧ Hid (J pre wr) ∧ Hid (KpS n₀ Bs W wr))
    (fun q3 _ => s.size - (intOf q3).toNat)
  case atStart => exact ⟨0, [], rfl, Lib.hid (CAt.start _), Lib.hid h0, Lib.hid (KpS.refl _ _ _)⟩
  case round =>
    obtain ⟨a, pre, rfl, HA, HJ, HB⟩ := hrel
    have hale : a ≤ s.size := by have := HA.out.le; rw [HSZ.out] at this; exact this
    have hcs : wr.cell? ⟨Bs, 0, none⟩ = some (.string s) := HB.out.cell.trans hBs
    have HGr : Hid (Gl wr) := Lib.hid (HG.out.below h2 HB.out.1)
    by_cases hlt : a < s.size
    · obtain ⟨r, n2, hd⟩ : ∃ r n, dec (l.drop a) = (r, n) := ⟨_, _, rfl⟩
      obtain ⟨n3, hd1, h1, h4⟩ : ∃ n3, dec1 (l.drop a) = (r, n3) ∧ 1 ≤ n3 ∧ n3 ≤ 4 := ⟨(dec1 (l.drop a)).2, by have := dec1_fst (l.drop a); rw [hd] at this; dsimp only at this; rw [← this], dec1_pos _, dec1_le4 _⟩
      have hrc : r = -1 ∨ isB r = true := by have := dec_cases (l.drop a); rw [hd] at this; exact this
      obtain ⟨x, hx⟩ : ∃ x : Item, x.1 = (a, r) := ⟨⟨(a, r), by omega, hrc⟩, rfl⟩
      have HS := Lib.hid (HA.out.step (by rw [HSZ.out]; exact hlt) hd1 x hx)
      have h3 : a + n3 ≤ s.size := by have := HS.out.le; rw [HSZ.out] at this; exact this
      obtain ⟨fn, tmps, assign, body, hy, hR⟩ := hY _ x wr HJ.out (by have := HA.out.few; omega)
      have he : encI x = #[.int .i64 (a : Int), .int .i64 r] := by unfold encI; rw [hx]
      rw [he] at hy
      have hNx := next_any s a wr HGr.out hs
      unfold NextS at hNx
      have hd' : dec (s.data.toList.drop a) = (r, n2) := by rw [HL.out]; exact hd
      by_cases hr : r = -1
      · rw [hr] at hd'
        rw [nxt_bad hlt hd'] at hNx
        have HN := Lib.hid hNx
        have hn3 : n3 = 1 := by
          unfold dec1 at hd1
          rw [hd, hr] at hd1
          simp at hd1
          omega
        subst hr
        subst hn3
        clear hx hd hd' hd1 hrc he hNx
        gi_wp2_with (refine ⟨trivial, ?_⟩; gi_at_call 49; refine (callsIn_wide.2 HN.out).mono ?_; rintro e w' ⟨rfl, rfl⟩)
        refine hR.mono ?_
        rintro e W3 (⟨rfl, hJ3, hk3⟩ | ⟨rfl, hJx3⟩)
        · have HJ3 := Lib.hid hJ3
          have HB3 : Hid (KpS n₀ Bs W W3) := Lib.hid (HB.out.trans hk3)
          clear hJ3
          gi_wp2
          go_roundw
          case rel => exact ⟨a + 1, _, by go_num, HS, HJ3, HB3⟩
          case measure => simp [intOf]; omega
        · gi_wp2
          refine bodyPost_ret (results_none rfl _ _ _) rfl ?_
          exact ⟨⟨_, rfl⟩, .inr ⟨_, ⟨_, HS.out.it⟩, hJx3⟩⟩
      · rw [nxt_good hlt hd' hr] at hNx
        have HN := Lib.hid hNx
        have hn3 : n3 = n2 := by
          unfold dec1 at hd1
          rw [hd, if_neg (by exact hr)] at hd1
          exact (congrArg Prod.snd hd1).symm
        subst hn3
        clear hx hd hd' hd1 hrc he hNx hr
        gi_wp2_with (refine ⟨trivial, ?_⟩; gi_at_call 49; refine (callsIn_wide.2 HN.out).mono ?_; rintro e w' ⟨rfl, rfl⟩)
        refine hR.mono ?_
        rintro e W3 (⟨rfl, hJ3, hk3⟩ | ⟨rfl, hJx3⟩)
        · have HJ3 := Lib.hid hJ3
          have HB3 : Hid (KpS n₀ Bs W W3) := Lib.hid (HB.out.trans hk3)
          clear hJ3
          gi_wp2
          go_roundw
          case rel => exact ⟨a + n3, _, by go_num, HS, HJ3, HB3⟩
          case measure => simp [intOf]; omega
        · gi_wp2
          refine bodyPost_ret (results_none rfl _ _ _) rfl ?_
          exact ⟨⟨_, rfl⟩, .inr ⟨_, ⟨_, HS.out.it⟩, hJx3⟩⟩
    · have HE := Lib.hid (HA.out.done (by rw [HSZ.out]; exact hlt))
      gi_wp2
      go_end0
      exact ⟨⟨_, rfl⟩, .inl ⟨_, HE.out, HJ.out⟩⟩
set_option maxHeartbeats 1000000 in
theorem cscalars_in (n : Nat) (s : ByteArray) (w : World) :
    CallsIn Fence.wide n Tryd.prog 42 #[.string s] w fun e w' => e = .returned (.func (.func 48) #[] #[.pointer (some ⟨w.heap.size, 0, none⟩)]) ∧ w' = w.alloc (.cells #[.string s] 9) := by
  refine callsIn_of_wp Tryd.func42 rfl trivial ?_ rfl
  simp only [Tryd.ntmps42, List.size_toArray, List.length_cons, List.length_nil, Nat.reduceAdd, Nat.reduceSub, Array.replicate_succ, Array.replicate_zero, List.push_toArray, List.append_toArray, List.nil_append, List.cons_append]
  gi_wp2
  go_ret
  exact ⟨rfl, rfl⟩
theorem cscalars_stops (n : Nat) (hn : 1 ≤ n) (Bs n₀ : Nat) (s : ByteArray) (hs : s.size ≤ 100000) (w : World) (hg : Gl w) (h2 : 5 < n₀) (hBs : Bs < w.heap.size) (hn₀ : n₀ ≤ w.heap.size)
    (hc : w.cell? ⟨Bs, 0, none⟩ = some (.string s)) :
    SeqStopsK Fence.wide n Tryd.prog 48 #[.pointer (some ⟨Bs, 0, none⟩)] encI (KpS n₀ Bs) (fun ys : List Item => ys.map (·.1) = itC s.data.toList 0)
      (fun pre : List Item => ∃ t, itC s.data.toList 0 = pre.map (·.1) ++ t) s.size w := fun l J Jx W hW _ _ hY h0 =>
  cscalars1_in n hn l Bs n₀ s hs h2 J Jx hY W (hg.below' hW) (Nat.le_trans hn₀ hW.size) ((hW.cell (p := ⟨Bs, 0, none⟩) hBs).trans hc) h0
end Go.Proofs.YtehehmpepkgbeaaDoor.Chr
