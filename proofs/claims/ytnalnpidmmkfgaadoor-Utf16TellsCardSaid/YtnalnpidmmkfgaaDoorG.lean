/- The contracts of utf16.putAll, Encode, Units. -/
import Derived.Test.YtnalnpidmmkfgaaDoorF
namespace Go.Proofs.YtnalnpidmmkfgaaDoor
open Go.RowKit
set_option linter.unusedVariables false
set_option linter.unusedSimpArgs false
theorem BInv.below {W W' : World} {base Bl : Nat} {xs : List UInt8} (h : BInv W base Bl xs) (hb : Below W.heap.size W W') : BInv W' base Bl xs := by
  obtain ⟨v, h1, h2⟩ := h
  exact ⟨v, (hb.block _ h1.lt).trans h1, h2.kept (row := none) ⟨hb.os, hb.tape, hb.output, hb.size, fun j hj _ => hb.block j hj⟩ (by cases v.ownBlock <;> simp)⟩
theorem CInv.below {W W' : World} {base Bl : Nat} {c : Nat} (h : CInv W base Bl c) (hb : Below W.heap.size W W') : CInv W' base Bl c := (hb.block _ (Boxed.lt h)).trans h
theorem BInv.lt {W : World} {base Bl : Nat} {xs : List UInt8} (h : BInv W base Bl xs) : Bl < W.heap.size := by obtain ⟨v, h1, _⟩ := h; exact h1.lt
theorem CInv.lt {W : World} {base Bl : Nat} {c : Nat} (h : CInv W base Bl c) : Bl < W.heap.size := Boxed.lt h
theorem ns16_take {xs : List Int} {k : Nat} (h : k < xs.length) : ns16 (xs.take (k + 1)) = ns16 (xs.take k) + n16 xs[k] := by
  rw [List.take_succ_eq_append_getElem h, ns16_app]; simp [ns16]
def PA_low (W : World) (base Bl : Nat) (l : List UInt8) (e : Ending) (W' : World) : Prop := e = .returned (.bool (okB l)) ∧ BInv W' base Bl (es16 false (if okB l = true then scl l else [])) ∧ Below base W W'
set_option maxRecDepth 100000 in
set_option maxHeartbeats 2000000 in
theorem putAll_low (base Bl : Nat) (s : ByteArray) (W : World) (hg : Gl W) (hs : s.size ≤ 10000) (hbase : base ≤ W.heap.size) (hBl : base ≤ Bl) (hI : BInv W base Bl []) :
    Calls Tryd.prog 28 #[.string s, .func (.func 26) #[.pointer (some ⟨Bl, 0, none⟩)] #[]] W fun e w' => PA_low W base Bl s.data.toList e w' := by
  have hsz : s.data.toList.length = s.size := by simp
  have hsc := scal_any s W hg (by omega)
  obtain ⟨l, hl⟩ : ∃ l, s.data.toList = l := ⟨_, rfl⟩
  rw [hl] at hsz hsc ⊢
  clear hl
  have hlen := ok_or_len l (okB l) rfl
  have hall : allB (if okB l = true then scl l else []) = true := by
    cases h : okB l
    · rfl
    · rw [if_pos rfl]; exact (ok_back _ l (Nat.le_refl _) h).1
  unfold ScalS at hsc
  obtain ⟨c, hc⟩ : ∃ c, okB l = c := ⟨_, rfl⟩
  obtain ⟨ys, hys⟩ : ∃ ys, (if okB l = true then scl l else []) = ys := ⟨_, rfl⟩
  rw [hys] at hlen hall hsc
  have HE : Hid (∀ w', BInv w' base Bl (es16 false ys) → Below base W w' → PA_low W base Bl l (.returned (.bool c)) w') := Lib.hid (fun w' h1 h2 => ⟨by rw [hc], by rw [hys]; exact h1, h2⟩)
  rw [hc] at hsc
  clear hc hys hg
  have HSC := Lib.hid hsc
  have HI := Lib.hid hI
  have HBL := Lib.hid hI.lt
  clear hsc hI
  by_cases hx : ys = []
  · subst hx
    go_enter Tryd.func28, Tryd.ntmps28
    go_wp2_with (first
      | (go_at_call 37; refine HSC.out.mono ?_; rintro e w1 ⟨u, rfl, ho1, hb1⟩; have HB1 := Lib.hid hb1; obtain ⟨p1, cap1, rfl⟩ := (ints_of_own ho1).form; clear ho1 hb1)
      | (go_at_call 38; refine (scalarsBy_any _ _ _ _).mono ?_; rintro e w2 ⟨rfl, rfl⟩))
    refine wp_loop_rounds 1 ?_; rw [rounds_succ]
    go_wp2_with fail
    go_ret
    exact HE.out _ (HI.out.below (HB1.out.alloc HB1.out.size _)) (((HB1.out.mono hbase)).alloc (Nat.le_trans hbase HB1.out.size) _)
  · have hN0 : 0 < ys.length := List.length_pos_iff.2 hx
    obtain ⟨N, HN⟩ : ∃ N, Hid (ys.length = N) := ⟨_, Lib.hid rfl⟩
    have hN1 : 0 < N := by rw [← HN.out]; exact hN0
    have hN : N ≤ 10000 := by rw [← HN.out]; omega
    have HALL := Lib.hid hall
    have HSC2 : Hid (Calls Tryd.prog 37 #[.string s] W fun e w' => ∃ g cap, e = .returned (.tuple #[.slice (some ⟨g, 0, none⟩) N cap, .bool c]) ∧ OwnI w' W.heap.size (.slice (some ⟨g, 0, none⟩) N cap) ys ∧ Below W.heap.size W w') := Lib.hid (HSC.out.mono (by
      rintro e w' ⟨v, he, ho, hb⟩
      obtain ⟨g, cap, rfl, _⟩ := World.ownsRow.form ho hN0
      rw [HN.out] at he ho
      exact ⟨g, cap, he, ho, hb⟩))
    clear hx hN0 hlen hall HSC
    go_enter Tryd.func28, Tryd.ntmps28
    go_wp2_with (first
      | (go_at_call 37; refine HSC2.out.mono ?_; rintro e w1 ⟨g, cap, rfl, ho1, hb1⟩; have HB1 := Lib.hid hb1; have HO1 := Lib.hid ho1; clear ho1 hb1)
      | (go_at_call 38; refine (scalarsBy_any _ _ _ _).mono ?_; rintro e w2 ⟨rfl, hw2⟩; have HW2 := Lib.hid hw2; clear hw2))
    have HI2 : Hid (BInv w2 base Bl []) := Lib.hid (by rw [HW2.out]; exact HI.out.below (HB1.out.alloc HB1.out.size _))
    have HB2 : Hid (Below base W w2) := Lib.hid (by rw [HW2.out]; exact ((HB1.out.mono hbase)).alloc (Nat.le_trans hbase HB1.out.size) _)
    have HP2 : Hid (Boxed w2 w1.heap.size 47 (.func (.func 26) #[.pointer (some ⟨Bl, 0, none⟩)] #[])) := Lib.hid (by rw [HW2.out]; exact Boxed.new _ _ _)
    have HO2 : Hid (OwnI w2 W.heap.size (.slice (some ⟨g, 0, none⟩) N cap) ys) := Lib.hid (by rw [HW2.out]; exact World.ownsRow.alloc HO1.out _)
    have hne : w1.heap.size ≠ Bl := by have := HB1.out.size; have := HBL.out; omega
    go_loopg [19] (N + 1) (fun gg q19 wr => ∃ (k : Nat), k + gg = N + 1 ∧ q19 = .int .i64 k ∧ k ≤ N ∧ Hid (BInv wr base Bl (es16 false (ys.take k))) ∧ Hid (Boxed wr w1.heap.size 47 (.func (.func 26) #[.pointer (some ⟨Bl, 0, none⟩)] #[])) ∧ Hid (OwnI wr W.heap.size (.slice (some ⟨g, 0, none⟩) N cap) ys) ∧ Hid (Below base W wr))
    case atStart => exact ⟨0, by omega, rfl, by omega, HI2, HP2, HO2, HB2⟩
    case round =>
      obtain ⟨k, hkg, rfl, hkN, HIr, HPr, HOr, HBr⟩ := hrel
      have hwz := HBr.out.size
      by_cases hk : k < N
      · have hk' : k < ys.length := by rw [HN.out]; exact hk
        have hcell : wr.cell? ⟨g, k, none⟩ = some (.int .i64 ys[k]) := (own_cells HOr.out).2 k hk'
        have hf : (es16 false (ys.take k)).length ≤ 4 * k := by
          have := es16_few false (ys.take k); have := List.length_take_le k ys; omega
        have HX : Hid (es16 false (ys.take (k + 1)) = es16 false (ys.take k) ++ e16 false ys[k]) := Lib.hid (es16_take false hk')
        have hb := all_get HALL.out hk'
        obtain ⟨r, hr⟩ : ∃ r, ys[k] = r := ⟨_, rfl⟩
        rw [hr] at hcell hb
        have HC := Lib.hid (sc_low base Bl w1.heap.size (es16 false (ys.take k)) r wr (by omega) hBl HIr.out HPr.out hne (by omega) hb)
        have HX2 : Hid (es16 false (ys.take (k + 1)) = es16 false (ys.take k) ++ e16 false r) := Lib.hid (by rw [HX.out, hr])
        clear HX hr hk' hb
        go_wp2_with (go_at_call 44; refine HC.out.mono ?_; rintro e w3 ⟨rfl, hi3, he3⟩; have HI3 : Hid (BInv w3 base Bl (es16 false (ys.take (k + 1)))) := Lib.hid (by rw [HX2.out]; exact hi3); have HP3 := Lib.hid (he3.box _ _ _ (by decide) hne HPr.out); have HO3 : Hid (OwnI w3 W.heap.size (.slice (some ⟨g, 0, none⟩) N cap) ys) := Lib.hid (he3.row _ _ _ _ HBL.out HOr.out); have HB3 := Lib.hid (HBr.out.trans he3.below); clear hi3 he3)
        (try go_end0)
        (try go_wp2_with fail)
        go_roundg (gk - 1)
        case measure => omega
        case rel => exact ⟨k + 1, by omega, by go_num, by omega, HI3, HP3, HO3, HB3⟩
      · have HIe : Hid (BInv wr base Bl (es16 false ys)) := Lib.hid (by
          have := HIr.out
          rwa [List.take_of_length_le (by rw [HN.out]; omega)] at this)
        go_wp2_with fail
        go_ret
        exact HE.out _ HIe.out HBr.out
def PA_high (W : World) (base Bl : Nat) (l : List UInt8) (e : Ending) (W' : World) : Prop := e = .returned (.bool (okB l)) ∧ BInv W' base Bl (es16 true (if okB l = true then scl l else [])) ∧ Below base W W'
set_option maxRecDepth 100000 in
set_option maxHeartbeats 2000000 in
theorem putAll_high (base Bl : Nat) (s : ByteArray) (W : World) (hg : Gl W) (hs : s.size ≤ 10000) (hbase : base ≤ W.heap.size) (hBl : base ≤ Bl) (hI : BInv W base Bl []) :
    Calls Tryd.prog 28 #[.string s, .func (.func 27) #[.pointer (some ⟨Bl, 0, none⟩)] #[]] W fun e w' => PA_high W base Bl s.data.toList e w' := by
  have hsz : s.data.toList.length = s.size := by simp
  have hsc := scal_any s W hg (by omega)
  obtain ⟨l, hl⟩ : ∃ l, s.data.toList = l := ⟨_, rfl⟩
  rw [hl] at hsz hsc ⊢
  clear hl
  have hlen := ok_or_len l (okB l) rfl
  have hall : allB (if okB l = true then scl l else []) = true := by
    cases h : okB l
    · rfl
    · rw [if_pos rfl]; exact (ok_back _ l (Nat.le_refl _) h).1
  unfold ScalS at hsc
  obtain ⟨c, hc⟩ : ∃ c, okB l = c := ⟨_, rfl⟩
  obtain ⟨ys, hys⟩ : ∃ ys, (if okB l = true then scl l else []) = ys := ⟨_, rfl⟩
  rw [hys] at hlen hall hsc
  have HE : Hid (∀ w', BInv w' base Bl (es16 true ys) → Below base W w' → PA_high W base Bl l (.returned (.bool c)) w') := Lib.hid (fun w' h1 h2 => ⟨by rw [hc], by rw [hys]; exact h1, h2⟩)
  rw [hc] at hsc
  clear hc hys hg
  have HSC := Lib.hid hsc
  have HI := Lib.hid hI
  have HBL := Lib.hid hI.lt
  clear hsc hI
  by_cases hx : ys = []
  · subst hx
    go_enter Tryd.func28, Tryd.ntmps28
    go_wp2_with (first
      | (go_at_call 37; refine HSC.out.mono ?_; rintro e w1 ⟨u, rfl, ho1, hb1⟩; have HB1 := Lib.hid hb1; obtain ⟨p1, cap1, rfl⟩ := (ints_of_own ho1).form; clear ho1 hb1)
      | (go_at_call 38; refine (scalarsBy_any _ _ _ _).mono ?_; rintro e w2 ⟨rfl, rfl⟩))
    refine wp_loop_rounds 1 ?_; rw [rounds_succ]
    go_wp2_with fail
    go_ret
    exact HE.out _ (HI.out.below (HB1.out.alloc HB1.out.size _)) (((HB1.out.mono hbase)).alloc (Nat.le_trans hbase HB1.out.size) _)
  · have hN0 : 0 < ys.length := List.length_pos_iff.2 hx
    obtain ⟨N, HN⟩ : ∃ N, Hid (ys.length = N) := ⟨_, Lib.hid rfl⟩
    have hN1 : 0 < N := by rw [← HN.out]; exact hN0
    have hN : N ≤ 10000 := by rw [← HN.out]; omega
    have HALL := Lib.hid hall
    have HSC2 : Hid (Calls Tryd.prog 37 #[.string s] W fun e w' => ∃ g cap, e = .returned (.tuple #[.slice (some ⟨g, 0, none⟩) N cap, .bool c]) ∧ OwnI w' W.heap.size (.slice (some ⟨g, 0, none⟩) N cap) ys ∧ Below W.heap.size W w') := Lib.hid (HSC.out.mono (by
      rintro e w' ⟨v, he, ho, hb⟩
      obtain ⟨g, cap, rfl, _⟩ := World.ownsRow.form ho hN0
      rw [HN.out] at he ho
      exact ⟨g, cap, he, ho, hb⟩))
    clear hx hN0 hlen hall HSC
    go_enter Tryd.func28, Tryd.ntmps28
    go_wp2_with (first
      | (go_at_call 37; refine HSC2.out.mono ?_; rintro e w1 ⟨g, cap, rfl, ho1, hb1⟩; have HB1 := Lib.hid hb1; have HO1 := Lib.hid ho1; clear ho1 hb1)
      | (go_at_call 38; refine (scalarsBy_any _ _ _ _).mono ?_; rintro e w2 ⟨rfl, hw2⟩; have HW2 := Lib.hid hw2; clear hw2))
    have HI2 : Hid (BInv w2 base Bl []) := Lib.hid (by rw [HW2.out]; exact HI.out.below (HB1.out.alloc HB1.out.size _))
    have HB2 : Hid (Below base W w2) := Lib.hid (by rw [HW2.out]; exact ((HB1.out.mono hbase)).alloc (Nat.le_trans hbase HB1.out.size) _)
    have HP2 : Hid (Boxed w2 w1.heap.size 47 (.func (.func 27) #[.pointer (some ⟨Bl, 0, none⟩)] #[])) := Lib.hid (by rw [HW2.out]; exact Boxed.new _ _ _)
    have HO2 : Hid (OwnI w2 W.heap.size (.slice (some ⟨g, 0, none⟩) N cap) ys) := Lib.hid (by rw [HW2.out]; exact World.ownsRow.alloc HO1.out _)
    have hne : w1.heap.size ≠ Bl := by have := HB1.out.size; have := HBL.out; omega
    go_loopg [19] (N + 1) (fun gg q19 wr => ∃ (k : Nat), k + gg = N + 1 ∧ q19 = .int .i64 k ∧ k ≤ N ∧ Hid (BInv wr base Bl (es16 true (ys.take k))) ∧ Hid (Boxed wr w1.heap.size 47 (.func (.func 27) #[.pointer (some ⟨Bl, 0, none⟩)] #[])) ∧ Hid (OwnI wr W.heap.size (.slice (some ⟨g, 0, none⟩) N cap) ys) ∧ Hid (Below base W wr))
    case atStart => exact ⟨0, by omega, rfl, by omega, HI2, HP2, HO2, HB2⟩
    case round =>
      obtain ⟨k, hkg, rfl, hkN, HIr, HPr, HOr, HBr⟩ := hrel
      have hwz := HBr.out.size
      by_cases hk : k < N
      · have hk' : k < ys.length := by rw [HN.out]; exact hk
        have hcell : wr.cell? ⟨g, k, none⟩ = some (.int .i64 ys[k]) := (own_cells HOr.out).2 k hk'
        have hf : (es16 true (ys.take k)).length ≤ 4 * k := by
          have := es16_few true (ys.take k); have := List.length_take_le k ys; omega
        have HX : Hid (es16 true (ys.take (k + 1)) = es16 true (ys.take k) ++ e16 true ys[k]) := Lib.hid (es16_take true hk')
        have hb := all_get HALL.out hk'
        obtain ⟨r, hr⟩ : ∃ r, ys[k] = r := ⟨_, rfl⟩
        rw [hr] at hcell hb
        have HC := Lib.hid (sc_high base Bl w1.heap.size (es16 true (ys.take k)) r wr (by omega) hBl HIr.out HPr.out hne (by omega) hb)
        have HX2 : Hid (es16 true (ys.take (k + 1)) = es16 true (ys.take k) ++ e16 true r) := Lib.hid (by rw [HX.out, hr])
        clear HX hr hk' hb
        go_wp2_with (go_at_call 44; refine HC.out.mono ?_; rintro e w3 ⟨rfl, hi3, he3⟩; have HI3 : Hid (BInv w3 base Bl (es16 true (ys.take (k + 1)))) := Lib.hid (by rw [HX2.out]; exact hi3); have HP3 := Lib.hid (he3.box _ _ _ (by decide) hne HPr.out); have HO3 : Hid (OwnI w3 W.heap.size (.slice (some ⟨g, 0, none⟩) N cap) ys) := Lib.hid (he3.row _ _ _ _ HBL.out HOr.out); have HB3 := Lib.hid (HBr.out.trans he3.below); clear hi3 he3)
        (try go_end0)
        (try go_wp2_with fail)
        go_roundg (gk - 1)
        case measure => omega
        case rel => exact ⟨k + 1, by omega, by go_num, by omega, HI3, HP3, HO3, HB3⟩
      · have HIe : Hid (BInv wr base Bl (es16 true ys)) := Lib.hid (by
          have := HIr.out
          rwa [List.take_of_length_le (by rw [HN.out]; omega)] at this)
        go_wp2_with fail
        go_ret
        exact HE.out _ HIe.out HBr.out
def PA_cnt (W : World) (base Bl : Nat) (l : List UInt8) (e : Ending) (W' : World) : Prop := e = .returned (.bool (okB l)) ∧ CInv W' base Bl (ns16 (if okB l = true then scl l else [])) ∧ Below base W W'
set_option maxRecDepth 100000 in
set_option maxHeartbeats 2000000 in
theorem putAll_cnt (base Bl : Nat) (s : ByteArray) (W : World) (hg : Gl W) (hs : s.size ≤ 10000) (hbase : base ≤ W.heap.size) (hBl : base ≤ Bl) (hI : CInv W base Bl 0) :
    Calls Tryd.prog 28 #[.string s, .func (.func 30) #[] #[.pointer (some ⟨Bl, 0, none⟩)]] W fun e w' => PA_cnt W base Bl s.data.toList e w' := by
  have hsz : s.data.toList.length = s.size := by simp
  have hsc := scal_any s W hg (by omega)
  obtain ⟨l, hl⟩ : ∃ l, s.data.toList = l := ⟨_, rfl⟩
  rw [hl] at hsz hsc ⊢
  clear hl
  have hlen := ok_or_len l (okB l) rfl
  have hall : allB (if okB l = true then scl l else []) = true := by
    cases h : okB l
    · rfl
    · rw [if_pos rfl]; exact (ok_back _ l (Nat.le_refl _) h).1
  unfold ScalS at hsc
  obtain ⟨c, hc⟩ : ∃ c, okB l = c := ⟨_, rfl⟩
  obtain ⟨ys, hys⟩ : ∃ ys, (if okB l = true then scl l else []) = ys := ⟨_, rfl⟩
  rw [hys] at hlen hall hsc
  have HE : Hid (∀ w', CInv w' base Bl (ns16 ys) → Below base W w' → PA_cnt W base Bl l (.returned (.bool c)) w') := Lib.hid (fun w' h1 h2 => ⟨by rw [hc], by rw [hys]; exact h1, h2⟩)
  rw [hc] at hsc
  clear hc hys hg
  have HSC := Lib.hid hsc
  have HI := Lib.hid hI
  have HBL := Lib.hid hI.lt
  clear hsc hI
  by_cases hx : ys = []
  · subst hx
    go_enter Tryd.func28, Tryd.ntmps28
    go_wp2_with (first
      | (go_at_call 37; refine HSC.out.mono ?_; rintro e w1 ⟨u, rfl, ho1, hb1⟩; have HB1 := Lib.hid hb1; obtain ⟨p1, cap1, rfl⟩ := (ints_of_own ho1).form; clear ho1 hb1)
      | (go_at_call 38; refine (scalarsBy_any _ _ _ _).mono ?_; rintro e w2 ⟨rfl, rfl⟩))
    refine wp_loop_rounds 1 ?_; rw [rounds_succ]
    go_wp2_with fail
    go_ret
    exact HE.out _ (HI.out.below (HB1.out.alloc HB1.out.size _)) (((HB1.out.mono hbase)).alloc (Nat.le_trans hbase HB1.out.size) _)
  · have hN0 : 0 < ys.length := List.length_pos_iff.2 hx
    obtain ⟨N, HN⟩ : ∃ N, Hid (ys.length = N) := ⟨_, Lib.hid rfl⟩
    have hN1 : 0 < N := by rw [← HN.out]; exact hN0
    have hN : N ≤ 10000 := by rw [← HN.out]; omega
    have HALL := Lib.hid hall
    have HSC2 : Hid (Calls Tryd.prog 37 #[.string s] W fun e w' => ∃ g cap, e = .returned (.tuple #[.slice (some ⟨g, 0, none⟩) N cap, .bool c]) ∧ OwnI w' W.heap.size (.slice (some ⟨g, 0, none⟩) N cap) ys ∧ Below W.heap.size W w') := Lib.hid (HSC.out.mono (by
      rintro e w' ⟨v, he, ho, hb⟩
      obtain ⟨g, cap, rfl, _⟩ := World.ownsRow.form ho hN0
      rw [HN.out] at he ho
      exact ⟨g, cap, he, ho, hb⟩))
    clear hx hN0 hlen hall HSC
    go_enter Tryd.func28, Tryd.ntmps28
    go_wp2_with (first
      | (go_at_call 37; refine HSC2.out.mono ?_; rintro e w1 ⟨g, cap, rfl, ho1, hb1⟩; have HB1 := Lib.hid hb1; have HO1 := Lib.hid ho1; clear ho1 hb1)
      | (go_at_call 38; refine (scalarsBy_any _ _ _ _).mono ?_; rintro e w2 ⟨rfl, hw2⟩; have HW2 := Lib.hid hw2; clear hw2))
    have HI2 : Hid (CInv w2 base Bl 0) := Lib.hid (by rw [HW2.out]; exact HI.out.below (HB1.out.alloc HB1.out.size _))
    have HB2 : Hid (Below base W w2) := Lib.hid (by rw [HW2.out]; exact ((HB1.out.mono hbase)).alloc (Nat.le_trans hbase HB1.out.size) _)
    have HP2 : Hid (Boxed w2 w1.heap.size 47 (.func (.func 30) #[] #[.pointer (some ⟨Bl, 0, none⟩)])) := Lib.hid (by rw [HW2.out]; exact Boxed.new _ _ _)
    have HO2 : Hid (OwnI w2 W.heap.size (.slice (some ⟨g, 0, none⟩) N cap) ys) := Lib.hid (by rw [HW2.out]; exact World.ownsRow.alloc HO1.out _)
    have hne : w1.heap.size ≠ Bl := by have := HB1.out.size; have := HBL.out; omega
    go_loopg [19] (N + 1) (fun gg q19 wr => ∃ (k : Nat), k + gg = N + 1 ∧ q19 = .int .i64 k ∧ k ≤ N ∧ Hid (CInv wr base Bl (ns16 (ys.take k))) ∧ Hid (Boxed wr w1.heap.size 47 (.func (.func 30) #[] #[.pointer (some ⟨Bl, 0, none⟩)])) ∧ Hid (OwnI wr W.heap.size (.slice (some ⟨g, 0, none⟩) N cap) ys) ∧ Hid (Below base W wr))
    case atStart => exact ⟨0, by omega, rfl, by omega, HI2, HP2, HO2, HB2⟩
    case round =>
      obtain ⟨k, hkg, rfl, hkN, HIr, HPr, HOr, HBr⟩ := hrel
      have hwz := HBr.out.size
      by_cases hk : k < N
      · have hk' : k < ys.length := by rw [HN.out]; exact hk
        have hcell : wr.cell? ⟨g, k, none⟩ = some (.int .i64 ys[k]) := (own_cells HOr.out).2 k hk'
        have hf : ns16 (ys.take k) ≤ 4 * k := by
          have := (ns16_le (ys.take k)).2; have := List.length_take_le k ys; omega
        have HX : Hid (ns16 (ys.take (k + 1)) = ns16 (ys.take k) + n16 ys[k]) := Lib.hid (ns16_take hk')
        have hb := all_get HALL.out hk'
        obtain ⟨r, hr⟩ : ∃ r, ys[k] = r := ⟨_, rfl⟩
        rw [hr] at hcell hb
        have HC := Lib.hid (sc_cnt base Bl w1.heap.size (ns16 (ys.take k)) r wr (by omega) hBl HIr.out HPr.out hne (by omega) hb)
        have HX2 : Hid (ns16 (ys.take (k + 1)) = ns16 (ys.take k) + n16 r) := Lib.hid (by rw [HX.out, hr])
        clear HX hr hk' hb
        go_wp2_with (go_at_call 44; refine HC.out.mono ?_; rintro e w3 ⟨rfl, hi3, he3⟩; have HI3 : Hid (CInv w3 base Bl (ns16 (ys.take (k + 1)))) := Lib.hid (by rw [HX2.out]; exact hi3); have HP3 := Lib.hid (he3.box _ _ _ (by decide) hne HPr.out); have HO3 : Hid (OwnI w3 W.heap.size (.slice (some ⟨g, 0, none⟩) N cap) ys) := Lib.hid (he3.row _ _ _ _ HBL.out HOr.out); have HB3 := Lib.hid (HBr.out.trans he3.below); clear hi3 he3)
        (try go_end0)
        (try go_wp2_with fail)
        go_roundg (gk - 1)
        case measure => omega
        case rel => exact ⟨k + 1, by omega, by go_num, by omega, HI3, HP3, HO3, HB3⟩
      · have HIe : Hid (CInv wr base Bl (ns16 ys)) := Lib.hid (by
          have := HIr.out
          rwa [List.take_of_length_le (by rw [HN.out]; omega)] at this)
        go_wp2_with fail
        go_ret
        exact HE.out _ HIe.out HBr.out
set_option maxHeartbeats 1000000 in
theorem encode_low (s : ByteArray) (w : World) (hg : Gl w) (hs : s.size ≤ 10000) : Calls Tryd.prog 11 #[.string s, .bool false] w fun e w' => Enc16S w false s.data.toList e w' := by
  have hmf : ∀ (fn : Fn) (first cap : Array Value) (w : World), (Instr.makeFunc fn first cap).run Tryd.prog w = .ok (.func fn first cap) w := fun _ _ _ _ => rfl
  have hp := putAll_low w.heap.size w.heap.size s (w.alloc (.cells #[.slice none 0 0] 46)) (hg.alloc _) hs (by simp) (Nat.le_refl _) ⟨.slice none 0 0, Boxed.new _ _ _, own_nil _ _⟩
  obtain ⟨l, hl⟩ : ∃ l, s.data.toList = l := ⟨_, rfl⟩
  rw [hl] at hp ⊢
  clear hl hg
  unfold PA_low at hp
  have HB0 : Hid (∀ w1, Below w.heap.size (w.alloc (.cells #[.slice none 0 0] 46)) w1 → Below w.heap.size w w1) := Lib.hid (fun w1 h => ((Below.refl _ w).alloc (Nat.le_refl _) _).trans h)
  cases hok : okB l
  · have HE : Hid (∀ w1, Below w.heap.size w w1 → Enc16S w false l (.returned (.tuple #[.string ⟨#[]⟩, .int .i64 70])) w1) := Lib.hid (fun w1 hb => enc16_bad hok hb)
    rw [hok] at hp
    have HP := Lib.hid hp
    clear hp hok
    go_enter Tryd.func11, Tryd.ntmps11
    go_wp2_with (go_at_call 28; refine HP.out.mono ?_; rintro e w1 ⟨rfl, _, hb1⟩; have HB1 := Lib.hid hb1; clear hb1)
    go_ret2
    exact HE.out _ (HB0.out _ HB1.out)
  · have HE : Hid (∀ w1, Below w.heap.size w w1 → Enc16S w false l (.returned (.tuple #[.string (str (es16 false (scl l))), .int .i64 0])) w1) := Lib.hid (fun w1 hb => enc16_good hok hb)
    rw [hok] at hp
    simp only [reduceIte] at hp
    have HP := Lib.hid hp
    clear hp hok
    go_enter Tryd.func11, Tryd.ntmps11
    go_wp2_with (go_at_call 28; refine HP.out.mono ?_; rintro e w1 ⟨rfl, ⟨v, hv, ho⟩, hb1⟩; have HB1 := Lib.hid hb1; have hc1 := hv.cell; have hconv := conv_own ho; obtain ⟨p1, cap1, rfl⟩ := own_form ho; clear hb1 hv ho)
    go_ret2
    exact HE.out _ (HB0.out _ HB1.out)
set_option maxHeartbeats 1000000 in
theorem encode_high (s : ByteArray) (w : World) (hg : Gl w) (hs : s.size ≤ 10000) : Calls Tryd.prog 11 #[.string s, .bool true] w fun e w' => Enc16S w true s.data.toList e w' := by
  have hmf : ∀ (fn : Fn) (first cap : Array Value) (w : World), (Instr.makeFunc fn first cap).run Tryd.prog w = .ok (.func fn first cap) w := fun _ _ _ _ => rfl
  have hp := putAll_high w.heap.size w.heap.size s (w.alloc (.cells #[.slice none 0 0] 46)) (hg.alloc _) hs (by simp) (Nat.le_refl _) ⟨.slice none 0 0, Boxed.new _ _ _, own_nil _ _⟩
  obtain ⟨l, hl⟩ : ∃ l, s.data.toList = l := ⟨_, rfl⟩
  rw [hl] at hp ⊢
  clear hl hg
  unfold PA_high at hp
  have HB0 : Hid (∀ w1, Below w.heap.size (w.alloc (.cells #[.slice none 0 0] 46)) w1 → Below w.heap.size w w1) := Lib.hid (fun w1 h => ((Below.refl _ w).alloc (Nat.le_refl _) _).trans h)
  cases hok : okB l
  · have HE : Hid (∀ w1, Below w.heap.size w w1 → Enc16S w true l (.returned (.tuple #[.string ⟨#[]⟩, .int .i64 70])) w1) := Lib.hid (fun w1 hb => enc16_bad hok hb)
    rw [hok] at hp
    have HP := Lib.hid hp
    clear hp hok
    go_enter Tryd.func11, Tryd.ntmps11
    go_wp2_with (go_at_call 28; refine HP.out.mono ?_; rintro e w1 ⟨rfl, _, hb1⟩; have HB1 := Lib.hid hb1; clear hb1)
    go_ret2
    exact HE.out _ (HB0.out _ HB1.out)
  · have HE : Hid (∀ w1, Below w.heap.size w w1 → Enc16S w true l (.returned (.tuple #[.string (str (es16 true (scl l))), .int .i64 0])) w1) := Lib.hid (fun w1 hb => enc16_good hok hb)
    rw [hok] at hp
    simp only [reduceIte] at hp
    have HP := Lib.hid hp
    clear hp hok
    go_enter Tryd.func11, Tryd.ntmps11
    go_wp2_with (go_at_call 28; refine HP.out.mono ?_; rintro e w1 ⟨rfl, ⟨v, hv, ho⟩, hb1⟩; have HB1 := Lib.hid hb1; have hc1 := hv.cell; have hconv := conv_own ho; obtain ⟨p1, cap1, rfl⟩ := own_form ho; clear hb1 hv ho)
    go_ret2
    exact HE.out _ (HB0.out _ HB1.out)
theorem encode_any (s : ByteArray) (big : Bool) (w : World) (hg : Gl w) (hs : s.size ≤ 10000) : Calls Tryd.prog 11 #[.string s, .bool big] w fun e w' => Enc16S w big s.data.toList e w' := by
  cases big
  · exact encode_low s w hg hs
  · exact encode_high s w hg hs
theorem units_any (s : ByteArray) (w : World) (hg : Gl w) (hs : s.size ≤ 10000) : Calls Tryd.prog 16 #[.string s] w fun e w' => RetI (if okB s.data.toList = true then (ns16 (scl s.data.toList) : Int) else 0) w e w' := by
  have hmf : ∀ (fn : Fn) (first cap : Array Value) (w : World), (Instr.makeFunc fn first cap).run Tryd.prog w = .ok (.func fn first cap) w := fun _ _ _ _ => rfl
  have hp := putAll_cnt w.heap.size w.heap.size s (w.alloc (.cells #[.int .i64 0] 3)) (hg.alloc _) hs (by simp) (Nat.le_refl _) (Boxed.new _ _ _)
  obtain ⟨l, hl⟩ : ∃ l, s.data.toList = l := ⟨_, rfl⟩
  rw [hl] at hp ⊢
  clear hl hg
  unfold PA_cnt at hp
  have HB0 : Hid (∀ w1, Below w.heap.size (w.alloc (.cells #[.int .i64 0] 3)) w1 → Below w.heap.size w w1) := Lib.hid (fun w1 h => ((Below.refl _ w).alloc (Nat.le_refl _) _).trans h)
  obtain ⟨n, hn⟩ : ∃ n : Int, (if okB l = true then (ns16 (scl l) : Int) else 0) = n := ⟨_, rfl⟩
  obtain ⟨m, hm⟩ : ∃ m : Nat, ns16 (if okB l = true then scl l else []) = m := ⟨_, rfl⟩
  have HN : Hid ((m : Int) = n) := Lib.hid (by
    rw [← hm, ← hn]; split <;> rfl)
  obtain ⟨c, hc⟩ : ∃ c, okB l = c := ⟨_, rfl⟩
  rw [hm, hc] at hp
  rw [hn]
  have HP := Lib.hid hp
  clear hp hm hn hc
  go_enter Tryd.func16, Tryd.ntmps16
  go_wp2_with (go_at_call 28; refine HP.out.mono ?_; rintro e w1 ⟨rfl, hi1, hb1⟩; have HB1 := Lib.hid hb1; have hc1 := Boxed.cell hi1; clear hb1 hi1)
  go_ret
  exact ⟨by rw [← HN.out]; rfl, HB0.out _ HB1.out⟩
end Go.Proofs.YtnalnpidmmkfgaaDoor
