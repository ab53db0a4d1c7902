/- The walk of MediaBlank. -/
import Derived.Test.YtgadpoahjlnheaaK
import Derived.Test.YtgadpoahjlnheaaAA
import Derived.Laws.BitsLemmas
namespace Go.Proofs.Ytgadpoahjlnheaa.Med
open Go.RowKit
set_option linter.unusedVariables false
set_option linter.unusedSimpArgs false
open Lab (RetS ret_str str str_size str_list str_eta str_inj u8v st_ixb info5 info_parts)
theorem and7 (n : Int) : ∃ m : Nat, m ≤ 7 ∧ bits .and .i64 n 7 = (m : Int) := by
  have h2 : (BitVec.ofInt 64 n &&& BitVec.ofInt 64 7).toNat = (BitVec.ofInt 64 n).toNat &&& 7 := by rw [BitVec.toNat_and]; rfl
  have hle : ((BitVec.ofInt 64 n).toNat &&& 7) ≤ 7 := Nat.and_le_right
  refine ⟨((BitVec.ofInt 64 n).toNat &&& 7), hle, ?_⟩
  show IntKind.i64.wrap (((BitVec.ofInt 64 n &&& BitVec.ofInt 64 7).toNat : Nat) : Int) = _
  rw [h2, IntKind.wrap_i64]
  omega
theorem and1 {k : Nat} (h : k < 8) : bits .and .i64 (k : Int) 1 = ((k % 2 : Nat) : Int) := by
  have : ∀ k : Fin 8, bits .and .i64 (k.val : Int) 1 = ((k.val % 2 : Nat) : Int) := by decide +kernel
  exact this ⟨k, h⟩
theorem al (W : World) (o : Obj) : Below W.heap.size W (W.alloc o) := (Below.refl _ _).alloc (Nat.le_refl _) _
/-- Some blanks. -/
def sm : Nat → List UInt8
  | 0 => []
  | k + 1 => sm k ++ [if k % 2 = 0 then 32 else 9]
theorem sm_succ (k : Nat) : sm (k + 1) = sm k ++ [if k % 2 = 0 then 32 else 9] := rfl
theorem sm_blk : ∀ k, (sm k).all blk = true
  | 0 => rfl
  | k + 1 => by
    show (sm k ++ [_]).all blk = true
    rw [List.all_append, sm_blk k]
    by_cases h : k % 2 = 0
    · rw [if_pos h]; decide
    · rw [if_neg h]; decide
theorem sm_len : ∀ k, (sm k).length = k
  | 0 => rfl
  | k + 1 => by show (sm k ++ [_]).length = _; rw [List.length_append, sm_len k]; rfl
theorem str_app (a b : List UInt8) : str a ++ str b = str (a ++ b) := by
  apply ByteArray.ext; simp [str]
theorem blank_pair (w0 : World) : (Instr.slice 9 (.string ⟨#[32, 9]⟩) (some (.int .i64 0)) (some (.int .i64 1)) none).run Try.prog w0 = .ok (.string (str [32])) w0 ∧ (Instr.slice 9 (.string ⟨#[32, 9]⟩) (some (.int .i64 1)) (some (.int .i64 2)) none).run Try.prog w0 = .ok (.string (str [9])) w0 :=
  ⟨slice_law ⟨#[32, 9]⟩ (l := [32, 9]) 0 1 (by decide) (by decide) rfl rfl w0, slice_law ⟨#[32, 9]⟩ (l := [32, 9]) 1 2 (by decide) (by decide) rfl rfl w0⟩
def ParseU (r : Option Med) (w : World) (e : Ending) (w' : World) : Prop :=
  ∃ p cap, e = .returned (.tuple #[.agg #[.string (str (medOf r).1), .slice p (medOf r).2.length cap], .int .i64 (errOf r)]) ∧ Prs w' (.slice p (medOf r).2.length cap) (medOf r).2 ∧ Below w.heap.size w w'
theorem ParseE.un {r : Option Med} {w w' : World} {e : Ending} (h : ParseE r w e w') : ParseU r w e w' := by
  obtain ⟨u, rfl, hp, hb⟩ := h
  obtain ⟨p, cap, rfl⟩ := hp.form
  exact ⟨p, cap, rfl, hp, hb⟩
theorem parse_str (l : List UInt8) (w : World) (h : l.length ≤ 100000) : Calls Try.prog 8 #[.string (str l)] w fun e w' => ParseU (parse l) w e w' := by
  have := parse_any (str l) w (by rw [str_size]; exact h)
  rw [str_list] at this
  exact this.mono fun e w' h => h.un
set_option maxRecDepth 100000 in
set_option maxHeartbeats 4000000 in
theorem blank_walk (s : ByteArray) (n : Int) (w : World) : Calls Try.prog 6 #[.string s, .int .i64 n] w fun e w' => RetB true w e w' := by
  have HW := Lib.hid wakes_any
  by_cases hs : s.size ≤ 2000
  · have hsi : (s.size : Int) ≤ 2000 := by omega
    have hd : decide ((s.size : Int) ≤ 2000) = true := by simp; omega
    obtain ⟨m, hm7, hmm⟩ := and7 n
    obtain ⟨l, hl⟩ : ∃ l, s = str l := ⟨s.data.toList, (str_eta s).symm⟩
    have hll : l.length ≤ 2000 := by rw [← str_size, ← hl]; exact hs
    obtain ⟨b, HBm⟩ : ∃ b, Hid (b = sm m) := ⟨_, Lib.hid rfl⟩
    have hbk : b.all blk = true := by rw [HBm.out]; exact sm_blk m
    have hbl : b.length ≤ 7 := by rw [HBm.out, sm_len]; exact hm7
    obtain ⟨r, hr⟩ : ∃ r, parse l = r := ⟨_, rfl⟩
    have P1 : Hid (∀ w, Calls Try.prog 8 #[.string s] w fun e w' => ParseU r w e w') := Lib.hid fun w => by
      have := parse_str l w (by omega)
      rwa [hr, ← hl] at this
    have P2 : Hid (∀ w, Calls Try.prog 8 #[.string (str b ++ s ++ str b)] w fun e w' => ParseU r w e w') := Lib.hid fun w => by
      have := parse_str (b ++ l ++ b) w (by simp; omega)
      rwa [parse_blank hbk, hr, ← str_app, ← str_app, ← hl] at this
    have P3 : Hid (∀ w, Calls Try.prog 8 #[.string (s ++ str b ++ ⟨#[59]⟩ ++ str b ++ ⟨#[59]⟩ ++ str b)] w fun e w' => ParseU r w e w') := Lib.hid fun w => by
      have := parse_str (l ++ b ++ [59] ++ b ++ [59] ++ b) w (by simp; omega)
      rwa [parse_empty hbk, hr, ← str_app, ← str_app, ← str_app, ← str_app, ← str_app, ← hl] at this
    have HS : Hid (∀ (W : World) (u u' : Value), Prs W u (medOf r).2 → Prs W u' (medOf r).2 → Calls Try.prog 12 #[.agg #[.string (str (medOf r).1), u], .agg #[.string (str (medOf r).1), u']] W fun e w' => e = .returned (.bool true) ∧ Below W.heap.size W w') := Lib.hid fun W u u' h1 h2 => by
      have := rsame_any (medOf r) (medOf r) u u' W h1 h2 (by have := (medOf_tot l).2; rw [hr] at this; unfold maxLen; show (r.getD ([], [])).2.length ≤ _; omega)
      simpa using this
    clear hr hbk hll hl
    go_enter Try.func6, Try.ntmps6
    go_wp2_with fail
    have hsl : (∀ w0 : World, (Instr.slice 9 (.string ⟨#[32, 9]⟩) (some (.int .i64 0)) (some (.int .i64 1)) none).run Try.prog w0 = .ok (.string (str [32])) w0) ∧ (∀ w0 : World, (Instr.slice 9 (.string ⟨#[32, 9]⟩) (some (.int .i64 1)) (some (.int .i64 2)) none).run Try.prog w0 = .ok (.string (str [9])) w0) := ⟨fun w0 => (blank_pair w0).1, fun w0 => (blank_pair w0).2⟩
    obtain ⟨hsl0, hsl1⟩ := hsl
    have h32 : (str [32]).size ≤ 1 := by rw [str_size]; decide
    have h9 : (str [9]).size ≤ 1 := by rw [str_size]; decide
    go_loopg [5, 6] 8 (fun g q5 q6 wr => ∃ (k : Nat) (x : ByteArray), k + g = 8 ∧ w = wr ∧ q5 = .string x ∧ q6 = .int .i64 k ∧ k ≤ m ∧ Hid (x = str (sm k)) ∧ x.size ≤ 8)
    case atStart => exact ⟨0, ⟨#[]⟩, by omega, rfl, rfl, rfl, by omega, Lib.hid rfl, by decide⟩
    case round =>
      obtain ⟨k, x, hkg, hw, rfl, rfl, hkm, HX, hxs⟩ := hrel
      subst hw
      by_cases hlt : k < m
      · have hxs2 : x.size = k := by rw [HX.out, str_size, sm_len]
        have hsz : ∀ c, (x ++ str [c]).size = k + 1 := fun c => by rw [ByteArray.size_append, hxs2, str_size]; rfl
        have hk1 := and1 (k := k) (by omega)
        by_cases he : k % 2 = 0
        · rw [he] at hk1
          have HX2 : Hid (x ++ str [32] = str (sm (k + 1))) := Lib.hid (by rw [HX.out, str_app]; rw [sm_succ, if_pos he])
          have hs8 : (x ++ str [32]).size ≤ 8 := by rw [hsz]; omega
          clear hsz he
          go_wp2_with fail
          go_roundg (gk - 1)
          case measure => omega
          case rel => exact ⟨k + 1, _, by omega, rfl, rfl, by go_num, by omega, HX2, hs8⟩
        · have he1 : k % 2 = 1 := by omega
          rw [he1] at hk1
          have HX2 : Hid (x ++ str [9] = str (sm (k + 1))) := Lib.hid (by rw [HX.out, str_app]; rw [sm_succ, if_neg he])
          have hs8 : (x ++ str [9]).size ≤ 8 := by rw [hsz]; omega
          clear hsz he he1
          go_wp2_with fail
          go_roundg (gk - 1)
          case measure => omega
          case rel => exact ⟨k + 1, _, by omega, rfl, rfl, by go_num, by omega, HX2, hs8⟩
      · have hkm2 : k = m := by omega
        subst hkm2
        have hxb : x = str b := by rw [HX.out, HBm.out]
        subst hxb
        clear h32 h9
        clear hsl0 hsl1
        go_wp2_with (first
          | (go_at_call 8; refine (P1.out _).mono ?_; rintro _ w1 ⟨p1, cap1, rfl, hp1, hb1⟩; clear P1)
          | (go_at_call 8; refine (P2.out _).mono ?_; rintro _ w2 ⟨p2, cap2, rfl, hp2, hb2⟩; clear P2)
          | (go_at_call 8; refine (P3.out _).mono ?_; rintro _ w3 ⟨p3, cap3, rfl, hp3, hb3⟩; clear P3
             obtain ⟨e10, e11, _, _⟩ := blk2 (((((Blk.new w1 #[.string (str (medOf r).1), .slice p1 (medOf r).2.length cap1] 25).below hb2).alloc (.cells #[.string (str (medOf r).1), .slice p2 (medOf r).2.length cap2] 25)).below hb3).alloc (.cells #[.string (str (medOf r).1), .slice p3 (medOf r).2.length cap3] 25))
             obtain ⟨e20, e21, _, _⟩ := blk2 (((Blk.new w2 #[.string (str (medOf r).1), .slice p2 (medOf r).2.length cap2] 25).below hb3).alloc (.cells #[.string (str (medOf r).1), .slice p3 (medOf r).2.length cap3] 25))
             have q1 := ((((hp1.below (al w1 (.cells #[.string (str (medOf r).1), .slice p1 (medOf r).2.length cap1] 25))).below hb2).below (al w2 (.cells #[.string (str (medOf r).1), .slice p2 (medOf r).2.length cap2] 25))).below hb3).below (al w3 (.cells #[.string (str (medOf r).1), .slice p3 (medOf r).2.length cap3] 25))
             have q2 := ((hp2.below (al w2 (.cells #[.string (str (medOf r).1), .slice p2 (medOf r).2.length cap2] 25))).below hb3).below (al w3 (.cells #[.string (str (medOf r).1), .slice p3 (medOf r).2.length cap3] 25))
             have q3 := hp3.below (al w3 (.cells #[.string (str (medOf r).1), .slice p3 (medOf r).2.length cap3] 25)))
          | (go_at_call 12; refine (HS.out _ _ _ q1 q2).mono ?_; rintro _ w4 ⟨rfl, hb4⟩; clear q2 e10 e11 e20 e21
             obtain ⟨f10, f11, _, _⟩ := blk2 ((((((Blk.new w1 #[.string (str (medOf r).1), .slice p1 (medOf r).2.length cap1] 25).below hb2).alloc (.cells #[.string (str (medOf r).1), .slice p2 (medOf r).2.length cap2] 25)).below hb3).alloc (.cells #[.string (str (medOf r).1), .slice p3 (medOf r).2.length cap3] 25)).below hb4)
             obtain ⟨f30, f31, _, _⟩ := blk2 ((Blk.new w3 #[.string (str (medOf r).1), .slice p3 (medOf r).2.length cap3] 25).below hb4)
             have q4 := q1.below hb4
             have q5 := q3.below hb4
             clear q1 q3)
          | (go_at_call 12; refine (HS.out _ _ _ q4 q5).mono ?_; rintro _ w5 ⟨rfl, hb5⟩)
          | (go_at_call 7; refine (HW.out _).mono ?_; rintro _ w6 ⟨rfl, hb6⟩))
        go_ret
        exact ⟨rfl, below_call (below_call (below_call (below_call (below_call (below_call (below_call (below_call hb1 (al _ _)) hb2) (al _ _)) hb3) (al _ _)) hb4) hb5) hb6⟩
  · have hd : decide ((s.size : Int) ≤ 2000) = false := by simp; omega
    have hsi : (2000 : Int) < (s.size : Int) := by omega
    go_enter Try.func6, Try.ntmps6
    go_wp2_with (go_at_call 7; refine (HW.out _).mono ?_; rintro _ w6 ⟨rfl, hb6⟩)
    go_ret
    exact ⟨rfl, hb6⟩
end Go.Proofs.Ytgadpoahjlnheaa.Med
