/- Joined: LI, LD, LK, LN. -/
import Derived.BigQuiet
import Derived.Deep.AppendLies
import Derived.Deep.DeepCutAuto
import Derived.Deep.LoopGhost
import Derived.Deep.QuietTactic
import Derived.Deep.RegionHeld3
import Derived.Laws.AppendOwn
import Derived.Laws.BytesArg
import Derived.Laws.DeepStrings4
import Derived.Laws.Externs
import Derived.Laws.IdiomStrings
import Derived.Lib.Bytealg
import Derived.Lib.Hide
import Derived.LoopIn
import Derived.LoopN
import Derived.LoopNIn
import Derived.Maps.AppendAt
import Derived.OpenShut
import Derived.Outline
import Derived.OwnWalkIn
import Derived.ProofKit
import Derived.RangeFuncBound
import Derived.RangeFuncBox
import Derived.RangeFuncCalls
import Derived.RangeFuncLeaves
import Derived.RangeFuncNested
import Derived.Shelf.Abstract
import Derived.Shelf.RegionOpen
import Derived.StillTailTactics
import Derived.TacticsInMore
import Derived.Test.YtppabkllconkjaaGreatDoorRows
import Derived.WalkKit
import Derived.WalkMore
import Derived.Test.YtppabkllconkjaaGreatDoorK05
import Derived.Test.YtppabkllconkjaaGreatDoorK11
/- The contract of All: a range over the iterator. -/
namespace Go.Proofs.YtppabkllconkjaaGreatDoor.Lab
open Go.RowKit Go.Shelf
set_option linter.unusedVariables false
set_option linter.unusedSimpArgs false
set_option maxRecDepth 100000
attribute [local go_sem] Oper.semAt_some
def AllS (w : World) (e : Int) (r : Ending) (w' : World) : Prop := ∃ v, r = .returned v ∧ Strs w' v (allL e) ∧ Below w.heap.size w w'
end Go.Proofs.YtppabkllconkjaaGreatDoor.Lab
/- The contracts of white space and of Trim, the program's and the document's own. -/
namespace Go.Proofs.YtppabkllconkjaaGreatDoor.Lab
open Go.RowKit
set_option linter.unusedVariables false
set_option linter.unusedSimpArgs false
set_option maxRecDepth 100000
set_option maxHeartbeats 1600000 in
theorem rtrim_any (s : ByteArray) (w : World) (hs : s.size ≤ maxLen) : Calls Tryz.prog 54 #[.string s] w fun e w' => RetS (trm s.data.toList) w e w' := by
  unfold maxLen at hs
  have hsz : s.data.toList.length = s.size := by simp
  obtain ⟨l, HL⟩ : ∃ l, Hid (s.data.toList = l) := ⟨_, Lib.hid rfl⟩
  have HSZ : Hid (l.length = s.size) := Lib.hid (by rw [← HL.out]; exact hsz)
  have HE : Hid (∀ k (h : k < s.size), l[k]'(by rw [HSZ.out]; exact h) = s[k]) := Lib.hid (by
    intro k h
    have e := HL.out
    subst e
    rfl)
  rw [HL.out]
  clear hsz
  go_enter Tryz.func54, Tryz.ntmps54
  go_wp2_with fail
  go_loopg [3] (s.size + 1) (fun g q wr => ∃ (i : Nat), i + g = s.size + 1 ∧ q = .int .i64 i ∧ i ≤ s.size ∧ Hid (Up l i) ∧ Hid (Below w.heap.size w wr))
  case atStart => exact ⟨0, by omega, rfl, by omega, Lib.hid (Up.start _), Lib.hid (Below.refl _ _)⟩
  case round =>
    obtain ⟨i, hig, rfl, hi7, HU, HB⟩ := hrel
    by_cases hlt : i < s.size
    · have hlt2 : (i : Int) < (s.size : Int) := by omega
      have hk0 : (0 : Int) ≤ (i : Int) := by omega
      obtain ⟨b, hb⟩ : ∃ b, isW s[i] = b := ⟨_, rfl⟩
      cases b
      · have HD : Hid (Dn l i s.size) := Lib.hid (by
          have := HU.out.down (fun h => by rw [HE.out i hlt]; exact hb)
          rwa [HSZ.out] at this)
        go_wp2_with (go_at_call 91; refine (rwhite_any _ _).mono ?_; rintro e w1 ⟨rfl, rfl⟩)
        clear hb
        go_loopg [4] (s.size + 1) (fun g q wr => ∃ (e : Nat), e + 1 = g ∧ q = .int .i64 e ∧ i ≤ e ∧ e ≤ s.size ∧ Hid (Dn l i e) ∧ Hid (Below w.heap.size w wr))
        case atStart => exact ⟨s.size, rfl, rfl, hi7, Nat.le_refl _, HD, HB⟩
        case round =>
          obtain ⟨e, hge, rfl, hie, hes, HD, HB⟩ := hrel
          by_cases hlt : i < e
          · obtain ⟨k, rfl⟩ : ∃ k, e = k + 1 := ⟨e - 1, by omega⟩
            have hks : k < s.size := by omega
            have hw1 : ((k + 1 : Nat) : Int) - 1 = (k : Int) := by omega
            have hw2 : (k : Int) + 1 - 1 = (k : Int) := by omega
            have hw3 : IntKind.i64.wrap ((k : Int)) = k := by rw [IntKind.wrap_i64]; unfold maxLen at *; omega
            have hk0 : (0 : Int) ≤ (k : Int) := by omega
            have hk3 : (k : Int) < (s.size : Int) := by omega
            have hlt2 : (i : Int) < (k : Int) + 1 := by omega
            obtain ⟨b, hb⟩ : ∃ b, isW s[k] = b := ⟨_, rfl⟩
            cases b
            · have HT : Hid (trm l = (l.drop i).take (k + 1 - i)) := Lib.hid (HD.out.done fun _ => by simp only [Nat.add_sub_cancel]; rw [HE.out k hks]; exact hb)
              have hsl := slice_law s i (k + 1) (by omega) (by omega) HL.out HT.out
              push_cast at hsl
              go_wp2_with (go_at_call 91; refine (rwhite_any _ _).mono ?_; rintro e w1 ⟨rfl, rfl⟩)
              go_ret
              exact ⟨rfl, HB.out⟩
            · have HD2 : Hid (Dn l i k) := Lib.hid (HD.out.step hlt (by simp only [Nat.add_sub_cancel]; rw [HE.out k hks]; exact hb))
              go_wp2_with (go_at_call 91; refine (rwhite_any _ _).mono ?_; rintro e w1 ⟨rfl, rfl⟩)
              go_roundg (gk - 1)
              case measure => omega
              case rel => exact ⟨k, by omega, by go_num, by omega, by omega, HD2, HB⟩
          · obtain rfl : e = i := by omega
            have HT : Hid (trm l = (l.drop e).take (e - e)) := Lib.hid (HD.out.done fun h => absurd h (by omega))
            have hsl := slice_law s e e (by omega) (by omega) HL.out HT.out
            go_wp2_with fail
            go_ret
            exact ⟨rfl, HB.out⟩
      · have HU2 : Hid (Up l (i + 1)) := Lib.hid (HU.out.step (by rw [HSZ.out]; exact hlt) (by rw [HE.out i hlt]; exact hb))
        go_wp2_with (go_at_call 91; refine (rwhite_any _ _).mono ?_; rintro e w1 ⟨rfl, rfl⟩)
        go_roundg (gk - 1)
        case measure => omega
        case rel => exact ⟨i + 1, by omega, by go_num, by omega, HU2, HB⟩
    · have HD : Hid (Dn l i s.size) := Lib.hid (by
        have := HU.out.down (fun h => absurd h (by rw [HSZ.out]; exact hlt))
        rwa [HSZ.out] at this)
      go_wp2_with fail
      go_loopg [4] (s.size + 1) (fun g q wr => ∃ (e : Nat), e + 1 = g ∧ q = .int .i64 e ∧ i ≤ e ∧ e ≤ s.size ∧ Hid (Dn l i e) ∧ Hid (Below w.heap.size w wr))
      case atStart => exact ⟨s.size, rfl, rfl, hi7, Nat.le_refl _, HD, HB⟩
      case round =>
        obtain ⟨e, hge, rfl, hie, hes, HD, HB⟩ := hrel
        by_cases hlt : i < e
        · obtain ⟨k, rfl⟩ : ∃ k, e = k + 1 := ⟨e - 1, by omega⟩
          have hks : k < s.size := by omega
          have hw1 : ((k + 1 : Nat) : Int) - 1 = (k : Int) := by omega
          have hw2 : (k : Int) + 1 - 1 = (k : Int) := by omega
          have hw3 : IntKind.i64.wrap ((k : Int)) = k := by rw [IntKind.wrap_i64]; unfold maxLen at *; omega
          have hk0 : (0 : Int) ≤ (k : Int) := by omega
          have hk3 : (k : Int) < (s.size : Int) := by omega
          have hlt2 : (i : Int) < (k : Int) + 1 := by omega
          obtain ⟨b, hb⟩ : ∃ b, isW s[k] = b := ⟨_, rfl⟩
          cases b
          · have HT : Hid (trm l = (l.drop i).take (k + 1 - i)) := Lib.hid (HD.out.done fun _ => by simp only [Nat.add_sub_cancel]; rw [HE.out k hks]; exact hb)
            have hsl := slice_law s i (k + 1) (by omega) (by omega) HL.out HT.out
            push_cast at hsl
            go_wp2_with (go_at_call 91; refine (rwhite_any _ _).mono ?_; rintro e w1 ⟨rfl, rfl⟩)
            go_ret
            exact ⟨rfl, HB.out⟩
          · have HD2 : Hid (Dn l i k) := Lib.hid (HD.out.step hlt (by simp only [Nat.add_sub_cancel]; rw [HE.out k hks]; exact hb))
            go_wp2_with (go_at_call 91; refine (rwhite_any _ _).mono ?_; rintro e w1 ⟨rfl, rfl⟩)
            go_roundg (gk - 1)
            case measure => omega
            case rel => exact ⟨k, by omega, by go_num, by omega, by omega, HD2, HB⟩
        · obtain rfl : e = i := by omega
          have HT : Hid (trm l = (l.drop e).take (e - e)) := Lib.hid (HD.out.done fun h => absurd h (by omega))
          have hsl := slice_law s e e (by omega) (by omega) HL.out HT.out
          go_wp2_with fail
          go_ret
          exact ⟨rfl, HB.out⟩

end Go.Proofs.YtppabkllconkjaaGreatDoor.Lab
/- The contracts of the document's own All, Name, Texts. -/
namespace Go.Proofs.YtppabkllconkjaaGreatDoor.Lab
open Go.RowKit
set_option linter.unusedVariables false
set_option linter.unusedSimpArgs false
set_option maxRecDepth 100000
/-- The document's own lists. -/
theorem rall_any (e : Int) (w : World) : Calls Tryz.prog 55 #[.int .i8 e] w fun r w' => AllS w e r w' := by
  by_cases hin : 0 ≤ e ∧ e < 6
  · obtain ⟨n, rfl⟩ := Int.eq_ofNat_of_zero_le hin.1
    have hn : n < 6 := by have := hin.2; omega
    have key : ∀ (n : Nat) (cs : List Value), n < 6 → cs = (lst n).map strV → ∀ (w' : World) (o : Obj), w' = w.alloc o → o = .cells cs.toArray 9 → AllS w (n : Int) (.returned (.slice (some ⟨w.heap.size, 0, none⟩) (lst n).length (lst n).length)) w' := by
      rintro n cs hn rfl w' o rfl rfl
      refine ⟨_, rfl, ?_, (Below.refl _ _).alloc (Nat.le_refl _) _⟩
      rw [allL_in hn]
      refine .inr ⟨w.heap.size, 0, _, rfl, by simp, fun i hi => ?_⟩
      have hb : Blk (w.alloc (.cells ((lst n).map strV).toArray 9)) w.heap.size ((lst n).map strV).toArray 9 := Blk.new _ _ _
      rw [Nat.zero_add, hb.cell]
      simp [hi, strV]
    have KEY := Lib.hid key
    clear key hin
    rcases (by omega : n = 0 ∨ n = 1 ∨ n = 2 ∨ n = 3 ∨ n = 4 ∨ n = 5) with rfl | rfl | rfl | rfl | rfl | rfl
    all_goals
      go_enter Tryz.func55, Tryz.ntmps55
      go_wp2_with fail
      go_ret
      exact KEY.out _ _ (by omega) rfl _ _ rfl rfl
  · have HE : Hid (AllS w e (.returned (.slice none 0 0)) w) := Lib.hid ⟨_, rfl, .inl ⟨allL_out hin, _, _, rfl⟩, Below.refl _ _⟩
    have h0 : (e == 0) = false := by simp; omega
    have h1 : (e == 1) = false := by simp; omega
    have h2 : (e == 2) = false := by simp; omega
    have h3 : (e == 3) = false := by simp; omega
    have h4 : (e == 4) = false := by simp; omega
    have h5 : (e == 5) = false := by simp; omega
    clear hin
    go_enter Tryz.func55, Tryz.ntmps55
    go_wp2_with fail
    go_ret
    exact HE.out
end Go.Proofs.YtppabkllconkjaaGreatDoor.Lab
/- The contract of the document's own Of. -/
namespace Go.Proofs.YtppabkllconkjaaGreatDoor.Lab
open Go.RowKit
set_option linter.unusedVariables false
set_option linter.unusedSimpArgs false
set_option maxRecDepth 100000
theorem up_none {p : List UInt8} {e : Nat} (h : ∀ q ∈ upto e, q.2 ≠ p) (h2 : ∀ q ∈ (row e), q.2 ≠ p) : ∀ q ∈ upto (e + 1), q.2 ≠ p := by
  rw [upto_succ]; intro q hq; exact (List.mem_append.1 hq).elim (h q) (h2 q)
theorem row_none {p : List UInt8} {e j : Nat} (h : ∀ q ∈ (row e).take j, q.2 ≠ p) (hj : j < (lst e).length) (hx : (lst e)[j] ≠ p) : ∀ q ∈ (row e).take (j + 1), q.2 ≠ p := by
  rw [row_take hj]; intro q hq
  rcases List.mem_append.1 hq with k | k
  · exact h q k
  · simp at k; subst k; exact hx
theorem row_hit {p : List UInt8} {e j : Nat} (he : e < 6) (hj : j < (lst e).length) (hx : (lst e)[j] = p) : ofP p = ((e : Int), true) := by
  have : ((e : Int), p) ∈ allI := by
    apply allL_mem
    rw [allL_in he, ← hx]
    exact List.getElem_mem _
  exact ofP_row _ this
set_option maxHeartbeats 2000000 in
theorem rof_any (s : ByteArray) (w : World) (hs : s.size ≤ 100000) : Calls Tryz.prog 27 #[.string s] w fun r w' => OfS w (ofL s.data.toList) r w' := by
  have HT : Hid (∀ w, Calls Tryz.prog 54 #[.string s] w fun r w' => RetS (trm s.data.toList) w r w') := Lib.hid fun w => rtrim_any s w (by unfold maxLen; omega)
  have HL : Hid (∀ w, Calls Tryz.prog 53 #[.string (str (trm s.data.toList))] w fun r w' => RetS (lwr (trm s.data.toList)) w r w') := Lib.hid fun w => by
    have := rlower_any (str (trm s.data.toList)) w (by
      rw [str_size]
      have h1 := trm_len s.data.toList
      have h2 : s.data.toList.length = s.size := by simp
      omega)
    rwa [str_list] at this
  obtain ⟨t, ht⟩ : ∃ t, trm s.data.toList = t := ⟨_, rfl⟩
  obtain ⟨p, hp⟩ : ∃ p, lwr t = p := ⟨_, rfl⟩
  have HP : Hid (ofL s.data.toList = ofP p) := Lib.hid (by unfold ofL; rw [ht, hp])
  have HA : Hid (∀ e w, Calls Tryz.prog 55 #[.int .i8 e] w fun r w' => AllS w e r w') := Lib.hid rall_any
  rw [ht] at HT HL
  rw [hp] at HL
  rw [HP.out]
  clear ht hp
  go_enter Tryz.func27, Tryz.ntmps27
  go_wp2_with (first
    | (go_at_call 54; refine (HT.out _).mono ?_; rintro r w1 ⟨rfl, hb1⟩; have HB1 := Lib.hid hb1; clear hb1 HT)
    | (go_at_call 53; refine (HL.out _).mono ?_; rintro r w2 ⟨rfl, hb2⟩; have HB2 := Lib.hid (below_call HB1.out hb2); clear hb2 HL))
  go_loopg [5] 7 (fun g q5 wr => ∃ (e : Nat), e + g = 7 ∧ q5 = .int .i8 e ∧ e ≤ 6 ∧ Hid (∀ q ∈ upto e, q.2 ≠ p) ∧ Hid (Below w.heap.size w wr))
  case atStart => exact ⟨0, by omega, rfl, by omega, Lib.hid (by simp [upto]), HB2⟩
  case round =>
    obtain ⟨e, heg, rfl, he6, HU, HB⟩ := hrel
    by_cases he : e < 6
    · have HA1 : Hid (∀ w, Calls Tryz.prog 55 #[.int .i8 (e : Int)] w fun r w' => ∃ v, r = .returned v ∧ Strs w' v (lst e) ∧ Below w.heap.size w w') := Lib.hid fun w => by
        have := HA.out (e : Int) w
        unfold AllS at this
        rwa [allL_in he] at this
      have hle := lst_len e
      obtain ⟨N, hN⟩ : ∃ N, (lst e).length = N := ⟨_, rfl⟩
      have HN := Lib.hid hN
      rw [hN] at hle
      have hw1 : IntKind.i8.wrap ((e : Int) + 1) = (e : Int) + 1 := by
        rcases (by omega : e = 0 ∨ e = 1 ∨ e = 2 ∨ e = 3 ∨ e = 4 ∨ e = 5) with rfl | rfl | rfl | rfl | rfl | rfl <;> decide
      have hei : (e : Int) < 6 := by omega
      clear hN
      go_wp2_with (go_at_call 55; refine (HA1.out _).mono ?_; rintro r w3 ⟨v, rfl, hs3, hb3⟩; have HB3 := Lib.hid (below_call HB.out hb3); obtain ⟨pp, cap, rfl⟩ := hs3.form; have HS3 : Hid (Strs w3 (.slice pp N cap) (lst e)) := Lib.hid (by rw [← HN.out]; exact hs3); rw [HN.out]; clear hs3 hb3 HA1)
      go_loopg [7] (N + 1) (fun gh q7 wr => ∃ (j : Nat), j + gh = N + 1 ∧ q7 = .int .i64 j ∧ j ≤ N ∧ Hid (∀ q ∈ (row e).take j, q.2 ≠ p) ∧ w3 = wr)
      case atStart => exact ⟨0, by omega, rfl, by omega, Lib.hid (by simp), rfl⟩
      case round =>
        obtain ⟨j, hjg, rfl, hjN, HJ, rfl⟩ := hrel
        by_cases hj : j < N
        · have hjl : j < (lst e).length := by rw [HN.out]; exact hj
          obtain ⟨b, o, rfl, hc⟩ := HS3.out.at hjl
          have hk0 : (0 : Int) ≤ (j : Int) := by omega
          have hk3 : (j : Int) < (N : Int) := by omega
          by_cases hx : (lst e)[j] = p
          · have HF := Lib.hid (row_hit he hjl hx)
            rw [hx] at hc
            have hb : ((str p).toList == (str p).toList) = true := by simp
            clear hx hjl
            go_wp2_with fail
            go_ret2
            exact ⟨by rw [HF.out]; rfl, HB3.out⟩
          · have HJ2 := Lib.hid (row_none HJ.out hjl hx)
            have hb : ((str (lst e)[j]).toList == (str p).toList) = false := by rw [toList_str, toList_str]; simpa using hx
            obtain ⟨x, hxx⟩ : ∃ x, (lst e)[j] = x := ⟨_, rfl⟩
            rw [hxx] at hb hc
            clear hx hxx hjl
            go_wp2_with fail
            go_roundg (gk - 1)
            case measure => omega
            case rel => exact ⟨j + 1, by omega, by go_num, by omega, HJ2, rfl⟩
        · have HU2 := Lib.hid (up_none HU.out (fun q hq => HJ.out q (by rw [List.take_of_length_le (by rw [row_len, HN.out]; omega)]; exact hq)))
          go_wp2_with fail
          go_roundg (6 - e)
          case measure => omega
          case rel => exact ⟨e + 1, by omega, by go_num, by omega, HU2, HB3⟩
    · obtain rfl : e = 6 := by omega
      have HF : Hid (ofP p = (0, false)) := Lib.hid (of_no (by have := HU.out; rwa [upto_6] at this))
      go_wp2_with fail
      go_ret2
      exact ⟨by rw [HF.out]; rfl, HB.out⟩
end Go.Proofs.YtppabkllconkjaaGreatDoor.Lab
