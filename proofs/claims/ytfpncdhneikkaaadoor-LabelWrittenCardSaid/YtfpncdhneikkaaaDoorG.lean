/- The iterator of labels: its contract. -/
import Derived.Test.YtfpncdhneikkaaaDoorF
import Derived.RangeFuncNested
import Derived.RangeFuncBound
import Derived.RangeFuncCalls
import Derived.RangeFuncLeaves
import Derived.RangeFuncBox
import Derived.Shelf.Abstract
import Derived.Shelf.RegionOpen
import Derived.OwnWalkIn
import Derived.TacticsInMore
import Derived.LoopNIn
import Derived.LoopIn
namespace Go.Proofs.YtfpncdhneikkaaaDoor
open Go.RowKit Go.Shelf
set_option linter.unusedVariables false
set_option linter.unusedSimpArgs false
attribute [local go_sem] Oper.semAt_some
def encI (x : Item) : Array Value := #[.int .i8 x.1, .string (str x.2)]
theorem row_len (e : Nat) : (row e).length = (lst e).length := by simp [row]
theorem row_take {e j : Nat} (h : j < (lst e).length) : (row e).take (j + 1) = (row e).take j ++ [((e : Int), (lst e)[j])] := by
  rw [List.take_add_one, List.getElem?_eq_getElem (by rw [row_len]; exact h)]
  simp [row]
theorem upto_pre : ∀ {e j : Nat}, e < 6 → ∃ t, allI = (upto e ++ (row e).take j) ++ t := by
  intro e j h
  have h1 : ∀ k, ∃ t, upto (e + k) = upto e ++ t := by
    intro k
    induction k with
    | zero => exact ⟨[], by simp⟩
    | succ k ih =>
      obtain ⟨t, ht⟩ := ih
      exact ⟨t ++ row (e + k), by rw [← Nat.add_assoc, upto_succ, ht, List.append_assoc]⟩
  have h2 : ∀ k, ∃ t, upto (e + 1 + k) = upto (e + 1) ++ t := by
    intro k
    induction k with
    | zero => exact ⟨[], by simp⟩
    | succ k ih =>
      obtain ⟨t, ht⟩ := ih
      exact ⟨t ++ row (e + 1 + k), by rw [← Nat.add_assoc, upto_succ, ht, List.append_assoc]⟩
  obtain ⟨t, ht⟩ := h2 (5 - e)
  rw [show e + 1 + (5 - e) = 6 by omega, upto_6, upto_succ] at ht
  refine ⟨(row e).drop j ++ t, ?_⟩
  rw [ht]
  simp only [List.append_assoc]
  rw [← List.append_assoc ((row e).take j), List.take_append_drop]
theorem pre_len {e j : Nat} (h : e < 6) (hj : j < (lst e).length) : (upto e ++ (row e).take j).length < 41 := by
  obtain ⟨t, ht⟩ := upto_pre (j := j + 1) h
  have := congrArg List.length ht
  rw [allI_len, row_take hj] at this
  simp only [List.length_append, List.length_cons, List.length_nil] at this ⊢
  omega
set_option maxRecDepth 100000 in
set_option maxHeartbeats 2000000 in
theorem labels1_in (n : Nat) (hn : 1 ≤ n) (lp n₀ : Nat) (J Jx : List Item → World → Prop)
    (hY : ∀ pre x W, J pre W → pre.length < 41 → YieldAt Fence.wide (n - 1) Tryd.prog lp (encI x) W fun e W' =>
      (e = .returned (.bool true) ∧ J (pre ++ [x]) W' ∧ Below n₀ W W') ∨ (e = .returned (.bool false) ∧ Jx (pre ++ [x]) W'))
    (W : World) (hg : GlN n₀ W) (h0 : J [] W) :
    CallsIn Fence.wide n Tryd.prog 23 #[.func (.yield lp) #[] #[]] W fun e W' => (∃ v, e = .returned v) ∧
      ((∃ ys : List Item, ys = allI ∧ J ys W') ∨ (∃ pre : List Item, (∃ t, allI = pre ++ t) ∧ Jx pre W')) := by
  have HG := Lib.hid hg
  have HYY := Lib.hid hY
  clear hg hY
  refine callsIn_of_wp Tryd.func23 rfl trivial ?_ rfl
  simp only [Tryd.ntmps23, List.size_toArray, List.length_cons, List.length_nil, Nat.reduceAdd, Nat.reduceSub, Array.replicate_succ, Array.replicate_zero, List.push_toArray, List.append_toArray, List.nil_append, List.cons_append]
  gi_wp2
  gi_loopw [5] (fun q5 wr => ∃ (e : Nat), q5 = .int .i8 e ∧ e ≤ 6 ∧ Hid (J (upto e) wr) ∧ Hid (Below n₀ W wr))
    (fun q5 _ => 6 - (intOf q5).toNat)
  case atStart => exact ⟨0, rfl, by omega, Lib.hid h0, Lib.hid (Below.refl _ _)⟩
  case round =>
    obtain ⟨e, rfl, he6, HJ, HB⟩ := hrel
    by_cases he : e < 6
    · obtain ⟨b, off, cap, hc0, hbn, hc1⟩ := HG.out.tab e he
      have hpos := HG.out.pos
      have hcs := (HB.out.cell (p := ⟨0, e, none⟩) (by show 0 < n₀; omega)).trans hc0
      have HC1 : Hid (∀ w2, Below n₀ W w2 → ∀ j (h : j < (lst e).length), w2.cell? ⟨b, off + j, none⟩ = some (.string (str (lst e)[j]))) := Lib.hid fun w2 hb j h => (hb.cell (p := ⟨b, off + j, none⟩) hbn).trans (hc1 j h)
      have hle := lst_len e
      obtain ⟨N, hN⟩ : ∃ N, (lst e).length = N := ⟨_, rfl⟩
      have HN := Lib.hid hN
      rw [hN] at hcs hle
      have hw1 : IntKind.i8.wrap ((e : Int) + 1) = (e : Int) + 1 := by
        rcases (by omega : e = 0 ∨ e = 1 ∨ e = 2 ∨ e = 3 ∨ e = 4 ∨ e = 5) with rfl | rfl | rfl | rfl | rfl | rfl <;> decide
      have he0 : (0 : Int) ≤ (e : Int) := by omega
      have hei : (e : Int) < 6 := by omega
      clear hc0 hc1 hN hbn hpos
      gi_wp2
      gi_loopw [12] (fun q12 wr => ∃ (j : Nat), q12 = .int .i64 j ∧ j ≤ N ∧ Hid (J (upto e ++ (row e).take j) wr) ∧ Hid (Below n₀ W wr))
        (fun q12 _ => N - (intOf q12).toNat)
      case atStart => exact ⟨0, rfl, by omega, Lib.hid (by simpa using HJ.out), HB⟩
      case round =>
        obtain ⟨j, rfl, hjN, HJ2, HB2⟩ := hrel
        by_cases hj : j < N
        · have hjl : j < (lst e).length := by rw [HN.out]; exact hj
          have hcx := HC1.out _ HB2.out j hjl
          have HT := Lib.hid (row_take hjl)
          obtain ⟨x, hx⟩ : ∃ x, (lst e)[j] = x := ⟨_, rfl⟩
          rw [hx] at hcx HT
          have hlen := pre_len he hjl
          have HP : Hid (∃ t, allI = (upto e ++ (row e).take j ++ [((e : Int), x)]) ++ t) := Lib.hid (by
            have := upto_pre (j := j + 1) he
            rw [HT.out] at this
            simpa [List.append_assoc] using this)
          obtain ⟨fn, tmps, assign, body, hy, hR⟩ := HYY.out _ ((e : Int), x) _ HJ2.out hlen
          have hexp : encI ((e : Int), x) = #[.int .i8 (e : Int), .string (str x)] := rfl
          rw [hexp] at hy
          clear hx hexp hlen hjl
          gi_wp2
          refine hR.mono ?_
          rintro e1 W3 (⟨rfl, hJ3, hk3⟩ | ⟨rfl, hJx3⟩)
          · have HJ3 : Hid (J (upto e ++ (row e).take (j + 1)) W3) := Lib.hid (by
              rw [HT.out, ← List.append_assoc]; exact hJ3)
            have HB3 : Hid (Below n₀ W W3) := Lib.hid (HB2.out.trans hk3)
            clear hJ3 hk3
            gi_wp2
            go_roundw
            case rel => exact ⟨j + 1, by go_num, by omega, HJ3, HB3⟩
            case measure => simp [intOf]; omega
          · gi_wp2
            refine bodyPost_ret (results_none rfl _ _ _) rfl ?_
            exact ⟨⟨_, rfl⟩, .inr ⟨_, HP.out, hJx3⟩⟩
        · have HJ4 : Hid (J (upto (e + 1)) wr) := Lib.hid (by
            have := HJ2.out
            rw [List.take_of_length_le (by rw [row_len, HN.out]; omega)] at this
            rw [upto_succ]; exact this)
          gi_wp2
          go_roundw
          case rel => exact ⟨e + 1, by go_num, by omega, HJ4, HB2⟩
          case measure => simp [intOf]; omega
    · obtain rfl : e = 6 := by omega
      gi_wp2
      go_end0
      exact ⟨⟨_, rfl⟩, .inl ⟨_, upto_6, HJ.out⟩⟩
theorem labels_in (n : Nat) (w : World) :
    CallsIn Fence.wide n Tryd.prog 19 #[] w fun e w' => e = .returned (.func (.func 23) #[] #[]) ∧ w' = w := by
  refine callsIn_of_wp Tryd.func19 rfl trivial ?_ rfl
  simp only [Tryd.ntmps19, List.size_toArray, List.length_cons, List.length_nil, Nat.reduceAdd, Nat.reduceSub, Array.replicate_succ, Array.replicate_zero, List.push_toArray, List.append_toArray, List.nil_append, List.cons_append]
  gi_wp2
  go_ret
  exact ⟨rfl, rfl⟩
theorem labels_stops (n : Nat) (hn : 1 ≤ n) (n₀ : Nat) (w : World) (hg : GlN n₀ w) :
    SeqStopsK Fence.wide n Tryd.prog 23 #[] encI (Below n₀) (fun ys : List Item => ys = allI) (fun pre : List Item => ∃ t, allI = pre ++ t) 41 w := fun l J Jx W hW _ _ hY h0 =>
  labels1_in n hn l n₀ J Jx hY W (GlN.below hg hW hg.size) h0
end Go.Proofs.YtfpncdhneikkaaaDoor
