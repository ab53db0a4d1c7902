/- The contract of the document's own Of. -/
import Derived.Test.YtfpncdhneikkaaaDoorK
import Derived.Lib.Bytealg
import Derived.Laws.Externs
import Derived.Laws.DeepStrings4
import Derived.Laws.BytesArg
import Derived.Laws.IdiomStrings
namespace Go.Proofs.YtfpncdhneikkaaaDoor
open Go.RowKit
set_option linter.unusedVariables false
set_option linter.unusedSimpArgs false
theorem up_none {p : List UInt8} {e : Nat} (h : ∀ q ∈ upto e, q.2 ≠ p) (h2 : ∀ q ∈ (row e), q.2 ≠ p) : ∀ q ∈ upto (e + 1), q.2 ≠ p := by
  rw [upto_succ]; intro q hq; exact (List.mem_append.1 hq).elim (h q) (h2 q)
theorem row_none {p : List UInt8} {e j : Nat} (h : ∀ q ∈ (row e).take j, q.2 ≠ p) (hj : j < (lst e).length) (hx : (lst e)[j] ≠ p) : ∀ q ∈ (row e).take (j + 1), q.2 ≠ p := by
  rw [row_take hj]; intro q hq
  rcases List.mem_append.1 hq with k | k
  · exact h q k
  · simp at k; subst k; exact hx
theorem row_hit {p : List UInt8} {e j : Nat} (he : e < 6) (hj : j < (lst e).length) (hx : (lst e)[j] = p) : ofP p = ((e : Int), true) := by
  have : ((e : Int), p) ∈ allI := by
    apply allL_mem
    rw [allL_in he, ← hx]
    exact List.getElem_mem _
  exact ofP_row _ this
set_option maxHeartbeats 2000000 in
theorem rof_any (s : ByteArray) (w : World) (hs : s.size ≤ 100000) : Calls Tryd.prog 9 #[.string s] w fun r w' => OfS w (ofL s.data.toList) r w' := by
  have HT : Hid (∀ w, Calls Tryd.prog 16 #[.string s] w fun r w' => RetS (trm s.data.toList) w r w') := Lib.hid fun w => rtrim_any s w (by unfold maxLen; omega)
  have HL : Hid (∀ w, Calls Tryd.prog 18 #[.string (str (trm s.data.toList))] w fun r w' => RetS (lwr (trm s.data.toList)) w r w') := Lib.hid fun w => by
    have := rlower_any (str (trm s.data.toList)) w (by
      rw [str_size]
      have h1 := trm_len s.data.toList
      have h2 : s.data.toList.length = s.size := by simp
      omega)
    rwa [str_list] at this
  obtain ⟨t, ht⟩ : ∃ t, trm s.data.toList = t := ⟨_, rfl⟩
  obtain ⟨p, hp⟩ : ∃ p, lwr t = p := ⟨_, rfl⟩
  have HP : Hid (ofL s.data.toList = ofP p) := Lib.hid (by unfold ofL; rw [ht, hp])
  have HA : Hid (∀ e w, Calls Tryd.prog 14 #[.int .i8 e] w fun r w' => AllS w e r w') := Lib.hid rall_any
  rw [ht] at HT HL
  rw [hp] at HL
  rw [HP.out]
  clear ht hp
  go_enter Tryd.func9, Tryd.ntmps9
  go_wp2_with (first
    | (go_at_call 16; refine (HT.out _).mono ?_; rintro r w1 ⟨rfl, hb1⟩; have HB1 := Lib.hid hb1; clear hb1 HT)
    | (go_at_call 18; refine (HL.out _).mono ?_; rintro r w2 ⟨rfl, hb2⟩; have HB2 := Lib.hid (below_call HB1.out hb2); clear hb2 HL))
  go_loopg [5] 7 (fun g q5 wr => ∃ (e : Nat), e + g = 7 ∧ q5 = .int .i8 e ∧ e ≤ 6 ∧ Hid (∀ q ∈ upto e, q.2 ≠ p) ∧ Hid (Below w.heap.size w wr))
  case atStart => exact ⟨0, by omega, rfl, by omega, Lib.hid (by simp [upto]), HB2⟩
  case round =>
    obtain ⟨e, heg, rfl, he6, HU, HB⟩ := hrel
    by_cases he : e < 6
    · have HA1 : Hid (∀ w, Calls Tryd.prog 14 #[.int .i8 (e : Int)] w fun r w' => ∃ v, r = .returned v ∧ Strs w' v (lst e) ∧ Below w.heap.size w w') := Lib.hid fun w => by
        have := HA.out (e : Int) w
        unfold AllS at this
        rwa [allL_in he] at this
      have hle := lst_len e
      obtain ⟨N, hN⟩ : ∃ N, (lst e).length = N := ⟨_, rfl⟩
      have HN := Lib.hid hN
      rw [hN] at hle
      have hw1 : IntKind.i8.wrap ((e : Int) + 1) = (e : Int) + 1 := by
        rcases (by omega : e = 0 ∨ e = 1 ∨ e = 2 ∨ e = 3 ∨ e = 4 ∨ e = 5) with rfl | rfl | rfl | rfl | rfl | rfl <;> decide
      have hei : (e : Int) < 6 := by omega
      clear hN
      go_wp2_with (go_at_call 14; refine (HA1.out _).mono ?_; rintro r w3 ⟨v, rfl, hs3, hb3⟩; have HB3 := Lib.hid (below_call HB.out hb3); obtain ⟨pp, cap, rfl⟩ := hs3.form; have HS3 : Hid (Strs w3 (.slice pp N cap) (lst e)) := Lib.hid (by rw [← HN.out]; exact hs3); rw [HN.out]; clear hs3 hb3 HA1)
      go_loopg [7] (N + 1) (fun gh q7 wr => ∃ (j : Nat), j + gh = N + 1 ∧ q7 = .int .i64 j ∧ j ≤ N ∧ Hid (∀ q ∈ (row e).take j, q.2 ≠ p) ∧ w3 = wr)
      case atStart => exact ⟨0, by omega, rfl, by omega, Lib.hid (by simp), rfl⟩
      case round =>
        obtain ⟨j, hjg, rfl, hjN, HJ, rfl⟩ := hrel
        by_cases hj : j < N
        · have hjl : j < (lst e).length := by rw [HN.out]; exact hj
          obtain ⟨b, o, rfl, hc⟩ := HS3.out.at hjl
          have hk0 : (0 : Int) ≤ (j : Int) := by omega
          have hk3 : (j : Int) < (N : Int) := by omega
          by_cases hx : (lst e)[j] = p
          · have HF := Lib.hid (row_hit he hjl hx)
            rw [hx] at hc
            have hb : ((str p).toList == (str p).toList) = true := by simp
            clear hx hjl
            go_wp2_with fail
            go_ret2
            exact ⟨by rw [HF.out]; rfl, HB3.out⟩
          · have HJ2 := Lib.hid (row_none HJ.out hjl hx)
            have hb : ((str (lst e)[j]).toList == (str p).toList) = false := by rw [toList_str, toList_str]; simpa using hx
            obtain ⟨x, hxx⟩ : ∃ x, (lst e)[j] = x := ⟨_, rfl⟩
            rw [hxx] at hb hc
            clear hx hxx hjl
            go_wp2_with fail
            go_roundg (gk - 1)
            case measure => omega
            case rel => exact ⟨j + 1, by omega, by go_num, by omega, HJ2, rfl⟩
        · have HU2 := Lib.hid (up_none HU.out (fun q hq => HJ.out q (by rw [List.take_of_length_le (by rw [row_len, HN.out]; omega)]; exact hq)))
          go_wp2_with fail
          go_roundg (6 - e)
          case measure => omega
          case rel => exact ⟨e + 1, by omega, by go_num, by omega, HU2, HB3⟩
    · obtain rfl : e = 6 := by omega
      have HF : Hid (ofP p = (0, false)) := Lib.hid (of_no (by have := HU.out; rwa [upto_6] at this))
      go_wp2_with fail
      go_ret2
      exact ⟨by rw [HF.out]; rfl, HB.out⟩
end Go.Proofs.YtfpncdhneikkaaaDoor
