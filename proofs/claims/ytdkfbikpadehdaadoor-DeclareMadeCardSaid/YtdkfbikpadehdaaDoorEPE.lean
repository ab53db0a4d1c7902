/- The contract of within. -/
import Derived.Test.YtdkfbikpadehdaaDoorEPD
namespace Go.Proofs.YtdkfbikpadehdaaDoor.Dec
open Go.RowKit
set_option linter.unusedVariables false
set_option linter.unusedSimpArgs false
open Lab (RetS ret_str str str_size str_list str_eta str_inj u8v info5 info_parts)
/-- What stands between the ends of a declaration; nothing, if there is none. -/
def inn (b : List UInt8) : List UInt8 := if frontX.isPrefixOf (b.take 200) then ((sp ((b.take 200).drop 5) [63, 62]).map (·.1)).getD [] else []
theorem upto_head : ∀ {l s : List UInt8}, upto l = some s → s = [] ∨ s.head? = l.head?
  | [], s, h => by cases h
  | c :: t, s, h => by
    unfold upto at h
    by_cases hc : c = 63 ∧ t.head? = some 62
    · rw [if_pos hc] at h; cases h; exact .inl rfl
    · rw [if_neg hc] at h
      cases hu : upto t with
      | none => rw [hu] at h; cases h
      | some x => rw [hu] at h; cases h; exact .inr rfl
theorem upto_le : ∀ {l s : List UInt8}, upto l = some s → s.length ≤ l.length
  | [], s, h => by cases h
  | c :: t, s, h => by
    unfold upto at h
    by_cases hc : c = 63 ∧ t.head? = some 62
    · rw [if_pos hc] at h; cases h; simp
    · rw [if_neg hc] at h
      cases hu : upto t with
      | none => rw [hu] at h; cases h
      | some x => rw [hu] at h; cases h; have := upto_le hu; simp; omega
theorem pts_nowhite {s : List UInt8} (h : s.head?.any wht = false) : pts s = [] := by
  apply pts_none
  have : s.takeWhile wht = [] := by
    cases s with
    | nil => rfl
    | cons c t =>
      have hc : wht c = false := h
      simp [List.takeWhile_cons, hc]
  unfold prt
  rw [if_pos (.inl this)]
theorem prts_inn (b : List UInt8) : prts b = pts (inn b) := by
  unfold prts dcl inn ins
  rw [sp_upto]
  generalize b.take 200 = l
  show (match (if frontX.isPrefixOf l = true ∧ (l.drop 5).head?.any wht = true then upto (l.drop 5) else none) with | none => [] | some s => pts s) = _
  by_cases h1 : frontX.isPrefixOf l = true
  · rw [if_pos h1]
    by_cases h2 : (l.drop 5).head?.any wht = true
    · rw [if_pos ⟨h1, h2⟩]
      cases upto (l.drop 5) with
      | none => exact pts_nil.symm
      | some s => rfl
    · rw [if_neg (fun e => h2 e.2)]
      cases hu : upto (l.drop 5) with
      | none => exact pts_nil.symm
      | some s =>
        rcases upto_head hu with rfl | e
        · exact pts_nil.symm
        · exact (pts_nowhite (by rw [Option.getD_some, e]; exact (Bool.not_eq_true _).mp h2)).symm
  · rw [if_neg h1, if_neg (fun e => h1 e.1)]
    exact pts_nil.symm
theorem inn_len (b : List UInt8) : (inn b).length ≤ 200 := by
  unfold inn
  rw [sp_upto]
  split
  · cases hu : upto ((b.take 200).drop 5) with
    | none => simp
    | some s =>
      have := upto_le hu
      rw [List.length_drop, List.length_take] at this
      simp only [Option.getD_some]
      omega
  · simp
theorem str_take_all {l : List UInt8} (h : l.length ≤ 200) : str (l.take 200) = str l := by rw [List.take_of_length_le h]
def WiR (x : List UInt8) (w : World) (e : Ending) (w' : World) : Prop := e = .returned (.string (str x)) ∧ Below w.heap.size w w'
theorem wi_ret {x y : List UInt8} {w w' : World} (h : x = y) (hb : Below w.heap.size w w') : WiR x w (.returned (.string (str y))) w' := by subst h; exact ⟨rfl, hb⟩
theorem fr_own {a b : World} {v : Value} {T : TypeId} (h : Fr (a.alloc (.cells #[v] T)).heap.size a.heap.size (a.alloc (.cells #[v] T)) b) : Below a.heap.size a b :=
  ((Below.refl _ a).alloc (Nat.le_refl _) _).trans (h.below (by simp) (Nat.le_refl _))
set_option maxRecDepth 100000 in
set_option maxHeartbeats 4000000 in
theorem within_any (l : List UInt8) (w : World) (hm : Mx w) (hs : l.length ≤ maxLen) : Calls Tryd.prog 26 #[.string (str l)] w fun e w' => WiR (inn l) w e w' := by
  have HM := Lib.hid hm
  have hpos := hm.pos
  clear hm
  unfold maxLen at hs
  have hsz := str_size l
  have heM : (str l).extract 0 (min ((str l).size : Int) 200).toNat = str (l.take 200) := by
    rw [extract_list, str_list, hsz]
    simp only [List.drop_zero, Nat.sub_zero]
    by_cases h : l.length ≤ 200
    · rw [show (min (l.length : Int) 200).toNat = l.length by omega, List.take_of_length_le (Nat.le_refl _), List.take_of_length_le h]
    · rw [show (min (l.length : Int) 200).toNat = 200 by omega]
  have hi : inn l = if frontX.isPrefixOf (l.take 200) then ((sp ((l.take 200).drop 5) [63, 62]).map (·.1)).getD [] else [] := rfl
  have htl : (l.take 200).length ≤ 200 := by rw [List.length_take]; omega
  obtain ⟨i, hii⟩ : ∃ i, inn l = i := ⟨_, rfl⟩
  rw [hii] at hi ⊢
  clear hii
  obtain ⟨t, ht⟩ : ∃ t, l.take 200 = t := ⟨_, rfl⟩
  rw [ht] at heM hi htl
  clear ht
  obtain ⟨s, hs'⟩ : ∃ s, str l = s := ⟨_, rfl⟩
  rw [hs'] at heM hsz ⊢
  rw [← hsz] at hs
  clear hs' hsz
  have HU : Hid (∀ w', Rst w' w.heap.size (t.drop 5) → Mx w' → Calls Tryd.prog 31 #[.pointer (some ⟨w.heap.size, 0, none⟩), .string ⟨#[63, 62]⟩] w' fun e w'' => UpR (t.drop 5) [63, 62] w.heap.size w' e w'') := Lib.hid fun w' hr hm => upto_any (t.drop 5) [63, 62] _ w' hr hm (by rw [List.length_drop]; omega)
  have HR0 : Hid (Rst (w.alloc (.cells #[.string (s.extract 0 (min (s.size : Int) 200).toNat)] 49)) w.heap.size t) := Lib.hid (by rw [heM]; exact Blk.new _ _ _)
  clear heM
  unfold UpR at HU
  by_cases h1 : frontX.isPrefixOf t = true
  · have HT : Hid (∀ w', Rst w' w.heap.size t → Calls Tryd.prog 24 #[.pointer (some ⟨w.heap.size, 0, none⟩), .string ⟨#[60, 63, 120, 109, 108]⟩] w' fun e w'' => e = .returned (.bool true) ∧ Rst w'' w.heap.size (t.drop 5) ∧ Fr w'.heap.size w.heap.size w' w'') := Lib.hid (take_yes (p := frontX) h1)
    rw [if_pos h1] at hi
    have HMM : Hid (∀ {w'}, Fr (w.alloc (.cells #[.string (s.extract 0 (min (s.size : Int) 200).toNat)] 49)).heap.size w.heap.size (w.alloc (.cells #[.string (s.extract 0 (min (s.size : Int) 200).toNat)] 49)) w' → Mx w') := Lib.hid fun hf => (HM.out.alloc _).fr hf (by simp) hpos
    cases hv : sp (t.drop 5) [63, 62] with
    | none =>
      rw [hv] at HU hi
      have HI : Hid (i = []) := Lib.hid hi
      clear hi hv h1
      go_enter Tryd.func26, Tryd.ntmps26
      go_wp2_with (first
        | (go_at_call 24; refine (HT.out _ HR0.out).mono ?_; rintro _ w1 ⟨rfl, hr1, hf1⟩; clear HT)
        | (go_at_call 31; refine (HU.out _ hr1 (HMM.out hf1)).mono ?_; rintro _ w2 ⟨rfl, hf2⟩; clear HU))
      go_ret
      exact wi_ret HI.out (fr_own (fr_call hf1 hf2))
    | some q =>
      obtain ⟨x, y⟩ := q
      rw [hv] at HU hi
      have HI : Hid (i = x) := Lib.hid hi
      clear hi hv h1
      go_enter Tryd.func26, Tryd.ntmps26
      go_wp2_with (first
        | (go_at_call 24; refine (HT.out _ HR0.out).mono ?_; rintro _ w1 ⟨rfl, hr1, hf1⟩; clear HT)
        | (go_at_call 31; refine (HU.out _ hr1 (HMM.out hf1)).mono ?_; rintro _ w2 ⟨rfl, hr2, hf2⟩; clear HU))
      go_ret
      exact wi_ret HI.out (fr_own (fr_call hf1 hf2))
  · have h1 : frontX.isPrefixOf t = false := (Bool.not_eq_true _).mp h1
    have HT : Hid (∀ w', Rst w' w.heap.size t → Calls Tryd.prog 24 #[.pointer (some ⟨w.heap.size, 0, none⟩), .string ⟨#[60, 63, 120, 109, 108]⟩] w' fun e w'' => e = .returned (.bool false) ∧ Rst w'' w.heap.size t ∧ Fr w'.heap.size w.heap.size w' w'') := Lib.hid (take_no (p := frontX) h1)
    have HI : Hid (i = []) := Lib.hid (by rw [hi, h1]; rfl)
    clear hi h1
    go_enter Tryd.func26, Tryd.ntmps26
    go_wp2_with (first
      | (go_at_call 24; refine (HT.out _ HR0.out).mono ?_; rintro _ w1 ⟨rfl, hr1, hf1⟩; clear HT))
    go_ret
    exact wi_ret HI.out (fr_own hf1)
end Go.Proofs.YtdkfbikpadehdaaDoor.Dec
