/- The rest of a text: the contracts of upTo, quoted, part. -/
import Derived.Test.YtdkfbikpadehdaaDoorEPA
namespace Go.Proofs.YtdkfbikpadehdaaDoor.Dec
open Go.RowKit
set_option linter.unusedVariables false
set_option linter.unusedSimpArgs false
open Lab (RetS ret_str str str_size str_list str_eta str_inj u8v info5 info_parts)
/-- What stands up to the first of an end, and what stands behind it. -/
def sp (l e : List UInt8) : Option (List UInt8 × List UInt8) := if 0 ≤ Lib.index l e then some (l.take (Lib.index l e).toNat, l.drop ((Lib.index l e).toNat + e.length)) else none
theorem cut_sp (l e : List UInt8) : Lib.cut l e = match sp l e with | none => (l, [], false) | some q => (q.1, q.2, true) := by
  unfold Lib.cut sp
  by_cases h : 0 ≤ Lib.index l e
  · rw [if_pos h, if_pos h]
  · rw [if_neg h, if_neg h]
theorem sp_nil {e : List UInt8} (he : e ≠ []) : sp [] e = none := by
  unfold sp Lib.index
  cases e with
  | nil => exact absurd rfl he
  | cons a t => rfl
theorem sp_cons (c : UInt8) (t e : List UInt8) : sp (c :: t) e = if e.isPrefixOf (c :: t) then some ([], (c :: t).drop e.length) else (sp t e).map fun q => (c :: q.1, q.2) := by
  by_cases hp : e.isPrefixOf (c :: t) = true
  · have hi : Lib.index (c :: t) e = 0 := by unfold Lib.index; rw [if_pos hp]
    rw [if_pos hp]
    unfold sp
    rw [hi]
    simp
  · rw [if_neg hp]
    have hge := Lib.index_ge t e
    by_cases hi : Lib.index t e = -1
    · have hc : Lib.index (c :: t) e = -1 := by unfold Lib.index; rw [if_neg hp, hi]; rfl
      unfold sp
      rw [hc, hi]
      rfl
    · have hc : Lib.index (c :: t) e = Lib.index t e + 1 := by
        have h2 : (Lib.index t e == -1) = false := by simpa using hi
        conv => lhs; unfold Lib.index
        rw [if_neg hp, h2]; rfl
      have h0 : 0 ≤ Lib.index t e := by omega
      obtain ⟨n, hn⟩ := Int.eq_ofNat_of_zero_le h0
      unfold sp
      rw [hc, hn]
      rw [if_pos (by omega), if_pos (by omega)]
      have e1 : ((n : Int) + 1).toNat = n + 1 := by omega
      have e2 : ((n : Nat) : Int).toNat = n := by omega
      rw [e1, e2]
      have e3 : n + 1 + e.length = (n + e.length) + 1 := by omega
      rw [e3]
      rfl
theorem sp_upto : ∀ l : List UInt8, (sp l [63, 62]).map (·.1) = upto l
  | [] => by rw [sp_nil (by decide)]; rfl
  | c :: t => by
    rw [sp_cons]
    unfold upto
    have hh : ([63, 62] : List UInt8).isPrefixOf (c :: t) = true ↔ c = 63 ∧ t.head? = some 62 := by
      cases t with
      | nil => simp [List.isPrefixOf]
      | cons d u => simp [List.isPrefixOf]; exact and_congr eq_comm eq_comm
    by_cases h : c = 63 ∧ t.head? = some 62
    · rw [if_pos h, if_pos (hh.2 h)]; rfl
    · rw [if_neg h, if_neg (fun e => h (hh.1 e)), ← sp_upto t]
      cases sp t [63, 62] <;> rfl
theorem sp_one (q : UInt8) : ∀ l : List UInt8, sp l [q] = if q ∈ l then some (l.takeWhile (· != q), (l.dropWhile (· != q)).tail) else none
  | [] => by rw [sp_nil (by simp)]; simp
  | c :: t => by
    rw [sp_cons]
    by_cases h : c = q
    · subst h
      simp [List.isPrefixOf]
    · have h1 : ([q] : List UInt8).isPrefixOf (c :: t) = false := by simp [List.isPrefixOf]; exact fun e => h e.symm
      have h2 : (c != q) = true := by simpa using h
      rw [h1, sp_one q t]
      by_cases hm : q ∈ t
      · have hm2 : q ∈ c :: t := List.mem_cons_of_mem _ hm
        rw [if_pos hm, if_pos hm2]
        simp [List.takeWhile_cons, List.dropWhile_cons, h2]
      · have hm2 : ¬ q ∈ c :: t := by
          intro hq
          rcases List.mem_cons.1 hq with e | e
          · exact h e.symm
          · exact hm e
        rw [if_neg hm, if_neg hm2]; simp
def UpR (l e : List UInt8) (B : Nat) (w : World) (r : Ending) (w' : World) : Prop :=
  match sp l e with
  | none => r = .returned (.tuple #[.string ⟨#[]⟩, .bool false]) ∧ Fr w.heap.size B w w'
  | some q => r = .returned (.tuple #[.string (str q.1), .bool true]) ∧ Rst w' B q.2 ∧ Fr w.heap.size B w w'
set_option maxHeartbeats 1000000 in
theorem upto_any (l e : List UInt8) (B : Nat) (w : World) (h : Rst w B l) (hm : Mx w) (hs : l.length ≤ 4294967200) : Calls Tryd.prog 31 #[.pointer (some ⟨B, 0, none⟩), .string (str e)] w fun r w' => UpR l e B w r w' := by
  obtain ⟨m, hm⟩ := hm
  have HC0 := Tryd.strings_Cut (str l) (str e) m w (by rw [str_size]; omega) hm
  rw [str_list, str_list, cut_sp] at HC0
  have hc := h.cell
  have hf := h.fz
  have HR : Hid (∀ (n : Nat) x, Rst ((w.drewN n).setCell ⟨B, 0, none⟩ (.string (str x))) B x) := Lib.hid fun n x => Rst.set (Blk.drewN h n) x
  unfold UpR
  clear h
  cases hq : sp l e with
  | none =>
    rw [hq] at HC0
    have HC : Hid (Calls Tryd.prog 35 #[.string (str l), .string (str e)] w fun r w' => r = .returned (.tuple #[.string (str l), .string ⟨#[]⟩, .bool false]) ∧ ∃ n, w' = w.drewN n) := Lib.hid HC0
    clear HC0 hq
    go_enter Tryd.func31, Tryd.ntmps31
    go_wp2_with (go_at_call 35; refine HC.out.mono ?_; rintro _ w9 ⟨rfl, n9, hw9⟩; subst w9; clear HC)
    go_ret2
    exact ⟨rfl, (Fr.refl _ _ _).drewN _⟩
  | some q =>
    rw [hq] at HC0
    obtain ⟨x, y⟩ := q
    have HC : Hid (Calls Tryd.prog 35 #[.string (str l), .string (str e)] w fun r w' => r = .returned (.tuple #[.string (str x), .string (str y), .bool true]) ∧ ∃ n, w' = w.drewN n) := Lib.hid HC0
    clear HC0 hq
    go_enter Tryd.func31, Tryd.ntmps31
    go_wp2_with (go_at_call 35; refine HC.out.mono ?_; rintro _ w9 ⟨rfl, n9, hw9⟩; subst w9; clear HC)
    go_ret2
    exact ⟨rfl, HR.out n9 y, ((Fr.refl _ _ _).drewN _).setB _ _⟩
end Go.Proofs.YtdkfbikpadehdaaDoor.Dec
