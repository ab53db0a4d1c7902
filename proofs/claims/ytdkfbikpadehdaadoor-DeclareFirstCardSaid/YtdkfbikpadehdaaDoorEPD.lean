/- The rest of a text: the contract of part. -/
import Derived.Test.YtdkfbikpadehdaaDoorEPC
namespace Go.Proofs.YtdkfbikpadehdaaDoor.Dec
open Go.RowKit
set_option linter.unusedVariables false
set_option linter.unusedSimpArgs false
open Lab (RetS ret_str str str_size str_list str_eta str_inj u8v info5 info_parts)
def whtL : List UInt8 := [9, 10, 13, 32]
def ltrL : List UInt8 := [97, 98, 99, 100, 101, 102, 103, 104, 105, 106, 107, 108, 109, 110, 111, 112, 113, 114, 115, 116, 117, 118, 119, 120, 121, 122]
theorem whtL_eq : (fun c => whtL.contains c) = wht := by
  funext c
  exact byte_all (P := fun c => whtL.contains c = wht c) (by decide +kernel) c
theorem ltrL_eq : (fun c => ltrL.contains c) = ltr := by
  funext c
  exact byte_all (P := fun c => ltrL.contains c = ltr c) (by decide +kernel) c
theorem run_wht {l : List UInt8} {B : Nat} (w : World) (h : Rst w B l) (hs : l.length ≤ 4294967200) : Calls Tryd.prog 32 #[.pointer (some ⟨B, 0, none⟩), .string ⟨#[9, 10, 13, 32]⟩] w fun e w' => e = .returned (.string (str (l.takeWhile wht))) ∧ Rst w' B (l.dropWhile wht) ∧ Fr w.heap.size B w w' := by
  have := run_any l whtL B w h (by unfold maxLen; omega) (by decide) (by decide)
  unfold RunR at this
  rwa [whtL_eq] at this
theorem run_ltr {l : List UInt8} {B : Nat} (w : World) (h : Rst w B l) (hs : l.length ≤ 4294967200) : Calls Tryd.prog 32 #[.pointer (some ⟨B, 0, none⟩), .string ⟨#[97, 98, 99, 100, 101, 102, 103, 104, 105, 106, 107, 108, 109, 110, 111, 112, 113, 114, 115, 116, 117, 118, 119, 120, 121, 122]⟩] w fun e w' => e = .returned (.string (str (l.takeWhile ltr))) ∧ Rst w' B (l.dropWhile ltr) ∧ Fr w.heap.size B w w' := by
  have := run_any l ltrL B w h (by unfold maxLen; omega) (by decide) (by decide)
  unfold RunR at this
  rwa [ltrL_eq] at this
def PaR (r : Option (Prt × List UInt8)) (B : Nat) (w : World) (e : Ending) (w' : World) : Prop :=
  match r with
  | none => e = .returned (.tuple #[.string ⟨#[]⟩, .string ⟨#[]⟩, .bool false]) ∧ Fr w.heap.size B w w'
  | some q => e = .returned (.tuple #[.string (str q.1.1), .string (str q.1.2), .bool true]) ∧ Rst w' B q.2 ∧ Fr w.heap.size B w w'
theorem pa_no {r : Option (Prt × List UInt8)} {B : Nat} {w w' : World} (h : r = none) (hf : Fr w.heap.size B w w') : PaR r B w (.returned (.tuple #[.string ⟨#[]⟩, .string ⟨#[]⟩, .bool false])) w' := by
  subst h; exact ⟨rfl, hf⟩
theorem pa_yes {r : Option (Prt × List UInt8)} {B : Nat} {w w' : World} {a b y : List UInt8} (h : r = some ((a, b), y)) (hr : Rst w' B y) (hf : Fr w.heap.size B w w') : PaR r B w (.returned (.tuple #[.string (str a), .string (str b), .bool true])) w' := by
  subst h; exact ⟨rfl, hr, hf⟩
theorem pre61 {l : List UInt8} : ([61] : List UInt8).isPrefixOf l = true ↔ l.head? = some 61 := by
  cases l with
  | nil => simp [List.isPrefixOf]
  | cons c t => simp [List.isPrefixOf]; exact eq_comm
theorem str_nil_iff {x : List UInt8} {X : ByteArray} (h : str x = X) : (X.toList == []) = (x == []) := by rw [← h, toList_str]
theorem rst_alloc {w : World} {B : Nat} {l : List UInt8} (h : Rst w B l) (o : Obj) : Rst (w.alloc o) B l := Blk.alloc h o
theorem fr_alloc {w : World} {n B : Nat} (o : Obj) (h : n ≤ w.heap.size) : Fr n B w (w.alloc o) := Fr.of ((Below.refl n w).alloc h o)
theorem qvl_name {n l : List UInt8} {p : Prt × List UInt8} (h : qvl n l = some p) : p.1.1 = n := by
  cases l with
  | nil => cases h
  | cons q t =>
    rw [qvl_cons] at h
    by_cases hc : (q = 34 ∨ q = 39) ∧ q ∈ t
    · rw [if_pos hc] at h; cases h; rfl
    · rw [if_neg hc] at h; cases h
set_option maxRecDepth 100000 in
set_option maxHeartbeats 4000000 in
theorem part1_any (l : List UInt8) (B : Nat) (w : World) (h : Rst w B l) (hm : Mx w) (hB : 0 < B) (hs : l.length ≤ 4294967200) :
    Calls Tryd.prog 27 #[.pointer (some ⟨B, 0, none⟩)] w fun e w' => PaR (prt l) B w e w' := by
  have HM := Lib.hid hm
  have HR := Lib.hid h
  clear hm h
  have h1 := dw_len wht l
  have h2 := dw_len ltr (l.dropWhile wht)
  have h3 := dw_len wht ((l.dropWhile wht).dropWhile ltr)
  have h4 : (((l.dropWhile wht).dropWhile ltr).dropWhile wht).tail.length ≤ (((l.dropWhile wht).dropWhile ltr).dropWhile wht).length := by rw [List.length_tail]; omega
  have h5 := dw_len wht (((l.dropWhile wht).dropWhile ltr).dropWhile wht).tail
  have H1 : Hid (∀ w, Rst w B l → Calls Tryd.prog 32 #[.pointer (some ⟨B, 0, none⟩), .string ⟨#[9, 10, 13, 32]⟩] w fun e w' => e = .returned (.string (str (l.takeWhile wht))) ∧ Rst w' B (l.dropWhile wht) ∧ Fr w.heap.size B w w') := Lib.hid fun w h => run_wht w h hs
  have hp : ∀ p, prt l = p → p = if l.takeWhile wht = [] ∨ (l.dropWhile wht).takeWhile ltr = [] then none
      else if (((l.dropWhile wht).dropWhile ltr).dropWhile wht).head? = some 61 then qvl ((l.dropWhile wht).takeWhile ltr) ((((l.dropWhile wht).dropWhile ltr).dropWhile wht).tail.dropWhile wht) else none := fun p h => by rw [← h]; rfl
  obtain ⟨r, hr⟩ : ∃ r, prt l = r := ⟨_, rfl⟩
  rw [hr]
  have hp := hp r hr
  clear hr
  obtain ⟨a, ha⟩ : ∃ a, l.takeWhile wht = a := ⟨_, rfl⟩
  obtain ⟨l1, hl1⟩ : ∃ l1, l.dropWhile wht = l1 := ⟨_, rfl⟩
  rw [ha, hl1] at H1
  rw [ha, hl1] at hp
  rw [hl1] at h1 h2 h3 h4 h5
  clear ha hl1
  have H2 : Hid (∀ w, Rst w B l1 → Calls Tryd.prog 32 #[.pointer (some ⟨B, 0, none⟩), .string ⟨#[97, 98, 99, 100, 101, 102, 103, 104, 105, 106, 107, 108, 109, 110, 111, 112, 113, 114, 115, 116, 117, 118, 119, 120, 121, 122]⟩] w fun e w' => e = .returned (.string (str (l1.takeWhile ltr))) ∧ Rst w' B (l1.dropWhile ltr) ∧ Fr w.heap.size B w w') := Lib.hid fun w h => run_ltr w h (by omega)
  obtain ⟨n, hn⟩ : ∃ n, l1.takeWhile ltr = n := ⟨_, rfl⟩
  obtain ⟨l2, hl2⟩ : ∃ l2, l1.dropWhile ltr = l2 := ⟨_, rfl⟩
  rw [hn, hl2] at H2 hp
  rw [hl2] at h2 h3 h4 h5
  clear hn hl2
  have H3 : Hid (∀ w, Rst w B l2 → Calls Tryd.prog 32 #[.pointer (some ⟨B, 0, none⟩), .string ⟨#[9, 10, 13, 32]⟩] w fun e w' => e = .returned (.string (str (l2.takeWhile wht))) ∧ Rst w' B (l2.dropWhile wht) ∧ Fr w.heap.size B w w') := Lib.hid fun w h => run_wht w h (by omega)
  obtain ⟨X3, hX3⟩ : ∃ X, str (l2.takeWhile wht) = X := ⟨_, rfl⟩
  obtain ⟨l3, hl3⟩ : ∃ l3, l2.dropWhile wht = l3 := ⟨_, rfl⟩
  rw [hX3, hl3] at H3
  rw [hl3] at hp h3 h4 h5
  clear hX3 hl3
  obtain ⟨A, hA⟩ : ∃ A, str a = A := ⟨_, rfl⟩
  have eA := str_nil_iff hA
  rw [hA] at H1
  clear hA
  obtain ⟨N, hN⟩ : ∃ N, str n = N := ⟨_, rfl⟩
  have eN := str_nil_iff hN
  have HN := Lib.hid hN
  rw [hN] at H2
  clear hN
  by_cases e1 : a = []
  · have d1 : (A.toList == []) = true := by rw [eA, e1]; rfl
    have HP := Lib.hid (hp.trans (if_pos (.inl e1)))
    clear hp H2 H3 eA eN e1
    go_enter Tryd.func27, Tryd.ntmps27
    go_wp2_with (first
      | (go_at_call 32; refine (H1.out _ HR.out).mono ?_; rintro _ w1 ⟨rfl, hr1, hf1⟩; clear H1))
    go_ret3
    exact pa_no HP.out hf1
  have d1 : (A.toList == []) = false := by rw [eA]; simpa using e1
  clear eA
  by_cases e2 : n = []
  · have d2 : (N.toList == []) = true := by rw [eN, e2]; rfl
    have HP := Lib.hid (hp.trans (if_pos (.inr e2)))
    clear hp eN e1 e2
    go_enter Tryd.func27, Tryd.ntmps27
    go_wp2_with (first
      | (go_at_call 32; refine (H1.out _ HR.out).mono ?_; rintro _ w1 ⟨rfl, hr1, hf1⟩; clear H1)
      | (go_at_call 32; refine (H2.out _ hr1).mono ?_; rintro _ w2 ⟨rfl, hr2, hf2⟩; clear H2)
      | (go_at_call 32; refine (H3.out _ hr2).mono ?_; rintro _ w3 ⟨rfl, hr3, hf3⟩; clear H3))
    go_ret3
    exact pa_no HP.out (fr_call (fr_call hf1 hf2) hf3)
  have d2 : (N.toList == []) = false := by rw [eN]; simpa using e2
  rw [if_neg (fun e => e.elim e1 e2)] at hp
  clear eN e1 e2
  by_cases e3 : l3.head? = some 61
  · have H4 : Hid (∀ w, Rst w B l3 → Calls Tryd.prog 24 #[.pointer (some ⟨B, 0, none⟩), .string ⟨#[61]⟩] w fun e w' => e = .returned (.bool true) ∧ Rst w' B l3.tail ∧ Fr w.heap.size B w w') := Lib.hid (by
      have := take_yes (B := B) (pre61.2 e3)
      rwa [show l3.drop ([61] : List UInt8).length = l3.tail from List.drop_one] at this)
    rw [if_pos e3] at hp
    obtain ⟨l4, hl4⟩ : ∃ l4, l3.tail = l4 := ⟨_, rfl⟩
    rw [hl4] at H4 hp h4 h5
    clear hl4 e3
    have H5 : Hid (∀ w, Rst w B l4 → Calls Tryd.prog 32 #[.pointer (some ⟨B, 0, none⟩), .string ⟨#[9, 10, 13, 32]⟩] w fun e w' => e = .returned (.string (str (l4.takeWhile wht))) ∧ Rst w' B (l4.dropWhile wht) ∧ Fr w.heap.size B w w') := Lib.hid fun w h => run_wht w h (by omega)
    obtain ⟨X5, hX5⟩ : ∃ X, str (l4.takeWhile wht) = X := ⟨_, rfl⟩
    obtain ⟨l5, hl5⟩ : ∃ l5, l4.dropWhile wht = l5 := ⟨_, rfl⟩
    rw [hX5, hl5] at H5
    rw [hl5] at hp h5
    clear hX5 hl5
    have H6 : Hid (∀ w', Rst w' B l5 → Fr w.heap.size B w w' → Calls Tryd.prog 33 #[.pointer (some ⟨B, 0, none⟩), .slice (some ⟨w'.heap.size, 0, none⟩) 2 2] (w'.alloc (.cells #[.string ⟨#[34]⟩, .string ⟨#[39]⟩] 9)) fun e w'' => QuR (qvl n l5) B (w'.alloc (.cells #[.string ⟨#[34]⟩, .string ⟨#[39]⟩] 9)) e w'') := Lib.hid fun w' hr hf =>
      quoted_any n l5 B w'.heap.size _ (rst_alloc hr _) (Blk.new _ _ _) (by have := Blk.lt hr; omega) ((HM.out.fr hf HM.out.pos hB).alloc _) hB (by omega)
    unfold QuR at H6
    have HFA : Hid (∀ {w1 w2 : World}, Fr (w1.alloc (.cells #[.string ⟨#[34]⟩, .string ⟨#[39]⟩] 9)).heap.size B (w1.alloc (.cells #[.string ⟨#[34]⟩, .string ⟨#[39]⟩] 9)) w2 → Fr w1.heap.size B w1 w2) := Lib.hid fun hf => fr_call (fr_alloc _ (Nat.le_refl _)) hf
    cases hv : qvl n l5 with
    | none =>
      rw [hv] at H6 hp
      have HP := Lib.hid hp
      clear hp hv
      go_enter Tryd.func27, Tryd.ntmps27
      go_wp2_with (first
        | (go_at_call 32; refine (H1.out _ HR.out).mono ?_; rintro _ w1 ⟨rfl, hr1, hf1⟩; clear H1)
        | (go_at_call 32; refine (H2.out _ hr1).mono ?_; rintro _ w2 ⟨rfl, hr2, hf2⟩; clear H2)
        | (go_at_call 32; refine (H3.out _ hr2).mono ?_; rintro _ w3 ⟨rfl, hr3, hf3⟩; clear H3)
        | (go_at_call 24; refine (H4.out _ hr3).mono ?_; rintro _ w4 ⟨rfl, hr4, hf4⟩; clear H4)
        | (go_at_call 32; refine (H5.out _ hr4).mono ?_; rintro _ w5 ⟨rfl, hr5, hf5⟩; clear H5)
        | (go_at_call 33; refine (H6.out _ hr5 (fr_call (fr_call (fr_call (fr_call hf1 hf2) hf3) hf4) hf5)).mono ?_; rintro _ w6 ⟨rfl, hf6⟩; clear H6))
      go_ret3
      exact pa_no HP.out (fr_call (fr_call (fr_call (fr_call (fr_call hf1 hf2) hf3) hf4) hf5) (HFA.out hf6))
    | some q =>
      have hnm := qvl_name hv
      obtain ⟨⟨n', x⟩, y⟩ := q
      dsimp only at hnm
      subst hnm
      rw [hv] at H6 hp
      have HP := Lib.hid hp
      clear hp hv
      replace H6 : Hid (∀ w', Rst w' B l5 → Fr w.heap.size B w w' → Calls Tryd.prog 33 #[.pointer (some ⟨B, 0, none⟩), .slice (some ⟨w'.heap.size, 0, none⟩) 2 2] (w'.alloc (.cells #[.string ⟨#[34]⟩, .string ⟨#[39]⟩] 9)) fun e w'' => e = .returned (.tuple #[.string (str x), .bool true]) ∧ Rst w'' B y ∧ Fr (w'.alloc (.cells #[.string ⟨#[34]⟩, .string ⟨#[39]⟩] 9)).heap.size B (w'.alloc (.cells #[.string ⟨#[34]⟩, .string ⟨#[39]⟩] 9)) w'') := H6
      go_enter Tryd.func27, Tryd.ntmps27
      go_wp2_with (first
        | (go_at_call 32; refine (H1.out _ HR.out).mono ?_; rintro _ w1 ⟨rfl, hr1, hf1⟩; clear H1)
        | (go_at_call 32; refine (H2.out _ hr1).mono ?_; rintro _ w2 ⟨rfl, hr2, hf2⟩; clear H2)
        | (go_at_call 32; refine (H3.out _ hr2).mono ?_; rintro _ w3 ⟨rfl, hr3, hf3⟩; clear H3)
        | (go_at_call 24; refine (H4.out _ hr3).mono ?_; rintro _ w4 ⟨rfl, hr4, hf4⟩; clear H4)
        | (go_at_call 32; refine (H5.out _ hr4).mono ?_; rintro _ w5 ⟨rfl, hr5, hf5⟩; clear H5)
        | (go_at_call 33; refine (H6.out _ hr5 (fr_call (fr_call (fr_call (fr_call hf1 hf2) hf3) hf4) hf5)).mono ?_; rintro _ w6 ⟨rfl, hr6, hf6⟩; clear H6))
      go_ret3
      rw [← HN.out]
      exact pa_yes HP.out hr6 (fr_call (fr_call (fr_call (fr_call (fr_call hf1 hf2) hf3) hf4) hf5) (HFA.out hf6))
  · have e3' : ([61] : List UInt8).isPrefixOf l3 = false := by
      cases hx : ([61] : List UInt8).isPrefixOf l3 with
      | false => rfl
      | true => exact absurd (pre61.1 hx) e3
    have H4 : Hid (∀ w, Rst w B l3 → Calls Tryd.prog 24 #[.pointer (some ⟨B, 0, none⟩), .string ⟨#[61]⟩] w fun e w' => e = .returned (.bool false) ∧ Rst w' B l3 ∧ Fr w.heap.size B w w') := Lib.hid (take_no (p := [61]) e3')
    have HP := Lib.hid (hp.trans (if_neg e3))
    clear hp e3 e3'
    go_enter Tryd.func27, Tryd.ntmps27
    go_wp2_with (first
      | (go_at_call 32; refine (H1.out _ HR.out).mono ?_; rintro _ w1 ⟨rfl, hr1, hf1⟩; clear H1)
      | (go_at_call 32; refine (H2.out _ hr1).mono ?_; rintro _ w2 ⟨rfl, hr2, hf2⟩; clear H2)
      | (go_at_call 32; refine (H3.out _ hr2).mono ?_; rintro _ w3 ⟨rfl, hr3, hf3⟩; clear H3)
      | (go_at_call 24; refine (H4.out _ hr3).mono ?_; rintro _ w4 ⟨rfl, hr4, hf4⟩; clear H4))
    go_ret3
    exact pa_no HP.out (fr_call (fr_call (fr_call hf1 hf2) hf3) hf4)
end Go.Proofs.YtdkfbikpadehdaaDoor.Dec
