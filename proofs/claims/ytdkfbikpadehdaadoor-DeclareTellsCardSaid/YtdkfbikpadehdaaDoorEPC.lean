/- The rest of a text: the contracts of quoted and part. -/
import Derived.Test.YtdkfbikpadehdaaDoorEPB
namespace Go.Proofs.YtdkfbikpadehdaaDoor.Dec
open Go.RowKit
set_option linter.unusedVariables false
set_option linter.unusedSimpArgs false
open Lab (RetS ret_str str str_size str_list str_eta str_inj u8v info5 info_parts)
theorem trim_yes {l p : List UInt8} (h : p.isPrefixOf l = true) : Lib.trimPrefix l p = l.drop p.length := by unfold Lib.trimPrefix Lib.hasPrefix; rw [if_pos h]
theorem trim_no {l p : List UInt8} (h : p.isPrefixOf l = false) : Lib.trimPrefix l p = l := by unfold Lib.trimPrefix Lib.hasPrefix; rw [h]; rfl
theorem take_yes {l p : List UInt8} {B : Nat} (h : p.isPrefixOf l = true) (w : World) (hr : Rst w B l) : Calls Tryd.prog 24 #[.pointer (some ⟨B, 0, none⟩), .string (str p)] w fun e w' => e = .returned (.bool true) ∧ Rst w' B (l.drop p.length) ∧ Fr w.heap.size B w w' := by
  have := take_any l p B w hr
  unfold TakeR at this
  rwa [h, trim_yes h] at this
theorem take_no {l p : List UInt8} {B : Nat} (h : p.isPrefixOf l = false) (w : World) (hr : Rst w B l) : Calls Tryd.prog 24 #[.pointer (some ⟨B, 0, none⟩), .string (str p)] w fun e w' => e = .returned (.bool false) ∧ Rst w' B l ∧ Fr w.heap.size B w w' := by
  have := take_any l p B w hr
  unfold TakeR at this
  rwa [h, trim_no h] at this
/-- The two quotes lie in block Q. -/
def Quo (w : World) (Q : Nat) : Prop := Blk w Q #[.string ⟨#[34]⟩, .string ⟨#[39]⟩] 9
theorem Quo.fr {w w' : World} {Q B : Nat} (h : Quo w Q) (hf : Fr w.heap.size B w w') (hne : Q ≠ B) : Quo w' Q := (hf.block Q (Blk.lt h) hne).trans h
def QuR (r : Option (Prt × List UInt8)) (B : Nat) (w : World) (e : Ending) (w' : World) : Prop :=
  match r with
  | none => e = .returned (.tuple #[.string ⟨#[]⟩, .bool false]) ∧ Fr w.heap.size B w w'
  | some q => e = .returned (.tuple #[.string (str q.1.2), .bool true]) ∧ Rst w' B q.2 ∧ Fr w.heap.size B w w'
theorem qvl_hit {n l : List UInt8} {q : UInt8} (hq : q = 34 ∨ q = 39) (h : ([q] : List UInt8).isPrefixOf l = true) : qvl n l = (sp (l.drop 1) [q]).map fun p => ((n, p.1), p.2) := by
  cases l with
  | nil => simp [List.isPrefixOf] at h
  | cons c t =>
    have hc : c = q := by simp [List.isPrefixOf] at h; exact h.symm
    subst hc
    rw [qvl_cons]
    show _ = (sp t [c]).map _
    rw [sp_one]
    by_cases hm : c ∈ t
    · rw [if_pos ⟨hq, hm⟩, if_pos hm]; rfl
    · rw [if_neg (fun e => hm e.2), if_neg hm]; rfl
theorem qvl_miss {n l : List UInt8} (h : ([34] : List UInt8).isPrefixOf l = false) (h' : ([39] : List UInt8).isPrefixOf l = false) : qvl n l = none := by
  cases l with
  | nil => rfl
  | cons c t =>
    simp [List.isPrefixOf] at h h'
    rw [qvl_cons, if_neg]
    rintro ⟨e | e, _⟩
    · exact h e.symm
    · exact h' e.symm
set_option maxRecDepth 100000 in
set_option maxHeartbeats 4000000 in
theorem quoted_any (n l : List UInt8) (B Q : Nat) (w : World) (h : Rst w B l) (hq : Quo w Q) (hne : Q ≠ B) (hm : Mx w) (hB : 0 < B) (hs : l.length ≤ 4294967200) :
    Calls Tryd.prog 33 #[.pointer (some ⟨B, 0, none⟩), .slice (some ⟨Q, 0, none⟩) 2 2] w fun e w' => QuR (qvl n l) B w e w' := by
  have c0 : w.cell? ⟨Q, 0, none⟩ = some (.string ⟨#[34]⟩) := by rw [Blk.cell hq]; rfl
  have HQ := Lib.hid hq
  have HM := Lib.hid hm
  have HR := Lib.hid h
  clear hq hm h
  have H1 : Hid (∀ w', Fr w.heap.size B w w' → w'.cell? ⟨Q, 1, none⟩ = some (.string ⟨#[39]⟩)) := Lib.hid fun w' hf => by
    rw [Blk.cell (HQ.out.fr hf hne)]; rfl
  have HS : Hid (∀ (r : List UInt8) (w' : World), Rst w' B (l.drop 1) → Fr w.heap.size B w w' → Calls Tryd.prog 31 #[.pointer (some ⟨B, 0, none⟩), .string (str r)] w' fun e w'' => UpR (l.drop 1) r B w' e w'') := Lib.hid fun r w' hr hf =>
    upto_any (l.drop 1) r B w' hr (HM.out.fr hf HM.out.pos hB) (by rw [List.length_drop]; omega)
  by_cases h1 : ([34] : List UInt8).isPrefixOf l = true
  · have HT : Hid (∀ w, Rst w B l → Calls Tryd.prog 24 #[.pointer (some ⟨B, 0, none⟩), .string ⟨#[34]⟩] w fun e w' => e = .returned (.bool true) ∧ Rst w' B (l.drop 1) ∧ Fr w.heap.size B w w') := Lib.hid (take_yes (p := [34]) h1)
    rw [qvl_hit (n := n) (.inl rfl) h1]
    replace HS : Hid (∀ (w' : World), Rst w' B (l.drop 1) → Fr w.heap.size B w w' → Calls Tryd.prog 31 #[.pointer (some ⟨B, 0, none⟩), .string ⟨#[34]⟩] w' fun e w'' => UpR (l.drop 1) [34] B w' e w'') := Lib.hid (HS.out [34])
    unfold UpR at HS
    unfold QuR
    generalize l.drop 1 = t at *
    cases hv : sp t [34] with
    | none =>
      rw [hv] at HS
      clear hv h1
      go_enter Tryd.func33, Tryd.ntmps33
      go_wp2_with fail
      refine wp_loop_rounds 1 ?_; rw [rounds_succ]
      go_wp2_with (first
        | (go_at_call 24; refine (HT.out _ HR.out).mono ?_; rintro _ w1 ⟨rfl, hr1, hf1⟩; clear HT)
        | (go_at_call 31; refine (HS.out _ hr1 hf1).mono ?_; rintro _ w2 ⟨rfl, hf2⟩; clear HS))
      go_ret2
      exact ⟨rfl, fr_call hf1 hf2⟩
    | some q =>
      obtain ⟨x, y⟩ := q
      rw [hv] at HS
      simp only [Option.map_some]
      clear hv h1
      go_enter Tryd.func33, Tryd.ntmps33
      go_wp2_with fail
      refine wp_loop_rounds 1 ?_; rw [rounds_succ]
      go_wp2_with (first
        | (go_at_call 24; refine (HT.out _ HR.out).mono ?_; rintro _ w1 ⟨rfl, hr1, hf1⟩; clear HT)
        | (go_at_call 31; refine (HS.out _ hr1 hf1).mono ?_; rintro _ w2 ⟨rfl, hr2, hf2⟩; clear HS))
      go_ret2
      exact ⟨rfl, hr2, fr_call hf1 hf2⟩
  have h1 : ([34] : List UInt8).isPrefixOf l = false := (Bool.not_eq_true _).mp h1
  have HT : Hid (∀ w, Rst w B l → Calls Tryd.prog 24 #[.pointer (some ⟨B, 0, none⟩), .string ⟨#[34]⟩] w fun e w' => e = .returned (.bool false) ∧ Rst w' B l ∧ Fr w.heap.size B w w') := Lib.hid (take_no (p := [34]) h1)
  by_cases h2 : ([39] : List UInt8).isPrefixOf l = true
  · have HT2 : Hid (∀ w, Rst w B l → Calls Tryd.prog 24 #[.pointer (some ⟨B, 0, none⟩), .string ⟨#[39]⟩] w fun e w' => e = .returned (.bool true) ∧ Rst w' B (l.drop 1) ∧ Fr w.heap.size B w w') := Lib.hid (take_yes (p := [39]) h2)
    rw [qvl_hit (n := n) (.inr rfl) h2]
    replace HS : Hid (∀ (w' : World), Rst w' B (l.drop 1) → Fr w.heap.size B w w' → Calls Tryd.prog 31 #[.pointer (some ⟨B, 0, none⟩), .string ⟨#[39]⟩] w' fun e w'' => UpR (l.drop 1) [39] B w' e w'') := Lib.hid (HS.out [39])
    unfold UpR at HS
    unfold QuR
    generalize l.drop 1 = t at *
    cases hv : sp t [39] with
    | none =>
      rw [hv] at HS
      clear hv h1 h2
      go_enter Tryd.func33, Tryd.ntmps33
      go_wp2_with fail
      refine wp_loop_rounds 2 ?_; rw [rounds_succ]
      go_wp2_with (first
        | (go_at_call 24; refine (HT.out _ HR.out).mono ?_; rintro _ w1 ⟨rfl, hr1, hf1⟩; clear HT; have c1 := H1.out _ hf1)
        | (go_at_call 24; refine (HT2.out _ hr1).mono ?_; rintro _ w2 ⟨rfl, hr2, hf2⟩; clear HT2)
        | (go_at_call 31; refine (HS.out _ hr2 (fr_call hf1 hf2)).mono ?_; rintro _ w3 ⟨rfl, hf3⟩; clear HS))
      rw [rounds_succ]
      go_wp2_with (first
        | (go_at_call 24; refine (HT2.out _ hr1).mono ?_; rintro _ w2 ⟨rfl, hr2, hf2⟩; clear HT2)
        | (go_at_call 31; refine (HS.out _ hr2 (fr_call hf1 hf2)).mono ?_; rintro _ w3 ⟨rfl, hf3⟩; clear HS))
      go_ret2
      exact ⟨rfl, fr_call (fr_call hf1 hf2) hf3⟩
    | some q =>
      obtain ⟨x, y⟩ := q
      rw [hv] at HS
      simp only [Option.map_some]
      clear hv h1 h2
      go_enter Tryd.func33, Tryd.ntmps33
      go_wp2_with fail
      refine wp_loop_rounds 2 ?_; rw [rounds_succ]
      go_wp2_with (first
        | (go_at_call 24; refine (HT.out _ HR.out).mono ?_; rintro _ w1 ⟨rfl, hr1, hf1⟩; clear HT; have c1 := H1.out _ hf1))
      rw [rounds_succ]
      go_wp2_with (first
        | (go_at_call 24; refine (HT2.out _ hr1).mono ?_; rintro _ w2 ⟨rfl, hr2, hf2⟩; clear HT2)
        | (go_at_call 31; refine (HS.out _ hr2 (fr_call hf1 hf2)).mono ?_; rintro _ w3 ⟨rfl, hr3, hf3⟩; clear HS))
      go_ret2
      exact ⟨rfl, hr3, fr_call (fr_call hf1 hf2) hf3⟩
  have h2 : ([39] : List UInt8).isPrefixOf l = false := (Bool.not_eq_true _).mp h2
  have HT2 : Hid (∀ w, Rst w B l → Calls Tryd.prog 24 #[.pointer (some ⟨B, 0, none⟩), .string ⟨#[39]⟩] w fun e w' => e = .returned (.bool false) ∧ Rst w' B l ∧ Fr w.heap.size B w w') := Lib.hid (take_no (p := [39]) h2)
  rw [qvl_miss h1 h2]
  unfold QuR
  clear h1 h2 HS
  go_enter Tryd.func33, Tryd.ntmps33
  go_wp2_with fail
  refine wp_loop_rounds 3 ?_; rw [rounds_succ]
  go_wp2_with (first
    | (go_at_call 24; refine (HT.out _ HR.out).mono ?_; rintro _ w1 ⟨rfl, hr1, hf1⟩; clear HT; have c1 := H1.out _ hf1))
  rw [rounds_succ]
  go_wp2_with (first
    | (go_at_call 24; refine (HT2.out _ hr1).mono ?_; rintro _ w2 ⟨rfl, hr2, hf2⟩; clear HT2))
  rw [rounds_succ]
  go_wp2_with fail
  go_ret2
  exact ⟨rfl, fr_call hf1 hf2⟩
end Go.Proofs.YtdkfbikpadehdaaDoor.Dec
