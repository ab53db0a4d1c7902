/- The map of what reads a byte at a place. -/
import Derived.Test.YtgadpoahjlnheaaG
import Derived.Maps.Own
import Derived.Maps.OwnSet
namespace Go.Proofs.Ytgadpoahjlnheaa.Med
open Go.RowKit
set_option linter.unusedVariables false
set_option linter.unusedSimpArgs false
open Lab (RetS ret_str str str_size str_list str_eta str_inj u8v st_ixb info5 info_parts)
section
open Go.Maps
/-- A map literal's entry at the operation. -/
theorem wpList_insert_own {H : Type} {P : Program} (w : World) {ops : Array Oper} {rest : List Oper} {o : Oper} {a : Act} {Q : Exit → Act → World → Prop}
    (hg : o.guard = none) (m x v : Operand) (t : TypeId) (hop : o.op = Op.insert t m x v)
    (k e : TypeId) (K : Keyed P k) (ht : P.underlying t = some (.map k e)) (R : Value → Option (DataW H × List MemPlace)) (b n : Nat) (D : DataW H)
    (hm : a.eval m = .map (some b)) (hown : w.ownsMap P k R b n D) (hn : n < maxLen) (key val : Value) (kl : Lit) (hx : a.eval x = key) (hv : a.eval v = val) (hkey : keyOf P k key = some kl)
    (d : DataW H) (ps : List MemPlace) (hval : R val = some (d, ps))
    (hK : ∀ w', w'.ownsMap P k R b (n + 1) (D.put kl d) → w.grownBy w' (some b) → wpList P ops Q rest (a.put o.dst undef) w') :
    wpList P ops Q (o :: rest) a w := by
  refine wpList_plain hg fun K' hK' => ?_
  obtain ⟨w', hrun, r1, r2⟩ := hown.update K ht hn hkey hval
  unfold Oper.wp
  simp [execOp, hop, hm, hx, hv, hrun, Result.andThen]
  exact hK' _ _ (hK w' r1 r2)
/-- A function value among a map's elements reads as itself. -/
def fnR (v : Value) : Option (DataW Value × List MemPlace) := some (.held v, [])
end
open Go.Maps
theorem lawI64 : Keyed Try.prog 3 := int_keyed (q := .i64) Try.underlying3
/-- What reads a byte at a place. -/
def fnV (B : Nat) (f : Nat) : Value := .func (.func f) #[.pointer (some ⟨B, 0, none⟩)] #[]

def mapD (B : Nat) : DataW Value := (((((((((((DataW.map []).put (.int .i64 2) (.held (fnV B 35))).put (.int .i64 3) (.held (fnV B 36))).put (.int .i64 4) (.held (fnV B 37))).put (.int .i64 5) (.held (fnV B 38))).put (.int .i64 6) (.held (fnV B 39))).put (.int .i64 7) (.held (fnV B 40))).put (.int .i64 8) (.held (fnV B 41))).put (.int .i64 9) (.held (fnV B 42))).put (.int .i64 10) (.held (fnV B 43))).put (.int .i64 11) (.held (fnV B 44))).put (.int .i64 12) (.held (fnV B 45))
set_option maxHeartbeats 4000000 in
theorem reads_own (B : Nat) (w : World) : Calls Try.prog 21 #[.pointer (some ⟨B, 0, none⟩)] w fun e w' => ∃ g, e = .returned (.map (some g)) ∧ w.heap.size ≤ g ∧
    w'.ownsMap Try.prog 3 fnR g 11 (mapD B) ∧ Below w.heap.size w w' := by
  have hmm := @run_makeMap Try.prog
  go_enter Try.func21, Try.ntmps21
  go_wp2_with (first
    | (refine wpList_insert_own _ rfl _ _ _ 43 rfl 3 45 lawI64 Try.underlying43 fnR w.heap.size 0 (DataW.map []) rfl (World.ownsMap_made _ _ _ _) (by unfold maxLen; omega) (.int .i64 2) (fnV B 35) (.int .i64 2) rfl rfl (keyOf_int_mk Try.underlying3 (by decide)) _ _ rfl ?_; intro w0 hown0 hgrow0)
    | (refine wpList_insert_own _ rfl _ _ _ 43 rfl 3 45 lawI64 Try.underlying43 fnR w.heap.size 1 ((DataW.map []).put (.int .i64 2) (.held (fnV B 35))) rfl hown0 (by unfold maxLen; omega) (.int .i64 3) (fnV B 36) (.int .i64 3) rfl rfl (keyOf_int_mk Try.underlying3 (by decide)) _ _ rfl ?_; intro w1 hown1 hgrow1)
    | (refine wpList_insert_own _ rfl _ _ _ 43 rfl 3 45 lawI64 Try.underlying43 fnR w.heap.size 2 (((DataW.map []).put (.int .i64 2) (.held (fnV B 35))).put (.int .i64 3) (.held (fnV B 36))) rfl hown1 (by unfold maxLen; omega) (.int .i64 4) (fnV B 37) (.int .i64 4) rfl rfl (keyOf_int_mk Try.underlying3 (by decide)) _ _ rfl ?_; intro w2 hown2 hgrow2)
    | (refine wpList_insert_own _ rfl _ _ _ 43 rfl 3 45 lawI64 Try.underlying43 fnR w.heap.size 3 ((((DataW.map []).put (.int .i64 2) (.held (fnV B 35))).put (.int .i64 3) (.held (fnV B 36))).put (.int .i64 4) (.held (fnV B 37))) rfl hown2 (by unfold maxLen; omega) (.int .i64 5) (fnV B 38) (.int .i64 5) rfl rfl (keyOf_int_mk Try.underlying3 (by decide)) _ _ rfl ?_; intro w3 hown3 hgrow3)
    | (refine wpList_insert_own _ rfl _ _ _ 43 rfl 3 45 lawI64 Try.underlying43 fnR w.heap.size 4 (((((DataW.map []).put (.int .i64 2) (.held (fnV B 35))).put (.int .i64 3) (.held (fnV B 36))).put (.int .i64 4) (.held (fnV B 37))).put (.int .i64 5) (.held (fnV B 38))) rfl hown3 (by unfold maxLen; omega) (.int .i64 6) (fnV B 39) (.int .i64 6) rfl rfl (keyOf_int_mk Try.underlying3 (by decide)) _ _ rfl ?_; intro w4 hown4 hgrow4)
    | (refine wpList_insert_own _ rfl _ _ _ 43 rfl 3 45 lawI64 Try.underlying43 fnR w.heap.size 5 ((((((DataW.map []).put (.int .i64 2) (.held (fnV B 35))).put (.int .i64 3) (.held (fnV B 36))).put (.int .i64 4) (.held (fnV B 37))).put (.int .i64 5) (.held (fnV B 38))).put (.int .i64 6) (.held (fnV B 39))) rfl hown4 (by unfold maxLen; omega) (.int .i64 7) (fnV B 40) (.int .i64 7) rfl rfl (keyOf_int_mk Try.underlying3 (by decide)) _ _ rfl ?_; intro w5 hown5 hgrow5)
    | (refine wpList_insert_own _ rfl _ _ _ 43 rfl 3 45 lawI64 Try.underlying43 fnR w.heap.size 6 (((((((DataW.map []).put (.int .i64 2) (.held (fnV B 35))).put (.int .i64 3) (.held (fnV B 36))).put (.int .i64 4) (.held (fnV B 37))).put (.int .i64 5) (.held (fnV B 38))).put (.int .i64 6) (.held (fnV B 39))).put (.int .i64 7) (.held (fnV B 40))) rfl hown5 (by unfold maxLen; omega) (.int .i64 8) (fnV B 41) (.int .i64 8) rfl rfl (keyOf_int_mk Try.underlying3 (by decide)) _ _ rfl ?_; intro w6 hown6 hgrow6)
    | (refine wpList_insert_own _ rfl _ _ _ 43 rfl 3 45 lawI64 Try.underlying43 fnR w.heap.size 7 ((((((((DataW.map []).put (.int .i64 2) (.held (fnV B 35))).put (.int .i64 3) (.held (fnV B 36))).put (.int .i64 4) (.held (fnV B 37))).put (.int .i64 5) (.held (fnV B 38))).put (.int .i64 6) (.held (fnV B 39))).put (.int .i64 7) (.held (fnV B 40))).put (.int .i64 8) (.held (fnV B 41))) rfl hown6 (by unfold maxLen; omega) (.int .i64 9) (fnV B 42) (.int .i64 9) rfl rfl (keyOf_int_mk Try.underlying3 (by decide)) _ _ rfl ?_; intro w7 hown7 hgrow7)
    | (refine wpList_insert_own _ rfl _ _ _ 43 rfl 3 45 lawI64 Try.underlying43 fnR w.heap.size 8 (((((((((DataW.map []).put (.int .i64 2) (.held (fnV B 35))).put (.int .i64 3) (.held (fnV B 36))).put (.int .i64 4) (.held (fnV B 37))).put (.int .i64 5) (.held (fnV B 38))).put (.int .i64 6) (.held (fnV B 39))).put (.int .i64 7) (.held (fnV B 40))).put (.int .i64 8) (.held (fnV B 41))).put (.int .i64 9) (.held (fnV B 42))) rfl hown7 (by unfold maxLen; omega) (.int .i64 10) (fnV B 43) (.int .i64 10) rfl rfl (keyOf_int_mk Try.underlying3 (by decide)) _ _ rfl ?_; intro w8 hown8 hgrow8)
    | (refine wpList_insert_own _ rfl _ _ _ 43 rfl 3 45 lawI64 Try.underlying43 fnR w.heap.size 9 ((((((((((DataW.map []).put (.int .i64 2) (.held (fnV B 35))).put (.int .i64 3) (.held (fnV B 36))).put (.int .i64 4) (.held (fnV B 37))).put (.int .i64 5) (.held (fnV B 38))).put (.int .i64 6) (.held (fnV B 39))).put (.int .i64 7) (.held (fnV B 40))).put (.int .i64 8) (.held (fnV B 41))).put (.int .i64 9) (.held (fnV B 42))).put (.int .i64 10) (.held (fnV B 43))) rfl hown8 (by unfold maxLen; omega) (.int .i64 11) (fnV B 44) (.int .i64 11) rfl rfl (keyOf_int_mk Try.underlying3 (by decide)) _ _ rfl ?_; intro w9 hown9 hgrow9)
    | (refine wpList_insert_own _ rfl _ _ _ 43 rfl 3 45 lawI64 Try.underlying43 fnR w.heap.size 10 (((((((((((DataW.map []).put (.int .i64 2) (.held (fnV B 35))).put (.int .i64 3) (.held (fnV B 36))).put (.int .i64 4) (.held (fnV B 37))).put (.int .i64 5) (.held (fnV B 38))).put (.int .i64 6) (.held (fnV B 39))).put (.int .i64 7) (.held (fnV B 40))).put (.int .i64 8) (.held (fnV B 41))).put (.int .i64 9) (.held (fnV B 42))).put (.int .i64 10) (.held (fnV B 43))).put (.int .i64 11) (.held (fnV B 44))) rfl hown9 (by unfold maxLen; omega) (.int .i64 12) (fnV B 45) (.int .i64 12) rfl rfl (keyOf_int_mk Try.underlying3 (by decide)) _ _ rfl ?_; intro w10 hown10 hgrow10))
  have HB0 : Hid (Below w.heap.size w (w.alloc (.map #[] 0))) := Lib.hid ((Below.refl _ w).alloc (Nat.le_refl _) _)
  have q0 : w.heap.size + 1 ≤ w0.heap.size := by have := hgrow0.size; simpa using this
  have q1 := hgrow1.size
  have q2 := hgrow2.size
  have q3 := hgrow3.size
  have q4 := hgrow4.size
  have q5 := hgrow5.size
  have q6 := hgrow6.size
  have q7 := hgrow7.size
  have q8 := hgrow8.size
  have q9 := hgrow9.size
  have q10 := hgrow10.size
  have HB : Hid (Below w.heap.size w w10) := Lib.hid ((((((((((((HB0.out).grown hgrow0 (by simp) (fun k e => by cases e; exact Nat.le_refl _)).grown hgrow1 (by omega) (fun k e => by cases e; exact Nat.le_refl _)).grown hgrow2 (by omega) (fun k e => by cases e; exact Nat.le_refl _)).grown hgrow3 (by omega) (fun k e => by cases e; exact Nat.le_refl _)).grown hgrow4 (by omega) (fun k e => by cases e; exact Nat.le_refl _)).grown hgrow5 (by omega) (fun k e => by cases e; exact Nat.le_refl _)).grown hgrow6 (by omega) (fun k e => by cases e; exact Nat.le_refl _)).grown hgrow7 (by omega) (fun k e => by cases e; exact Nat.le_refl _)).grown hgrow8 (by omega) (fun k e => by cases e; exact Nat.le_refl _)).grown hgrow9 (by omega) (fun k e => by cases e; exact Nat.le_refl _)).grown hgrow10 (by omega) (fun k e => by cases e; exact Nat.le_refl _))
  have HO := Lib.hid hown10
  clear hown0 hown1 hown2 hown3 hown4 hown5 hown6 hown7 hown8 hown9 hown10
  go_ret
  exact ⟨_, rfl, Nat.le_refl _, HO.out, HB.out⟩

theorem fnZ (w : World) : (zeroValue 45).run Try.prog w = .ok .nilFunc w := by kernel_rfl
theorem map_at_2 (B : Nat) : (mapD B).atKey (.int .i64 2) (.held .nilFunc) = .held (fnV B 35) := by kernel_rfl
theorem map_at_3 (B : Nat) : (mapD B).atKey (.int .i64 3) (.held .nilFunc) = .held (fnV B 36) := by kernel_rfl
theorem map_at_4 (B : Nat) : (mapD B).atKey (.int .i64 4) (.held .nilFunc) = .held (fnV B 37) := by kernel_rfl
theorem map_at_5 (B : Nat) : (mapD B).atKey (.int .i64 5) (.held .nilFunc) = .held (fnV B 38) := by kernel_rfl
theorem map_at_6 (B : Nat) : (mapD B).atKey (.int .i64 6) (.held .nilFunc) = .held (fnV B 39) := by kernel_rfl
theorem map_at_7 (B : Nat) : (mapD B).atKey (.int .i64 7) (.held .nilFunc) = .held (fnV B 40) := by kernel_rfl
theorem map_at_8 (B : Nat) : (mapD B).atKey (.int .i64 8) (.held .nilFunc) = .held (fnV B 41) := by kernel_rfl
theorem map_at_9 (B : Nat) : (mapD B).atKey (.int .i64 9) (.held .nilFunc) = .held (fnV B 42) := by kernel_rfl
theorem map_at_10 (B : Nat) : (mapD B).atKey (.int .i64 10) (.held .nilFunc) = .held (fnV B 43) := by kernel_rfl
theorem map_at_11 (B : Nat) : (mapD B).atKey (.int .i64 11) (.held .nilFunc) = .held (fnV B 44) := by kernel_rfl
theorem map_at_12 (B : Nat) : (mapD B).atKey (.int .i64 12) (.held .nilFunc) = .held (fnV B 45) := by kernel_rfl
theorem map_at (B a : Nat) (h2 : 2 ≤ a) (h12 : a ≤ 12) : (mapD B).atKey (.int .i64 (a : Int)) (.held .nilFunc) = .held (fnV B (33 + a)) := by
  have : a = 2 ∨ a = 3 ∨ a = 4 ∨ a = 5 ∨ a = 6 ∨ a = 7 ∨ a = 8 ∨ a = 9 ∨ a = 10 ∨ a = 11 ∨ a = 12 := by omega
  rcases this with rfl | rfl | rfl | rfl | rfl | rfl | rfl | rfl | rfl | rfl | rfl
  · exact map_at_2 B
  · exact map_at_3 B
  · exact map_at_4 B
  · exact map_at_5 B
  · exact map_at_6 B
  · exact map_at_7 B
  · exact map_at_8 B
  · exact map_at_9 B
  · exact map_at_10 B
  · exact map_at_11 B
  · exact map_at_12 B
/-- What reads hands back: at each place it is looked up what reads a byte there. -/
def ReadsS (B : Nat) (w : World) (e : Ending) (w' : World) : Prop :=
  ∃ g, e = .returned (.map (some g)) ∧ w.heap.size ≤ g ∧ g < w'.heap.size ∧ (∀ w2, w2.heap[g]? = w'.heap[g]? → ∀ a : Nat, 2 ≤ a → a ≤ 12 → (Instr.lookup 43 (.map (some g)) (.int .i64 (a : Int)) false).run Try.prog w2 = .ok (fnV B (33 + a)) w2) ∧ Below w.heap.size w w'
theorem reads_any (B : Nat) (w : World) : Calls Try.prog 21 #[.pointer (some ⟨B, 0, none⟩)] w fun e w' => ReadsS B w e w' := by
  refine (reads_own B w).mono ?_
  rintro e w' ⟨g, rfl, hg, hown, hb⟩
  refine ⟨g, rfl, hg, hown.lt, fun w2 hw2 a h2 h12 => ?_, hb⟩
  have hown2 : w2.ownsMap Try.prog 3 fnR g 11 (mapD B) := by
    obtain ⟨es, clock, h1, h3⟩ := hown
    exact ⟨es, clock, hw2.trans h1, h3⟩
  obtain ⟨v, ps, hrun, hv⟩ := hown2.lookup lawI64 Try.underlying43 (fnZ w2) (zd := .held .nilFunc) (zp := []) rfl (keyOf_int_mk Try.underlying3 (a := (a : Int)) (by
    have : a = 2 ∨ a = 3 ∨ a = 4 ∨ a = 5 ∨ a = 6 ∨ a = 7 ∨ a = 8 ∨ a = 9 ∨ a = 10 ∨ a = 11 ∨ a = 12 := by omega
    rcases this with rfl | rfl | rfl | rfl | rfl | rfl | rfl | rfl | rfl | rfl | rfl <;> decide))
  rw [map_at B a h2 h12] at hv
  unfold fnR at hv
  simp at hv
  obtain ⟨rfl, _⟩ := hv
  exact hrun
end Go.Proofs.Ytgadpoahjlnheaa.Med
