/- The rest of a text: the contracts of its methods take, run, upTo. -/
import Derived.Test.YtdkfbikpadehdaaDoorEE
import Derived.Test.YtdkfbikpadehdaaDoorSHF
namespace Go.Proofs.YtdkfbikpadehdaaDoor.Dec
open Go.RowKit
set_option linter.unusedVariables false
set_option linter.unusedSimpArgs false
open Lab (RetS ret_str str str_size str_list str_eta str_inj u8v info5 info_parts)
/-- All below n but for block B is as it was. -/
structure Fr (n B : Nat) (w w' : World) : Prop where
  os : w'.os = w.os
  tape : w'.tape = w.tape
  output : w'.output = w.output
  size : w.heap.size ≤ w'.heap.size
  block : ∀ k, k < n → k ≠ B → w'.heap[k]? = w.heap[k]?
namespace Fr
variable {n B : Nat} {a b c : World}
theorem refl (n B : Nat) (w : World) : Fr n B w w := ⟨rfl, rfl, rfl, Nat.le_refl _, fun _ _ _ => rfl⟩
theorem trans (h : Fr n B a b) (k : Fr n B b c) : Fr n B a c := ⟨k.os.trans h.os, k.tape.trans h.tape, k.output.trans h.output, Nat.le_trans h.size k.size, fun i hi hb => (k.block i hi hb).trans (h.block i hi hb)⟩
theorem of (h : Below n a b) : Fr n B a b := ⟨h.os, h.tape, h.output, h.size, fun i hi _ => h.block i hi⟩
theorem mono {m : Nat} (h : Fr n B a b) (hm : m ≤ n) : Fr m B a b := ⟨h.os, h.tape, h.output, h.size, fun i hi hb => h.block i (by omega) hb⟩
theorem drewN (h : Fr n B a b) (k : Nat) : Fr n B a (b.drewN k) := ⟨h.os, h.tape, h.output, h.size, h.block⟩
theorem drew (h : Fr n B a b) : Fr n B a b.drew := ⟨h.os, h.tape, h.output, h.size, h.block⟩
theorem setB (h : Fr n B a b) (o : Nat) (v : Value) : Fr n B a (b.setCell ⟨B, o, none⟩ v) :=
  ⟨h.os, h.tape, h.output, by simpa [World.setCell] using h.size, fun i hi hb => (Below.heap_setCell _ _ _ _ hb).trans (h.block i hi hb)⟩
theorem below {m : Nat} (h : Fr n B a b) (hm : m ≤ n) (hb : m ≤ B) : Below m a b := ⟨h.os, h.tape, h.output, h.size, fun i hi => h.block i (by omega) (by omega)⟩
end Fr
theorem fr_call {B : Nat} {a b c : World} (h : Fr a.heap.size B a b) (k : Fr b.heap.size B b c) : Fr a.heap.size B a c := h.trans (k.mono h.size)
/-- The box B holds what was not read yet. -/
def Rst (w : World) (B : Nat) (l : List UInt8) : Prop := Blk w B #[.string (str l)] 49
theorem Rst.cell {w : World} {B : Nat} {l : List UInt8} (h : Rst w B l) : w.cell? ⟨B, 0, none⟩ = some (.string (str l)) := by rw [Blk.cell h]; rfl
theorem Rst.fz {w : World} {B : Nat} {l : List UInt8} (h : Rst w B l) : w.frozen? ⟨B, 0, none⟩ = false := Blk.froz h 0
theorem Rst.set {w : World} {B : Nat} {l : List UInt8} (h : Rst w B l) (x : List UInt8) : Rst (w.setCell ⟨B, 0, none⟩ (.string (str x))) B x := Blk.set h rfl
/-- The variable MaxLen of the library is there. -/
def Mx (w : World) : Prop := ∃ m, w.cell? ⟨0, 0, none⟩ = some (.int .i64 m)
theorem Mx.pos {w : World} (h : Mx w) : 0 < w.heap.size := by
  obtain ⟨m, hm⟩ := h
  exact World.block_lt_of_cell? w ⟨0, 0, none⟩ hm
theorem Mx.below {n : Nat} {w w' : World} (h : Mx w) (hb : Below n w w') (hn : 0 < n) : Mx w' := by
  obtain ⟨m, hm⟩ := h
  exact ⟨m, (hb.cell (p := ⟨0, 0, none⟩) hn).trans hm⟩
theorem Mx.next {w w' : World} (h : Mx w) (hb : Below w.heap.size w w') : Mx w' := h.below hb h.pos
theorem Mx.drewN {w : World} (h : Mx w) (n : Nat) : Mx (w.drewN n) := h
theorem Mx.drew {w : World} (h : Mx w) : Mx w.drew := h
theorem Mx.alloc {w : World} (h : Mx w) (o : Obj) : Mx (w.alloc o) := h.next ((Below.refl _ _).alloc (Nat.le_refl _) o)
theorem Mx.fr {n B : Nat} {w w' : World} (h : Mx w) (hf : Fr n B w w') (hn : 0 < n) (hB : 0 < B) : Mx w' := h.below (hf.below (m := 1) hn hB) Nat.one_pos
def TakeR (l p : List UInt8) (B : Nat) (w : World) (e : Ending) (w' : World) : Prop :=
  e = .returned (.bool (p.isPrefixOf l)) ∧ Rst w' B (Lib.trimPrefix l p) ∧ Fr w.heap.size B w w'
set_option maxHeartbeats 1000000 in
theorem take_any (l p : List UInt8) (B : Nat) (w : World) (h : Rst w B l) : Calls Tryd.prog 24 #[.pointer (some ⟨B, 0, none⟩), .string (str p)] w fun e w' => TakeR l p B w e w' := by
  have HC : Hid (∀ w, Calls Tryd.prog 30 #[.string (str l), .string (str p)] w fun e w' => e = .returned (.tuple #[.string (str (Lib.trimPrefix l p)), .bool (p.isPrefixOf l)]) ∧ w' = w) := Lib.hid fun w => Tryd.strings_CutPrefix (str l) (str p) w
  have hc := h.cell
  have hf := h.fz
  unfold TakeR
  have HP := Lib.hid (h.set (Lib.trimPrefix l p))
  clear h
  obtain ⟨x, hx⟩ : ∃ x, Lib.trimPrefix l p = x := ⟨_, rfl⟩
  rw [hx] at HC HP ⊢
  obtain ⟨b, hb⟩ : ∃ b, p.isPrefixOf l = b := ⟨_, rfl⟩
  rw [hb] at HC ⊢
  clear hx hb
  go_enter Tryd.func24, Tryd.ntmps24
  go_wp2_with (go_at_call 30; refine (HC.out _).mono ?_; rintro _ w9 ⟨rfl, hw9⟩; subst w9; clear HC)
  go_ret
  exact ⟨rfl, HP.out, (Fr.refl _ _ _).setB _ _⟩
def RunR (l cs : List UInt8) (B : Nat) (w : World) (e : Ending) (w' : World) : Prop :=
  e = .returned (.string (str (l.takeWhile (cs.contains ·)))) ∧ Rst w' B (l.dropWhile (cs.contains ·)) ∧ Fr w.heap.size B w w'
theorem len_sub (l : List UInt8) (p : UInt8 → Bool) : l.length - (l.dropWhile p).length = (l.takeWhile p).length := by
  have := congrArg List.length (List.takeWhile_append_dropWhile (p := p) (l := l))
  rw [List.length_append] at this
  omega
set_option maxHeartbeats 1000000 in
theorem run_any (l cs : List UInt8) (B : Nat) (w : World) (h : Rst w B l) (hs : l.length ≤ maxLen) (hcs : cs.length < 4294967281) (ha : cs.all (fun b => decide (b.toNat < 128)) = true) :
    Calls Tryd.prog 32 #[.pointer (some ⟨B, 0, none⟩), .string (str cs)] w fun e w' => RunR l cs B w e w' := by
  have HC : Hid (∀ w, Calls Tryd.prog 36 #[.string (str l), .string (str cs)] w fun e w' => e = .returned (.string (str (l.dropWhile (cs.contains ·)))) ∧ Below w.heap.size w w') := Lib.hid fun w =>
    Tryd.strings_TrimLeft_laid (str l) (str cs) w (by rw [str_size]; exact hcs) (ascii_of_all ha)
  have hc := h.cell
  have hle := dw_len (cs.contains ·) l
  have hsl : ∀ w0 : World, (Instr.slice 9 (.string (str l)) none (some (.int .i64 ((l.length : Int) - ((l.dropWhile (cs.contains ·)).length : Int)))) none).run Tryd.prog w0 = .ok (.string (str (l.takeWhile (cs.contains ·)))) w0 := fun w0 => by
    have := slice_to (str l) (l.length - (l.dropWhile (cs.contains ·)).length) (by rw [str_size]; omega) (str_list l) (x := l.takeWhile (cs.contains ·)) (by rw [len_sub, take_take]) w0
    rw [show ((l.length : Int) - ((l.dropWhile (cs.contains ·)).length : Int)) = ((l.length - (l.dropWhile (cs.contains ·)).length : Nat) : Int) by omega]
    exact this
  unfold RunR
  have hsz := str_size l
  have htz := str_size (l.dropWhile (cs.contains ·))
  rw [← hsz, ← htz] at hsl
  rw [← hsz, ← htz] at hle
  rw [← hsz] at hs
  have HB := Lib.hid h
  have HX : Hid (∀ {w' : World}, Below w.heap.size w w' → (w'.cell? ⟨B, 0, none⟩ = some (.string (str l)) ∧ w'.frozen? ⟨B, 0, none⟩ = false) ∧ Rst (w'.setCell ⟨B, 0, none⟩ (.string (str (l.dropWhile (cs.contains ·))))) B (l.dropWhile (cs.contains ·))) := Lib.hid fun hb => by
    have := Blk.below h hb
    exact ⟨⟨Rst.cell this, Rst.fz this⟩, Rst.set this _⟩
  clear h hsz htz
  obtain ⟨x, hx⟩ : ∃ x, l.dropWhile (cs.contains ·) = x := ⟨_, rfl⟩
  rw [hx] at HC HX hsl hle ⊢
  obtain ⟨y, hy⟩ : ∃ y, l.takeWhile (cs.contains ·) = y := ⟨_, rfl⟩
  rw [hy] at hsl ⊢
  clear hx hy
  obtain ⟨s, hs'⟩ : ∃ s, str l = s := ⟨_, rfl⟩
  rw [hs'] at HC HX hsl hle hc hs
  obtain ⟨X, hX⟩ : ∃ X, str x = X := ⟨_, rfl⟩
  rw [hX] at HC HX hsl hle
  clear hs' hX
  unfold maxLen at hs
  go_enter Tryd.func32, Tryd.ntmps32
  go_wp2_with (go_at_call 36; refine (HC.out _).mono ?_; rintro _ w9 ⟨rfl, hw9⟩; clear HC; obtain ⟨⟨hc9, hf9⟩, hr9⟩ := HX.out hw9; clear HX; have HR := Lib.hid hr9; clear hr9)
  go_ret
  exact ⟨rfl, HR.out, (Fr.of hw9).setB _ _⟩
end Go.Proofs.YtdkfbikpadehdaaDoor.Dec
