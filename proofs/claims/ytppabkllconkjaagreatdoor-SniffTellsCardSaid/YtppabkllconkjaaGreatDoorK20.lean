/- Joined: EPA, EPB, EPC, EPD, EPE, EPH, EPI, EPF, EPG, EPJ. -/
import Derived.BigQuiet
import Derived.Deep.AppendLies
import Derived.Deep.DeepCutAuto
import Derived.Deep.LoopGhost
import Derived.Deep.QuietTactic
import Derived.Deep.RegionHeld3
import Derived.Deep.WholeRow
import Derived.Laws.AppendOwn
import Derived.Laws.BytesArg
import Derived.Laws.DeepStrings4
import Derived.Laws.Externs
import Derived.Laws.IdiomStrings
import Derived.Laws.ResultCell
import Derived.Laws.Rows
import Derived.Laws.Tables
import Derived.Lib.Bytealg
import Derived.Lib.Hide
import Derived.LoopIn
import Derived.LoopN
import Derived.LoopNIn
import Derived.Maps.AppendAt
import Derived.OpenShut
import Derived.Outline
import Derived.OwnWalk
import Derived.OwnWalkIn
import Derived.ProofKit
import Derived.RangeFuncBound
import Derived.RangeFuncBox
import Derived.RangeFuncCalls
import Derived.RangeFuncLeaves
import Derived.RangeFuncNested
import Derived.RangeFuncWrites
import Derived.Shelf.Abstract
import Derived.Shelf.LaysM
import Derived.Shelf.RegionOpen
import Derived.Shelf.Small.Wraps
import Derived.Shelf.Strings.Cut
import Derived.Shelf.Strings.Shaped
import Derived.Shelf.Strings.SlTrimAscii
import Derived.StillTailTactics
import Derived.TacticsInMore
import Derived.Test.YtppabkllconkjaaGreatDoorProg
import Derived.Test.YtppabkllconkjaaGreatDoorRows
import Derived.WalkKit
import Derived.WalkMore
import Derived.Test.YtppabkllconkjaaGreatDoorK05
import Derived.Test.YtppabkllconkjaaGreatDoorK09
import Derived.Test.YtppabkllconkjaaGreatDoorK11
import Derived.Test.YtppabkllconkjaaGreatDoorK16
import Derived.Test.YtppabkllconkjaaGreatDoorK18
import Derived.Test.YtppabkllconkjaaGreatDoorK19
/- The rest of a text: the contracts of its methods take, run, upTo. -/
namespace Go.Proofs.YtppabkllconkjaaGreatDoor.Dec
open Go.RowKit
set_option linter.unusedVariables false
set_option linter.unusedSimpArgs false
set_option maxRecDepth 100000
open Lab (RetS ret_str str str_size str_list str_eta str_inj u8v info5 info_parts)
/-- All below n but for block B is as it was. -/
structure Fr (n B : Nat) (w w' : World) : Prop where
  os : w'.os = w.os
  tape : w'.tape = w.tape
  output : w'.output = w.output
  size : w.heap.size ≤ w'.heap.size
  block : ∀ k, k < n → k ≠ B → w'.heap[k]? = w.heap[k]?
namespace Fr
variable {n B : Nat} {a b c : World}
theorem refl (n B : Nat) (w : World) : Fr n B w w := ⟨rfl, rfl, rfl, Nat.le_refl _, fun _ _ _ => rfl⟩
theorem trans (h : Fr n B a b) (k : Fr n B b c) : Fr n B a c := ⟨k.os.trans h.os, k.tape.trans h.tape, k.output.trans h.output, Nat.le_trans h.size k.size, fun i hi hb => (k.block i hi hb).trans (h.block i hi hb)⟩
theorem of (h : Below n a b) : Fr n B a b := ⟨h.os, h.tape, h.output, h.size, fun i hi _ => h.block i hi⟩
theorem mono {m : Nat} (h : Fr n B a b) (hm : m ≤ n) : Fr m B a b := ⟨h.os, h.tape, h.output, h.size, fun i hi hb => h.block i (by omega) hb⟩
theorem drewN (h : Fr n B a b) (k : Nat) : Fr n B a (b.drewN k) := ⟨h.os, h.tape, h.output, h.size, h.block⟩
theorem setB (h : Fr n B a b) (o : Nat) (v : Value) : Fr n B a (b.setCell ⟨B, o, none⟩ v) :=
  ⟨h.os, h.tape, h.output, by simpa [World.setCell] using h.size, fun i hi hb => (Below.heap_setCell _ _ _ _ hb).trans (h.block i hi hb)⟩
theorem below {m : Nat} (h : Fr n B a b) (hm : m ≤ n) (hb : m ≤ B) : Below m a b := ⟨h.os, h.tape, h.output, h.size, fun i hi => h.block i (by omega) (by omega)⟩
end Fr
theorem fr_call {B : Nat} {a b c : World} (h : Fr a.heap.size B a b) (k : Fr b.heap.size B b c) : Fr a.heap.size B a c := h.trans (k.mono h.size)
/-- The box B holds what was not read yet. -/
def Rst (w : World) (B : Nat) (l : List UInt8) : Prop := Blk w B #[.string (str l)] 123
theorem Rst.cell {w : World} {B : Nat} {l : List UInt8} (h : Rst w B l) : w.cell? ⟨B, 0, none⟩ = some (.string (str l)) := by rw [Blk.cell h]; rfl
theorem Rst.fz {w : World} {B : Nat} {l : List UInt8} (h : Rst w B l) : w.frozen? ⟨B, 0, none⟩ = false := Blk.froz h 0
theorem Rst.set {w : World} {B : Nat} {l : List UInt8} (h : Rst w B l) (x : List UInt8) : Rst (w.setCell ⟨B, 0, none⟩ (.string (str x))) B x := Blk.set h rfl
/-- The variable MaxLen of the library is there. -/
def Mx (w : World) : Prop := ∃ m, w.cell? ⟨6, 0, none⟩ = some (.int .i64 m)
theorem Mx.pos {w : World} (h : Mx w) : 6 < w.heap.size := by
  obtain ⟨m, hm⟩ := h
  exact World.block_lt_of_cell? w ⟨6, 0, none⟩ hm
theorem Mx.below {n : Nat} {w w' : World} (h : Mx w) (hb : Below n w w') (hn : 6 < n) : Mx w' := by
  obtain ⟨m, hm⟩ := h
  exact ⟨m, (hb.cell (p := ⟨6, 0, none⟩) hn).trans hm⟩
theorem Mx.next {w w' : World} (h : Mx w) (hb : Below w.heap.size w w') : Mx w' := h.below hb h.pos
theorem Mx.drewN {w : World} (h : Mx w) (n : Nat) : Mx (w.drewN n) := h
theorem Mx.alloc {w : World} (h : Mx w) (o : Obj) : Mx (w.alloc o) := h.next ((Below.refl _ _).alloc (Nat.le_refl _) o)
theorem Mx.fr {n B : Nat} {w w' : World} (h : Mx w) (hf : Fr n B w w') (hn : 6 < n) (hB : 6 < B) : Mx w' := h.below (hf.below (m := 6 + 1) hn hB) (Nat.lt_succ_self _)
def TakeR (l p : List UInt8) (B : Nat) (w : World) (e : Ending) (w' : World) : Prop :=
  e = .returned (.bool (p.isPrefixOf l)) ∧ Rst w' B (Lib.trimPrefix l p) ∧ Fr w.heap.size B w w'
set_option maxHeartbeats 1000000 in
theorem take_any (l p : List UInt8) (B : Nat) (w : World) (h : Rst w B l) : Calls Tryz.prog 82 #[.pointer (some ⟨B, 0, none⟩), .string (str p)] w fun e w' => TakeR l p B w e w' := by
  have HC : Hid (∀ w, Calls Tryz.prog 120 #[.string (str l), .string (str p)] w fun e w' => e = .returned (.tuple #[.string (str (Lib.trimPrefix l p)), .bool (p.isPrefixOf l)]) ∧ w' = w) := Lib.hid fun w => Tryz.strings_CutPrefix (str l) (str p) w
  have hc := h.cell
  have hf := h.fz
  unfold TakeR
  have HP := Lib.hid (h.set (Lib.trimPrefix l p))
  clear h
  obtain ⟨x, hx⟩ : ∃ x, Lib.trimPrefix l p = x := ⟨_, rfl⟩
  rw [hx] at HC HP ⊢
  obtain ⟨b, hb⟩ : ∃ b, p.isPrefixOf l = b := ⟨_, rfl⟩
  rw [hb] at HC ⊢
  clear hx hb
  go_enter Tryz.func82, Tryz.ntmps82
  go_wp2_with (go_at_call 120; refine (HC.out _).mono ?_; rintro _ w9 ⟨rfl, hw9⟩; subst w9; clear HC)
  go_ret
  exact ⟨rfl, HP.out, (Fr.refl _ _ _).setB _ _⟩
def RunR (l cs : List UInt8) (B : Nat) (w : World) (e : Ending) (w' : World) : Prop :=
  e = .returned (.string (str (l.takeWhile (cs.contains ·)))) ∧ Rst w' B (l.dropWhile (cs.contains ·)) ∧ Fr w.heap.size B w w'
theorem len_sub (l : List UInt8) (p : UInt8 → Bool) : l.length - (l.dropWhile p).length = (l.takeWhile p).length := by
  have := congrArg List.length (List.takeWhile_append_dropWhile (p := p) (l := l))
  rw [List.length_append] at this
  omega
set_option maxHeartbeats 1000000 in
theorem run_any (l cs : List UInt8) (B : Nat) (w : World) (h : Rst w B l) (hs : l.length ≤ maxLen) (hcs : cs.length < 4294967281) (ha : cs.all (fun b => decide (b.toNat < 128)) = true) :
    Calls Tryz.prog 176 #[.pointer (some ⟨B, 0, none⟩), .string (str cs)] w fun e w' => RunR l cs B w e w' := by
  have HC : Hid (∀ w, Calls Tryz.prog 183 #[.string (str l), .string (str cs)] w fun e w' => e = .returned (.string (str (l.dropWhile (cs.contains ·)))) ∧ Below w.heap.size w w') := Lib.hid fun w =>
    Tryz.strings_TrimLeft_laid (str l) (str cs) w (by rw [str_size]; exact hcs) (ascii_of_all ha)
  have hc := h.cell
  have hle := dw_len (cs.contains ·) l
  have hsl : ∀ w0 : World, (Instr.slice 9 (.string (str l)) none (some (.int .i64 ((l.length : Int) - ((l.dropWhile (cs.contains ·)).length : Int)))) none).run Tryz.prog w0 = .ok (.string (str (l.takeWhile (cs.contains ·)))) w0 := fun w0 => by
    have := slice_to (str l) (l.length - (l.dropWhile (cs.contains ·)).length) (by rw [str_size]; omega) (str_list l) (x := l.takeWhile (cs.contains ·)) (by rw [len_sub, take_take]) w0
    rw [show ((l.length : Int) - ((l.dropWhile (cs.contains ·)).length : Int)) = ((l.length - (l.dropWhile (cs.contains ·)).length : Nat) : Int) by omega]
    exact this
  unfold RunR
  have hsz := str_size l
  have htz := str_size (l.dropWhile (cs.contains ·))
  rw [← hsz, ← htz] at hsl
  rw [← hsz, ← htz] at hle
  rw [← hsz] at hs
  have HB := Lib.hid h
  have HX : Hid (∀ {w' : World}, Below w.heap.size w w' → (w'.cell? ⟨B, 0, none⟩ = some (.string (str l)) ∧ w'.frozen? ⟨B, 0, none⟩ = false) ∧ Rst (w'.setCell ⟨B, 0, none⟩ (.string (str (l.dropWhile (cs.contains ·))))) B (l.dropWhile (cs.contains ·))) := Lib.hid fun hb => by
    have := Blk.below h hb
    exact ⟨⟨Rst.cell this, Rst.fz this⟩, Rst.set this _⟩
  clear h hsz htz
  obtain ⟨x, hx⟩ : ∃ x, l.dropWhile (cs.contains ·) = x := ⟨_, rfl⟩
  rw [hx] at HC HX hsl hle ⊢
  obtain ⟨y, hy⟩ : ∃ y, l.takeWhile (cs.contains ·) = y := ⟨_, rfl⟩
  rw [hy] at hsl ⊢
  clear hx hy
  obtain ⟨s, hs'⟩ : ∃ s, str l = s := ⟨_, rfl⟩
  rw [hs'] at HC HX hsl hle hc hs
  obtain ⟨X, hX⟩ : ∃ X, str x = X := ⟨_, rfl⟩
  rw [hX] at HC HX hsl hle
  clear hs' hX
  unfold maxLen at hs
  go_enter Tryz.func176, Tryz.ntmps176
  go_wp2_with (go_at_call 183; refine (HC.out _).mono ?_; rintro _ w9 ⟨rfl, hw9⟩; clear HC; obtain ⟨⟨hc9, hf9⟩, hr9⟩ := HX.out hw9; clear HX; have HR := Lib.hid hr9; clear hr9)
  go_ret
  exact ⟨rfl, HR.out, (Fr.of hw9).setB _ _⟩
end Go.Proofs.YtppabkllconkjaaGreatDoor.Dec
/- The rest of a text: the contracts of upTo, quoted, part. -/
namespace Go.Proofs.YtppabkllconkjaaGreatDoor.Dec
open Go.RowKit
set_option linter.unusedVariables false
set_option linter.unusedSimpArgs false
set_option maxRecDepth 100000
open Lab (RetS ret_str str str_size str_list str_eta str_inj u8v info5 info_parts)
/-- What stands up to the first of an end, and what stands behind it. -/
def sp (l e : List UInt8) : Option (List UInt8 × List UInt8) := if 0 ≤ Lib.index l e then some (l.take (Lib.index l e).toNat, l.drop ((Lib.index l e).toNat + e.length)) else none
theorem cut_sp (l e : List UInt8) : Lib.cut l e = match sp l e with | none => (l, [], false) | some q => (q.1, q.2, true) := by
  unfold Lib.cut sp
  by_cases h : 0 ≤ Lib.index l e
  · rw [if_pos h, if_pos h]
  · rw [if_neg h, if_neg h]
theorem sp_nil {e : List UInt8} (he : e ≠ []) : sp [] e = none := by
  unfold sp Lib.index
  cases e with
  | nil => exact absurd rfl he
  | cons a t => rfl
theorem sp_cons (c : UInt8) (t e : List UInt8) : sp (c :: t) e = if e.isPrefixOf (c :: t) then some ([], (c :: t).drop e.length) else (sp t e).map fun q => (c :: q.1, q.2) := by
  by_cases hp : e.isPrefixOf (c :: t) = true
  · have hi : Lib.index (c :: t) e = 0 := by unfold Lib.index; rw [if_pos hp]
    rw [if_pos hp]
    unfold sp
    rw [hi]
    simp
  · rw [if_neg hp]
    have hge := Lib.index_ge t e
    by_cases hi : Lib.index t e = -1
    · have hc : Lib.index (c :: t) e = -1 := by unfold Lib.index; rw [if_neg hp, hi]; rfl
      unfold sp
      rw [hc, hi]
      rfl
    · have hc : Lib.index (c :: t) e = Lib.index t e + 1 := by
        have h2 : (Lib.index t e == -1) = false := by simpa using hi
        conv => lhs; unfold Lib.index
        rw [if_neg hp, h2]; rfl
      have h0 : 0 ≤ Lib.index t e := by omega
      obtain ⟨n, hn⟩ := Int.eq_ofNat_of_zero_le h0
      unfold sp
      rw [hc, hn]
      rw [if_pos (by omega), if_pos (by omega)]
      have e1 : ((n : Int) + 1).toNat = n + 1 := by omega
      have e2 : ((n : Nat) : Int).toNat = n := by omega
      rw [e1, e2]
      have e3 : n + 1 + e.length = (n + e.length) + 1 := by omega
      rw [e3]
      rfl
theorem sp_upto : ∀ l : List UInt8, (sp l [63, 62]).map (·.1) = upto l
  | [] => by rw [sp_nil (by decide)]; rfl
  | c :: t => by
    rw [sp_cons]
    unfold upto
    have hh : ([63, 62] : List UInt8).isPrefixOf (c :: t) = true ↔ c = 63 ∧ t.head? = some 62 := by
      cases t with
      | nil => simp [List.isPrefixOf]
      | cons d u => simp [List.isPrefixOf]; exact and_congr eq_comm eq_comm
    by_cases h : c = 63 ∧ t.head? = some 62
    · rw [if_pos h, if_pos (hh.2 h)]; rfl
    · rw [if_neg h, if_neg (fun e => h (hh.1 e)), ← sp_upto t]
      cases sp t [63, 62] <;> rfl
theorem sp_one (q : UInt8) : ∀ l : List UInt8, sp l [q] = if q ∈ l then some (l.takeWhile (· != q), (l.dropWhile (· != q)).tail) else none
  | [] => by rw [sp_nil (by simp)]; simp
  | c :: t => by
    rw [sp_cons]
    by_cases h : c = q
    · subst h
      simp [List.isPrefixOf]
    · have h1 : ([q] : List UInt8).isPrefixOf (c :: t) = false := by simp [List.isPrefixOf]; exact fun e => h e.symm
      have h2 : (c != q) = true := by simpa using h
      rw [h1, sp_one q t]
      by_cases hm : q ∈ t
      · have hm2 : q ∈ c :: t := List.mem_cons_of_mem _ hm
        rw [if_pos hm, if_pos hm2]
        simp [List.takeWhile_cons, List.dropWhile_cons, h2]
      · have hm2 : ¬ q ∈ c :: t := by
          intro hq
          rcases List.mem_cons.1 hq with e | e
          · exact h e.symm
          · exact hm e
        rw [if_neg hm, if_neg hm2]; simp
def UpR (l e : List UInt8) (B : Nat) (w : World) (r : Ending) (w' : World) : Prop :=
  match sp l e with
  | none => r = .returned (.tuple #[.string ⟨#[]⟩, .bool false]) ∧ Fr w.heap.size B w w'
  | some q => r = .returned (.tuple #[.string (str q.1), .bool true]) ∧ Rst w' B q.2 ∧ Fr w.heap.size B w w'
set_option maxHeartbeats 1000000 in
theorem upto_any (l e : List UInt8) (B : Nat) (w : World) (h : Rst w B l) (hm : Mx w) (hs : l.length ≤ 4294967200) : Calls Tryz.prog 175 #[.pointer (some ⟨B, 0, none⟩), .string (str e)] w fun r w' => UpR l e B w r w' := by
  obtain ⟨m, hm⟩ := hm
  have HC0 := Tryz.strings_Cut (str l) (str e) m w (by rw [str_size]; omega) hm
  rw [str_list, str_list, cut_sp] at HC0
  have hc := h.cell
  have hf := h.fz
  have HR : Hid (∀ (n : Nat) x, Rst ((w.drewN n).setCell ⟨B, 0, none⟩ (.string (str x))) B x) := Lib.hid fun n x => Rst.set (Blk.drewN h n) x
  unfold UpR
  clear h
  cases hq : sp l e with
  | none =>
    rw [hq] at HC0
    have HC : Hid (Calls Tryz.prog 182 #[.string (str l), .string (str e)] w fun r w' => r = .returned (.tuple #[.string (str l), .string ⟨#[]⟩, .bool false]) ∧ ∃ n, w' = w.drewN n) := Lib.hid HC0
    clear HC0 hq
    go_enter Tryz.func175, Tryz.ntmps175
    go_wp2_with (go_at_call 182; refine HC.out.mono ?_; rintro _ w9 ⟨rfl, n9, hw9⟩; subst w9; clear HC)
    go_ret2
    exact ⟨rfl, (Fr.refl _ _ _).drewN _⟩
  | some q =>
    rw [hq] at HC0
    obtain ⟨x, y⟩ := q
    have HC : Hid (Calls Tryz.prog 182 #[.string (str l), .string (str e)] w fun r w' => r = .returned (.tuple #[.string (str x), .string (str y), .bool true]) ∧ ∃ n, w' = w.drewN n) := Lib.hid HC0
    clear HC0 hq
    go_enter Tryz.func175, Tryz.ntmps175
    go_wp2_with (go_at_call 182; refine HC.out.mono ?_; rintro _ w9 ⟨rfl, n9, hw9⟩; subst w9; clear HC)
    go_ret2
    exact ⟨rfl, HR.out n9 y, ((Fr.refl _ _ _).drewN _).setB _ _⟩
end Go.Proofs.YtppabkllconkjaaGreatDoor.Dec
/- The rest of a text: the contracts of quoted and part. -/
namespace Go.Proofs.YtppabkllconkjaaGreatDoor.Dec
open Go.RowKit
set_option linter.unusedVariables false
set_option linter.unusedSimpArgs false
set_option maxRecDepth 100000
open Lab (RetS ret_str str str_size str_list str_eta str_inj u8v info5 info_parts)
theorem trim_yes {l p : List UInt8} (h : p.isPrefixOf l = true) : Lib.trimPrefix l p = l.drop p.length := by unfold Lib.trimPrefix Lib.hasPrefix; rw [if_pos h]
theorem trim_no {l p : List UInt8} (h : p.isPrefixOf l = false) : Lib.trimPrefix l p = l := by unfold Lib.trimPrefix Lib.hasPrefix; rw [h]; rfl
theorem take_yes {l p : List UInt8} {B : Nat} (h : p.isPrefixOf l = true) (w : World) (hr : Rst w B l) : Calls Tryz.prog 82 #[.pointer (some ⟨B, 0, none⟩), .string (str p)] w fun e w' => e = .returned (.bool true) ∧ Rst w' B (l.drop p.length) ∧ Fr w.heap.size B w w' := by
  have := take_any l p B w hr
  unfold TakeR at this
  rwa [h, trim_yes h] at this
theorem take_no {l p : List UInt8} {B : Nat} (h : p.isPrefixOf l = false) (w : World) (hr : Rst w B l) : Calls Tryz.prog 82 #[.pointer (some ⟨B, 0, none⟩), .string (str p)] w fun e w' => e = .returned (.bool false) ∧ Rst w' B l ∧ Fr w.heap.size B w w' := by
  have := take_any l p B w hr
  unfold TakeR at this
  rwa [h, trim_no h] at this
/-- The two quotes lie in block Q. -/
def Quo (w : World) (Q : Nat) : Prop := Blk w Q #[.string ⟨#[34]⟩, .string ⟨#[39]⟩] 9
theorem Quo.fr {w w' : World} {Q B : Nat} (h : Quo w Q) (hf : Fr w.heap.size B w w') (hne : Q ≠ B) : Quo w' Q := (hf.block Q (Blk.lt h) hne).trans h
def QuR (r : Option (Prt × List UInt8)) (B : Nat) (w : World) (e : Ending) (w' : World) : Prop :=
  match r with
  | none => e = .returned (.tuple #[.string ⟨#[]⟩, .bool false]) ∧ Fr w.heap.size B w w'
  | some q => e = .returned (.tuple #[.string (str q.1.2), .bool true]) ∧ Rst w' B q.2 ∧ Fr w.heap.size B w w'
theorem qvl_hit {n l : List UInt8} {q : UInt8} (hq : q = 34 ∨ q = 39) (h : ([q] : List UInt8).isPrefixOf l = true) : qvl n l = (sp (l.drop 1) [q]).map fun p => ((n, p.1), p.2) := by
  cases l with
  | nil => simp [List.isPrefixOf] at h
  | cons c t =>
    have hc : c = q := by simp [List.isPrefixOf] at h; exact h.symm
    subst hc
    rw [qvl_cons]
    show _ = (sp t [c]).map _
    rw [sp_one]
    by_cases hm : c ∈ t
    · rw [if_pos ⟨hq, hm⟩, if_pos hm]; rfl
    · rw [if_neg (fun e => hm e.2), if_neg hm]; rfl
theorem qvl_miss {n l : List UInt8} (h : ([34] : List UInt8).isPrefixOf l = false) (h' : ([39] : List UInt8).isPrefixOf l = false) : qvl n l = none := by
  cases l with
  | nil => rfl
  | cons c t =>
    simp [List.isPrefixOf] at h h'
    rw [qvl_cons, if_neg]
    rintro ⟨e | e, _⟩
    · exact h e.symm
    · exact h' e.symm
set_option maxRecDepth 100000 in
set_option maxHeartbeats 4000000 in
theorem quoted_any (n l : List UInt8) (B Q : Nat) (w : World) (h : Rst w B l) (hq : Quo w Q) (hne : Q ≠ B) (hm : Mx w) (hB : 6 < B) (hs : l.length ≤ 4294967200) :
    Calls Tryz.prog 177 #[.pointer (some ⟨B, 0, none⟩), .slice (some ⟨Q, 0, none⟩) 2 2] w fun e w' => QuR (qvl n l) B w e w' := by
  have c0 : w.cell? ⟨Q, 0, none⟩ = some (.string ⟨#[34]⟩) := by rw [Blk.cell hq]; rfl
  have HQ := Lib.hid hq
  have HM := Lib.hid hm
  have HR := Lib.hid h
  clear hq hm h
  have H1 : Hid (∀ w', Fr w.heap.size B w w' → w'.cell? ⟨Q, 1, none⟩ = some (.string ⟨#[39]⟩)) := Lib.hid fun w' hf => by
    rw [Blk.cell (HQ.out.fr hf hne)]; rfl
  have HS : Hid (∀ (r : List UInt8) (w' : World), Rst w' B (l.drop 1) → Fr w.heap.size B w w' → Calls Tryz.prog 175 #[.pointer (some ⟨B, 0, none⟩), .string (str r)] w' fun e w'' => UpR (l.drop 1) r B w' e w'') := Lib.hid fun r w' hr hf =>
    upto_any (l.drop 1) r B w' hr (HM.out.fr hf HM.out.pos hB) (by rw [List.length_drop]; omega)
  by_cases h1 : ([34] : List UInt8).isPrefixOf l = true
  · have HT : Hid (∀ w, Rst w B l → Calls Tryz.prog 82 #[.pointer (some ⟨B, 0, none⟩), .string ⟨#[34]⟩] w fun e w' => e = .returned (.bool true) ∧ Rst w' B (l.drop 1) ∧ Fr w.heap.size B w w') := Lib.hid (take_yes (p := [34]) h1)
    rw [qvl_hit (n := n) (.inl rfl) h1]
    replace HS : Hid (∀ (w' : World), Rst w' B (l.drop 1) → Fr w.heap.size B w w' → Calls Tryz.prog 175 #[.pointer (some ⟨B, 0, none⟩), .string ⟨#[34]⟩] w' fun e w'' => UpR (l.drop 1) [34] B w' e w'') := Lib.hid (HS.out [34])
    unfold UpR at HS
    unfold QuR
    generalize l.drop 1 = t at *
    cases hv : sp t [34] with
    | none =>
      rw [hv] at HS
      clear hv h1
      go_enter Tryz.func177, Tryz.ntmps177
      go_wp2_with fail
      refine wp_loop_rounds 1 ?_; rw [rounds_succ]
      go_wp2_with (first
        | (go_at_call 82; refine (HT.out _ HR.out).mono ?_; rintro _ w1 ⟨rfl, hr1, hf1⟩; clear HT)
        | (go_at_call 175; refine (HS.out _ hr1 hf1).mono ?_; rintro _ w2 ⟨rfl, hf2⟩; clear HS))
      go_ret2
      exact ⟨rfl, fr_call hf1 hf2⟩
    | some q =>
      obtain ⟨x, y⟩ := q
      rw [hv] at HS
      simp only [Option.map_some]
      clear hv h1
      go_enter Tryz.func177, Tryz.ntmps177
      go_wp2_with fail
      refine wp_loop_rounds 1 ?_; rw [rounds_succ]
      go_wp2_with (first
        | (go_at_call 82; refine (HT.out _ HR.out).mono ?_; rintro _ w1 ⟨rfl, hr1, hf1⟩; clear HT)
        | (go_at_call 175; refine (HS.out _ hr1 hf1).mono ?_; rintro _ w2 ⟨rfl, hr2, hf2⟩; clear HS))
      go_ret2
      exact ⟨rfl, hr2, fr_call hf1 hf2⟩
  have h1 : ([34] : List UInt8).isPrefixOf l = false := (Bool.not_eq_true _).mp h1
  have HT : Hid (∀ w, Rst w B l → Calls Tryz.prog 82 #[.pointer (some ⟨B, 0, none⟩), .string ⟨#[34]⟩] w fun e w' => e = .returned (.bool false) ∧ Rst w' B l ∧ Fr w.heap.size B w w') := Lib.hid (take_no (p := [34]) h1)
  by_cases h2 : ([39] : List UInt8).isPrefixOf l = true
  · have HT2 : Hid (∀ w, Rst w B l → Calls Tryz.prog 82 #[.pointer (some ⟨B, 0, none⟩), .string ⟨#[39]⟩] w fun e w' => e = .returned (.bool true) ∧ Rst w' B (l.drop 1) ∧ Fr w.heap.size B w w') := Lib.hid (take_yes (p := [39]) h2)
    rw [qvl_hit (n := n) (.inr rfl) h2]
    replace HS : Hid (∀ (w' : World), Rst w' B (l.drop 1) → Fr w.heap.size B w w' → Calls Tryz.prog 175 #[.pointer (some ⟨B, 0, none⟩), .string ⟨#[39]⟩] w' fun e w'' => UpR (l.drop 1) [39] B w' e w'') := Lib.hid (HS.out [39])
    unfold UpR at HS
    unfold QuR
    generalize l.drop 1 = t at *
    cases hv : sp t [39] with
    | none =>
      rw [hv] at HS
      clear hv h1 h2
      go_enter Tryz.func177, Tryz.ntmps177
      go_wp2_with fail
      refine wp_loop_rounds 2 ?_; rw [rounds_succ]
      go_wp2_with (first
        | (go_at_call 82; refine (HT.out _ HR.out).mono ?_; rintro _ w1 ⟨rfl, hr1, hf1⟩; clear HT; have c1 := H1.out _ hf1)
        | (go_at_call 82; refine (HT2.out _ hr1).mono ?_; rintro _ w2 ⟨rfl, hr2, hf2⟩; clear HT2)
        | (go_at_call 175; refine (HS.out _ hr2 (fr_call hf1 hf2)).mono ?_; rintro _ w3 ⟨rfl, hf3⟩; clear HS))
      rw [rounds_succ]
      go_wp2_with (first
        | (go_at_call 82; refine (HT2.out _ hr1).mono ?_; rintro _ w2 ⟨rfl, hr2, hf2⟩; clear HT2)
        | (go_at_call 175; refine (HS.out _ hr2 (fr_call hf1 hf2)).mono ?_; rintro _ w3 ⟨rfl, hf3⟩; clear HS))
      go_ret2
      exact ⟨rfl, fr_call (fr_call hf1 hf2) hf3⟩
    | some q =>
      obtain ⟨x, y⟩ := q
      rw [hv] at HS
      simp only [Option.map_some]
      clear hv h1 h2
      go_enter Tryz.func177, Tryz.ntmps177
      go_wp2_with fail
      refine wp_loop_rounds 2 ?_; rw [rounds_succ]
      go_wp2_with (first
        | (go_at_call 82; refine (HT.out _ HR.out).mono ?_; rintro _ w1 ⟨rfl, hr1, hf1⟩; clear HT; have c1 := H1.out _ hf1))
      rw [rounds_succ]
      go_wp2_with (first
        | (go_at_call 82; refine (HT2.out _ hr1).mono ?_; rintro _ w2 ⟨rfl, hr2, hf2⟩; clear HT2)
        | (go_at_call 175; refine (HS.out _ hr2 (fr_call hf1 hf2)).mono ?_; rintro _ w3 ⟨rfl, hr3, hf3⟩; clear HS))
      go_ret2
      exact ⟨rfl, hr3, fr_call (fr_call hf1 hf2) hf3⟩
  have h2 : ([39] : List UInt8).isPrefixOf l = false := (Bool.not_eq_true _).mp h2
  have HT2 : Hid (∀ w, Rst w B l → Calls Tryz.prog 82 #[.pointer (some ⟨B, 0, none⟩), .string ⟨#[39]⟩] w fun e w' => e = .returned (.bool false) ∧ Rst w' B l ∧ Fr w.heap.size B w w') := Lib.hid (take_no (p := [39]) h2)
  rw [qvl_miss h1 h2]
  unfold QuR
  clear h1 h2 HS
  go_enter Tryz.func177, Tryz.ntmps177
  go_wp2_with fail
  refine wp_loop_rounds 3 ?_; rw [rounds_succ]
  go_wp2_with (first
    | (go_at_call 82; refine (HT.out _ HR.out).mono ?_; rintro _ w1 ⟨rfl, hr1, hf1⟩; clear HT; have c1 := H1.out _ hf1))
  rw [rounds_succ]
  go_wp2_with (first
    | (go_at_call 82; refine (HT2.out _ hr1).mono ?_; rintro _ w2 ⟨rfl, hr2, hf2⟩; clear HT2))
  rw [rounds_succ]
  go_wp2_with fail
  go_ret2
  exact ⟨rfl, fr_call hf1 hf2⟩
end Go.Proofs.YtppabkllconkjaaGreatDoor.Dec
/- The rest of a text: the contract of part. -/
namespace Go.Proofs.YtppabkllconkjaaGreatDoor.Dec
open Go.RowKit
set_option linter.unusedVariables false
set_option linter.unusedSimpArgs false
set_option maxRecDepth 100000
open Lab (RetS ret_str str str_size str_list str_eta str_inj u8v info5 info_parts)
def whtL : List UInt8 := [9, 10, 13, 32]
def ltrL : List UInt8 := [97, 98, 99, 100, 101, 102, 103, 104, 105, 106, 107, 108, 109, 110, 111, 112, 113, 114, 115, 116, 117, 118, 119, 120, 121, 122]
theorem whtL_eq : (fun c => whtL.contains c) = wht := by
  funext c
  exact byte_all (P := fun c => whtL.contains c = wht c) (by decide +kernel) c
theorem ltrL_eq : (fun c => ltrL.contains c) = ltr := by
  funext c
  exact byte_all (P := fun c => ltrL.contains c = ltr c) (by decide +kernel) c
theorem run_wht {l : List UInt8} {B : Nat} (w : World) (h : Rst w B l) (hs : l.length ≤ 4294967200) : Calls Tryz.prog 176 #[.pointer (some ⟨B, 0, none⟩), .string ⟨#[9, 10, 13, 32]⟩] w fun e w' => e = .returned (.string (str (l.takeWhile wht))) ∧ Rst w' B (l.dropWhile wht) ∧ Fr w.heap.size B w w' := by
  have := run_any l whtL B w h (by unfold maxLen; omega) (by decide) (by decide)
  unfold RunR at this
  rwa [whtL_eq] at this
theorem run_ltr {l : List UInt8} {B : Nat} (w : World) (h : Rst w B l) (hs : l.length ≤ 4294967200) : Calls Tryz.prog 176 #[.pointer (some ⟨B, 0, none⟩), .string ⟨#[97, 98, 99, 100, 101, 102, 103, 104, 105, 106, 107, 108, 109, 110, 111, 112, 113, 114, 115, 116, 117, 118, 119, 120, 121, 122]⟩] w fun e w' => e = .returned (.string (str (l.takeWhile ltr))) ∧ Rst w' B (l.dropWhile ltr) ∧ Fr w.heap.size B w w' := by
  have := run_any l ltrL B w h (by unfold maxLen; omega) (by decide) (by decide)
  unfold RunR at this
  rwa [ltrL_eq] at this
def PaR (r : Option (Prt × List UInt8)) (B : Nat) (w : World) (e : Ending) (w' : World) : Prop :=
  match r with
  | none => e = .returned (.tuple #[.string ⟨#[]⟩, .string ⟨#[]⟩, .bool false]) ∧ Fr w.heap.size B w w'
  | some q => e = .returned (.tuple #[.string (str q.1.1), .string (str q.1.2), .bool true]) ∧ Rst w' B q.2 ∧ Fr w.heap.size B w w'
theorem pa_no {r : Option (Prt × List UInt8)} {B : Nat} {w w' : World} (h : r = none) (hf : Fr w.heap.size B w w') : PaR r B w (.returned (.tuple #[.string ⟨#[]⟩, .string ⟨#[]⟩, .bool false])) w' := by
  subst h; exact ⟨rfl, hf⟩
theorem pa_yes {r : Option (Prt × List UInt8)} {B : Nat} {w w' : World} {a b y : List UInt8} (h : r = some ((a, b), y)) (hr : Rst w' B y) (hf : Fr w.heap.size B w w') : PaR r B w (.returned (.tuple #[.string (str a), .string (str b), .bool true])) w' := by
  subst h; exact ⟨rfl, hr, hf⟩
theorem pre61 {l : List UInt8} : ([61] : List UInt8).isPrefixOf l = true ↔ l.head? = some 61 := by
  cases l with
  | nil => simp [List.isPrefixOf]
  | cons c t => simp [List.isPrefixOf]; exact eq_comm
theorem str_nil_iff {x : List UInt8} {X : ByteArray} (h : str x = X) : (X.toList == []) = (x == []) := by rw [← h, toList_str]
theorem rst_alloc {w : World} {B : Nat} {l : List UInt8} (h : Rst w B l) (o : Obj) : Rst (w.alloc o) B l := Blk.alloc h o
theorem fr_alloc {w : World} {n B : Nat} (o : Obj) (h : n ≤ w.heap.size) : Fr n B w (w.alloc o) := Fr.of ((Below.refl n w).alloc h o)
theorem qvl_name {n l : List UInt8} {p : Prt × List UInt8} (h : qvl n l = some p) : p.1.1 = n := by
  cases l with
  | nil => cases h
  | cons q t =>
    rw [qvl_cons] at h
    by_cases hc : (q = 34 ∨ q = 39) ∧ q ∈ t
    · rw [if_pos hc] at h; cases h; rfl
    · rw [if_neg hc] at h; cases h
set_option maxRecDepth 100000 in
set_option maxHeartbeats 4000000 in
theorem part1_any (l : List UInt8) (B : Nat) (w : World) (h : Rst w B l) (hm : Mx w) (hB : 6 < B) (hs : l.length ≤ 4294967200) :
    Calls Tryz.prog 154 #[.pointer (some ⟨B, 0, none⟩)] w fun e w' => PaR (prt l) B w e w' := by
  have HM := Lib.hid hm
  have HR := Lib.hid h
  clear hm h
  have h1 := dw_len wht l
  have h2 := dw_len ltr (l.dropWhile wht)
  have h3 := dw_len wht ((l.dropWhile wht).dropWhile ltr)
  have h4 : (((l.dropWhile wht).dropWhile ltr).dropWhile wht).tail.length ≤ (((l.dropWhile wht).dropWhile ltr).dropWhile wht).length := by rw [List.length_tail]; omega
  have h5 := dw_len wht (((l.dropWhile wht).dropWhile ltr).dropWhile wht).tail
  have H1 : Hid (∀ w, Rst w B l → Calls Tryz.prog 176 #[.pointer (some ⟨B, 0, none⟩), .string ⟨#[9, 10, 13, 32]⟩] w fun e w' => e = .returned (.string (str (l.takeWhile wht))) ∧ Rst w' B (l.dropWhile wht) ∧ Fr w.heap.size B w w') := Lib.hid fun w h => run_wht w h hs
  have hp : ∀ p, prt l = p → p = if l.takeWhile wht = [] ∨ (l.dropWhile wht).takeWhile ltr = [] then none
      else if (((l.dropWhile wht).dropWhile ltr).dropWhile wht).head? = some 61 then qvl ((l.dropWhile wht).takeWhile ltr) ((((l.dropWhile wht).dropWhile ltr).dropWhile wht).tail.dropWhile wht) else none := fun p h => by rw [← h]; rfl
  obtain ⟨r, hr⟩ : ∃ r, prt l = r := ⟨_, rfl⟩
  rw [hr]
  have hp := hp r hr
  clear hr
  obtain ⟨a, ha⟩ : ∃ a, l.takeWhile wht = a := ⟨_, rfl⟩
  obtain ⟨l1, hl1⟩ : ∃ l1, l.dropWhile wht = l1 := ⟨_, rfl⟩
  rw [ha, hl1] at H1
  rw [ha, hl1] at hp
  rw [hl1] at h1 h2 h3 h4 h5
  clear ha hl1
  have H2 : Hid (∀ w, Rst w B l1 → Calls Tryz.prog 176 #[.pointer (some ⟨B, 0, none⟩), .string ⟨#[97, 98, 99, 100, 101, 102, 103, 104, 105, 106, 107, 108, 109, 110, 111, 112, 113, 114, 115, 116, 117, 118, 119, 120, 121, 122]⟩] w fun e w' => e = .returned (.string (str (l1.takeWhile ltr))) ∧ Rst w' B (l1.dropWhile ltr) ∧ Fr w.heap.size B w w') := Lib.hid fun w h => run_ltr w h (by omega)
  obtain ⟨n, hn⟩ : ∃ n, l1.takeWhile ltr = n := ⟨_, rfl⟩
  obtain ⟨l2, hl2⟩ : ∃ l2, l1.dropWhile ltr = l2 := ⟨_, rfl⟩
  rw [hn, hl2] at H2 hp
  rw [hl2] at h2 h3 h4 h5
  clear hn hl2
  have H3 : Hid (∀ w, Rst w B l2 → Calls Tryz.prog 176 #[.pointer (some ⟨B, 0, none⟩), .string ⟨#[9, 10, 13, 32]⟩] w fun e w' => e = .returned (.string (str (l2.takeWhile wht))) ∧ Rst w' B (l2.dropWhile wht) ∧ Fr w.heap.size B w w') := Lib.hid fun w h => run_wht w h (by omega)
  obtain ⟨X3, hX3⟩ : ∃ X, str (l2.takeWhile wht) = X := ⟨_, rfl⟩
  obtain ⟨l3, hl3⟩ : ∃ l3, l2.dropWhile wht = l3 := ⟨_, rfl⟩
  rw [hX3, hl3] at H3
  rw [hl3] at hp h3 h4 h5
  clear hX3 hl3
  obtain ⟨A, hA⟩ : ∃ A, str a = A := ⟨_, rfl⟩
  have eA := str_nil_iff hA
  rw [hA] at H1
  clear hA
  obtain ⟨N, hN⟩ : ∃ N, str n = N := ⟨_, rfl⟩
  have eN := str_nil_iff hN
  have HN := Lib.hid hN
  rw [hN] at H2
  clear hN
  by_cases e1 : a = []
  · have d1 : (A.toList == []) = true := by rw [eA, e1]; rfl
    have HP := Lib.hid (hp.trans (if_pos (.inl e1)))
    clear hp H2 H3 eA eN e1
    go_enter Tryz.func154, Tryz.ntmps154
    go_wp2_with (first
      | (go_at_call 176; refine (H1.out _ HR.out).mono ?_; rintro _ w1 ⟨rfl, hr1, hf1⟩; clear H1))
    go_ret3
    exact pa_no HP.out hf1
  have d1 : (A.toList == []) = false := by rw [eA]; simpa using e1
  clear eA
  by_cases e2 : n = []
  · have d2 : (N.toList == []) = true := by rw [eN, e2]; rfl
    have HP := Lib.hid (hp.trans (if_pos (.inr e2)))
    clear hp eN e1 e2
    go_enter Tryz.func154, Tryz.ntmps154
    go_wp2_with (first
      | (go_at_call 176; refine (H1.out _ HR.out).mono ?_; rintro _ w1 ⟨rfl, hr1, hf1⟩; clear H1)
      | (go_at_call 176; refine (H2.out _ hr1).mono ?_; rintro _ w2 ⟨rfl, hr2, hf2⟩; clear H2)
      | (go_at_call 176; refine (H3.out _ hr2).mono ?_; rintro _ w3 ⟨rfl, hr3, hf3⟩; clear H3))
    go_ret3
    exact pa_no HP.out (fr_call (fr_call hf1 hf2) hf3)
  have d2 : (N.toList == []) = false := by rw [eN]; simpa using e2
  rw [if_neg (fun e => e.elim e1 e2)] at hp
  clear eN e1 e2
  by_cases e3 : l3.head? = some 61
  · have H4 : Hid (∀ w, Rst w B l3 → Calls Tryz.prog 82 #[.pointer (some ⟨B, 0, none⟩), .string ⟨#[61]⟩] w fun e w' => e = .returned (.bool true) ∧ Rst w' B l3.tail ∧ Fr w.heap.size B w w') := Lib.hid (by
      have := take_yes (B := B) (pre61.2 e3)
      rwa [show l3.drop ([61] : List UInt8).length = l3.tail from List.drop_one] at this)
    rw [if_pos e3] at hp
    obtain ⟨l4, hl4⟩ : ∃ l4, l3.tail = l4 := ⟨_, rfl⟩
    rw [hl4] at H4 hp h4 h5
    clear hl4 e3
    have H5 : Hid (∀ w, Rst w B l4 → Calls Tryz.prog 176 #[.pointer (some ⟨B, 0, none⟩), .string ⟨#[9, 10, 13, 32]⟩] w fun e w' => e = .returned (.string (str (l4.takeWhile wht))) ∧ Rst w' B (l4.dropWhile wht) ∧ Fr w.heap.size B w w') := Lib.hid fun w h => run_wht w h (by omega)
    obtain ⟨X5, hX5⟩ : ∃ X, str (l4.takeWhile wht) = X := ⟨_, rfl⟩
    obtain ⟨l5, hl5⟩ : ∃ l5, l4.dropWhile wht = l5 := ⟨_, rfl⟩
    rw [hX5, hl5] at H5
    rw [hl5] at hp h5
    clear hX5 hl5
    have H6 : Hid (∀ w', Rst w' B l5 → Fr w.heap.size B w w' → Calls Tryz.prog 177 #[.pointer (some ⟨B, 0, none⟩), .slice (some ⟨w'.heap.size, 0, none⟩) 2 2] (w'.alloc (.cells #[.string ⟨#[34]⟩, .string ⟨#[39]⟩] 9)) fun e w'' => QuR (qvl n l5) B (w'.alloc (.cells #[.string ⟨#[34]⟩, .string ⟨#[39]⟩] 9)) e w'') := Lib.hid fun w' hr hf =>
      quoted_any n l5 B w'.heap.size _ (rst_alloc hr _) (Blk.new _ _ _) (by have := Blk.lt hr; omega) ((HM.out.fr hf HM.out.pos hB).alloc _) hB (by omega)
    unfold QuR at H6
    have HFA : Hid (∀ {w1 w2 : World}, Fr (w1.alloc (.cells #[.string ⟨#[34]⟩, .string ⟨#[39]⟩] 9)).heap.size B (w1.alloc (.cells #[.string ⟨#[34]⟩, .string ⟨#[39]⟩] 9)) w2 → Fr w1.heap.size B w1 w2) := Lib.hid fun hf => fr_call (fr_alloc _ (Nat.le_refl _)) hf
    cases hv : qvl n l5 with
    | none =>
      rw [hv] at H6 hp
      have HP := Lib.hid hp
      clear hp hv
      go_enter Tryz.func154, Tryz.ntmps154
      go_wp2_with (first
        | (go_at_call 176; refine (H1.out _ HR.out).mono ?_; rintro _ w1 ⟨rfl, hr1, hf1⟩; clear H1)
        | (go_at_call 176; refine (H2.out _ hr1).mono ?_; rintro _ w2 ⟨rfl, hr2, hf2⟩; clear H2)
        | (go_at_call 176; refine (H3.out _ hr2).mono ?_; rintro _ w3 ⟨rfl, hr3, hf3⟩; clear H3)
        | (go_at_call 82; refine (H4.out _ hr3).mono ?_; rintro _ w4 ⟨rfl, hr4, hf4⟩; clear H4)
        | (go_at_call 176; refine (H5.out _ hr4).mono ?_; rintro _ w5 ⟨rfl, hr5, hf5⟩; clear H5)
        | (go_at_call 177; refine (H6.out _ hr5 (fr_call (fr_call (fr_call (fr_call hf1 hf2) hf3) hf4) hf5)).mono ?_; rintro _ w6 ⟨rfl, hf6⟩; clear H6))
      go_ret3
      exact pa_no HP.out (fr_call (fr_call (fr_call (fr_call (fr_call hf1 hf2) hf3) hf4) hf5) (HFA.out hf6))
    | some q =>
      have hnm := qvl_name hv
      obtain ⟨⟨n', x⟩, y⟩ := q
      dsimp only at hnm
      subst hnm
      rw [hv] at H6 hp
      have HP := Lib.hid hp
      clear hp hv
      replace H6 : Hid (∀ w', Rst w' B l5 → Fr w.heap.size B w w' → Calls Tryz.prog 177 #[.pointer (some ⟨B, 0, none⟩), .slice (some ⟨w'.heap.size, 0, none⟩) 2 2] (w'.alloc (.cells #[.string ⟨#[34]⟩, .string ⟨#[39]⟩] 9)) fun e w'' => e = .returned (.tuple #[.string (str x), .bool true]) ∧ Rst w'' B y ∧ Fr (w'.alloc (.cells #[.string ⟨#[34]⟩, .string ⟨#[39]⟩] 9)).heap.size B (w'.alloc (.cells #[.string ⟨#[34]⟩, .string ⟨#[39]⟩] 9)) w'') := H6
      go_enter Tryz.func154, Tryz.ntmps154
      go_wp2_with (first
        | (go_at_call 176; refine (H1.out _ HR.out).mono ?_; rintro _ w1 ⟨rfl, hr1, hf1⟩; clear H1)
        | (go_at_call 176; refine (H2.out _ hr1).mono ?_; rintro _ w2 ⟨rfl, hr2, hf2⟩; clear H2)
        | (go_at_call 176; refine (H3.out _ hr2).mono ?_; rintro _ w3 ⟨rfl, hr3, hf3⟩; clear H3)
        | (go_at_call 82; refine (H4.out _ hr3).mono ?_; rintro _ w4 ⟨rfl, hr4, hf4⟩; clear H4)
        | (go_at_call 176; refine (H5.out _ hr4).mono ?_; rintro _ w5 ⟨rfl, hr5, hf5⟩; clear H5)
        | (go_at_call 177; refine (H6.out _ hr5 (fr_call (fr_call (fr_call (fr_call hf1 hf2) hf3) hf4) hf5)).mono ?_; rintro _ w6 ⟨rfl, hr6, hf6⟩; clear H6))
      go_ret3
      rw [← HN.out]
      exact pa_yes HP.out hr6 (fr_call (fr_call (fr_call (fr_call (fr_call hf1 hf2) hf3) hf4) hf5) (HFA.out hf6))
  · have e3' : ([61] : List UInt8).isPrefixOf l3 = false := by
      cases hx : ([61] : List UInt8).isPrefixOf l3 with
      | false => rfl
      | true => exact absurd (pre61.1 hx) e3
    have H4 : Hid (∀ w, Rst w B l3 → Calls Tryz.prog 82 #[.pointer (some ⟨B, 0, none⟩), .string ⟨#[61]⟩] w fun e w' => e = .returned (.bool false) ∧ Rst w' B l3 ∧ Fr w.heap.size B w w') := Lib.hid (take_no (p := [61]) e3')
    have HP := Lib.hid (hp.trans (if_neg e3))
    clear hp e3 e3'
    go_enter Tryz.func154, Tryz.ntmps154
    go_wp2_with (first
      | (go_at_call 176; refine (H1.out _ HR.out).mono ?_; rintro _ w1 ⟨rfl, hr1, hf1⟩; clear H1)
      | (go_at_call 176; refine (H2.out _ hr1).mono ?_; rintro _ w2 ⟨rfl, hr2, hf2⟩; clear H2)
      | (go_at_call 176; refine (H3.out _ hr2).mono ?_; rintro _ w3 ⟨rfl, hr3, hf3⟩; clear H3)
      | (go_at_call 82; refine (H4.out _ hr3).mono ?_; rintro _ w4 ⟨rfl, hr4, hf4⟩; clear H4))
    go_ret3
    exact pa_no HP.out (fr_call (fr_call (fr_call hf1 hf2) hf3) hf4)
end Go.Proofs.YtppabkllconkjaaGreatDoor.Dec
/- The contract of within. -/
namespace Go.Proofs.YtppabkllconkjaaGreatDoor.Dec
open Go.RowKit
set_option linter.unusedVariables false
set_option linter.unusedSimpArgs false
set_option maxRecDepth 100000
open Lab (RetS ret_str str str_size str_list str_eta str_inj u8v info5 info_parts)
/-- What stands between the ends of a declaration; nothing, if there is none. -/
def inn (b : List UInt8) : List UInt8 := if frontX.isPrefixOf (b.take 200) then ((sp ((b.take 200).drop 5) [63, 62]).map (·.1)).getD [] else []
theorem upto_head : ∀ {l s : List UInt8}, upto l = some s → s = [] ∨ s.head? = l.head?
  | [], s, h => by cases h
  | c :: t, s, h => by
    unfold upto at h
    by_cases hc : c = 63 ∧ t.head? = some 62
    · rw [if_pos hc] at h; cases h; exact .inl rfl
    · rw [if_neg hc] at h
      cases hu : upto t with
      | none => rw [hu] at h; cases h
      | some x => rw [hu] at h; cases h; exact .inr rfl
theorem upto_le : ∀ {l s : List UInt8}, upto l = some s → s.length ≤ l.length
  | [], s, h => by cases h
  | c :: t, s, h => by
    unfold upto at h
    by_cases hc : c = 63 ∧ t.head? = some 62
    · rw [if_pos hc] at h; cases h; simp
    · rw [if_neg hc] at h
      cases hu : upto t with
      | none => rw [hu] at h; cases h
      | some x => rw [hu] at h; cases h; have := upto_le hu; simp; omega
theorem pts_nowhite {s : List UInt8} (h : s.head?.any wht = false) : pts s = [] := by
  apply pts_none
  have : s.takeWhile wht = [] := by
    cases s with
    | nil => rfl
    | cons c t =>
      have hc : wht c = false := h
      simp [List.takeWhile_cons, hc]
  unfold prt
  rw [if_pos (.inl this)]
theorem prts_inn (b : List UInt8) : prts b = pts (inn b) := by
  unfold prts dcl inn ins
  rw [sp_upto]
  generalize b.take 200 = l
  show (match (if frontX.isPrefixOf l = true ∧ (l.drop 5).head?.any wht = true then upto (l.drop 5) else none) with | none => [] | some s => pts s) = _
  by_cases h1 : frontX.isPrefixOf l = true
  · rw [if_pos h1]
    by_cases h2 : (l.drop 5).head?.any wht = true
    · rw [if_pos ⟨h1, h2⟩]
      cases upto (l.drop 5) with
      | none => exact pts_nil.symm
      | some s => rfl
    · rw [if_neg (fun e => h2 e.2)]
      cases hu : upto (l.drop 5) with
      | none => exact pts_nil.symm
      | some s =>
        rcases upto_head hu with rfl | e
        · exact pts_nil.symm
        · exact (pts_nowhite (by rw [Option.getD_some, e]; exact (Bool.not_eq_true _).mp h2)).symm
  · rw [if_neg h1, if_neg (fun e => h1 e.1)]
    exact pts_nil.symm
theorem inn_len (b : List UInt8) : (inn b).length ≤ 200 := by
  unfold inn
  rw [sp_upto]
  split
  · cases hu : upto ((b.take 200).drop 5) with
    | none => simp
    | some s =>
      have := upto_le hu
      rw [List.length_drop, List.length_take] at this
      simp only [Option.getD_some]
      omega
  · simp
def WiR (x : List UInt8) (w : World) (e : Ending) (w' : World) : Prop := e = .returned (.string (str x)) ∧ Below w.heap.size w w'
theorem wi_ret {x y : List UInt8} {w w' : World} (h : x = y) (hb : Below w.heap.size w w') : WiR x w (.returned (.string (str y))) w' := by subst h; exact ⟨rfl, hb⟩
theorem fr_own {a b : World} {v : Value} {T : TypeId} (h : Fr (a.alloc (.cells #[v] T)).heap.size a.heap.size (a.alloc (.cells #[v] T)) b) : Below a.heap.size a b :=
  ((Below.refl _ a).alloc (Nat.le_refl _) _).trans (h.below (by simp) (Nat.le_refl _))
set_option maxRecDepth 100000 in
set_option maxHeartbeats 4000000 in
theorem within_any (l : List UInt8) (w : World) (hm : Mx w) (hs : l.length ≤ maxLen) : Calls Tryz.prog 153 #[.string (str l)] w fun e w' => WiR (inn l) w e w' := by
  have HM := Lib.hid hm
  have hpos := hm.pos
  clear hm
  unfold maxLen at hs
  have hsz := str_size l
  have heM : (str l).extract 0 (min ((str l).size : Int) 200).toNat = str (l.take 200) := by
    rw [extract_list, str_list, hsz]
    simp only [List.drop_zero, Nat.sub_zero]
    by_cases h : l.length ≤ 200
    · rw [show (min (l.length : Int) 200).toNat = l.length by omega, List.take_of_length_le (Nat.le_refl _), List.take_of_length_le h]
    · rw [show (min (l.length : Int) 200).toNat = 200 by omega]
  have hi : inn l = if frontX.isPrefixOf (l.take 200) then ((sp ((l.take 200).drop 5) [63, 62]).map (·.1)).getD [] else [] := rfl
  have htl : (l.take 200).length ≤ 200 := by rw [List.length_take]; omega
  obtain ⟨i, hii⟩ : ∃ i, inn l = i := ⟨_, rfl⟩
  rw [hii] at hi ⊢
  clear hii
  obtain ⟨t, ht⟩ : ∃ t, l.take 200 = t := ⟨_, rfl⟩
  rw [ht] at heM hi htl
  clear ht
  obtain ⟨s, hs'⟩ : ∃ s, str l = s := ⟨_, rfl⟩
  rw [hs'] at heM hsz ⊢
  rw [← hsz] at hs
  clear hs' hsz
  have HU : Hid (∀ w', Rst w' w.heap.size (t.drop 5) → Mx w' → Calls Tryz.prog 175 #[.pointer (some ⟨w.heap.size, 0, none⟩), .string ⟨#[63, 62]⟩] w' fun e w'' => UpR (t.drop 5) [63, 62] w.heap.size w' e w'') := Lib.hid fun w' hr hm => upto_any (t.drop 5) [63, 62] _ w' hr hm (by rw [List.length_drop]; omega)
  have HR0 : Hid (Rst (w.alloc (.cells #[.string (s.extract 0 (min (s.size : Int) 200).toNat)] 123)) w.heap.size t) := Lib.hid (by rw [heM]; exact Blk.new _ _ _)
  clear heM
  unfold UpR at HU
  by_cases h1 : frontX.isPrefixOf t = true
  · have HT : Hid (∀ w', Rst w' w.heap.size t → Calls Tryz.prog 82 #[.pointer (some ⟨w.heap.size, 0, none⟩), .string ⟨#[60, 63, 120, 109, 108]⟩] w' fun e w'' => e = .returned (.bool true) ∧ Rst w'' w.heap.size (t.drop 5) ∧ Fr w'.heap.size w.heap.size w' w'') := Lib.hid (take_yes (p := frontX) h1)
    rw [if_pos h1] at hi
    have HMM : Hid (∀ {w'}, Fr (w.alloc (.cells #[.string (s.extract 0 (min (s.size : Int) 200).toNat)] 123)).heap.size w.heap.size (w.alloc (.cells #[.string (s.extract 0 (min (s.size : Int) 200).toNat)] 123)) w' → Mx w') := Lib.hid fun hf => (HM.out.alloc _).fr hf (by have := hpos; simp only [World.size_alloc]; omega) hpos
    cases hv : sp (t.drop 5) [63, 62] with
    | none =>
      rw [hv] at HU hi
      have HI : Hid (i = []) := Lib.hid hi
      clear hi hv h1
      go_enter Tryz.func153, Tryz.ntmps153
      go_wp2_with (first
        | (go_at_call 82; refine (HT.out _ HR0.out).mono ?_; rintro _ w1 ⟨rfl, hr1, hf1⟩; clear HT)
        | (go_at_call 175; refine (HU.out _ hr1 (HMM.out hf1)).mono ?_; rintro _ w2 ⟨rfl, hf2⟩; clear HU))
      go_ret
      exact wi_ret HI.out (fr_own (fr_call hf1 hf2))
    | some q =>
      obtain ⟨x, y⟩ := q
      rw [hv] at HU hi
      have HI : Hid (i = x) := Lib.hid hi
      clear hi hv h1
      go_enter Tryz.func153, Tryz.ntmps153
      go_wp2_with (first
        | (go_at_call 82; refine (HT.out _ HR0.out).mono ?_; rintro _ w1 ⟨rfl, hr1, hf1⟩; clear HT)
        | (go_at_call 175; refine (HU.out _ hr1 (HMM.out hf1)).mono ?_; rintro _ w2 ⟨rfl, hr2, hf2⟩; clear HU))
      go_ret
      exact wi_ret HI.out (fr_own (fr_call hf1 hf2))
  · have h1 : frontX.isPrefixOf t = false := (Bool.not_eq_true _).mp h1
    have HT : Hid (∀ w', Rst w' w.heap.size t → Calls Tryz.prog 82 #[.pointer (some ⟨w.heap.size, 0, none⟩), .string ⟨#[60, 63, 120, 109, 108]⟩] w' fun e w'' => e = .returned (.bool false) ∧ Rst w'' w.heap.size t ∧ Fr w'.heap.size w.heap.size w' w'') := Lib.hid (take_no (p := frontX) h1)
    have HI : Hid (i = []) := Lib.hid (by rw [hi, h1]; rfl)
    clear hi h1
    go_enter Tryz.func153, Tryz.ntmps153
    go_wp2_with (first
      | (go_at_call 82; refine (HT.out _ HR0.out).mono ?_; rintro _ w1 ⟨rfl, hr1, hf1⟩; clear HT))
    go_ret
    exact wi_ret HI.out (fr_own hf1)
end Go.Proofs.YtppabkllconkjaaGreatDoor.Dec
/- A range over an iterator that keeps what it has not read yet in a box of its own, which it turns between the rounds: the law for its caller; nothing of the program. -/
namespace Go.Proofs.YtppabkllconkjaaGreatDoor.Dec
open Go.RowKit
set_option linter.unusedVariables false
set_option linter.unusedSimpArgs false
set_option maxRecDepth 100000
open Lab (RetS ret_str str str_size str_list str_eta str_inj u8v info5 info_parts)
open Go.Shelf
/-- Block r is a row of cells of type T. -/
def IsT (T : TypeId) (w : World) (r : Nat) : Prop := ∃ xs, Blk w r xs T
/-- J abides new blocks, and the turn of one block of cells of type T that lies from B on. -/
def Abd {β : Type} (T : TypeId) (B : Nat) (J : β → World → Prop) : Prop :=
  ∀ s w w' row, J s w → w.grownBy w' row → (∀ r, row = some r → B ≤ r ∧ IsT T w r) → J s w'
/-- The same, and the turn of one block from B on that is no cells (the loop's own record). -/
def Ind {β : Type} (T : TypeId) (B : Nat) (I : β → World → Prop) : Prop :=
  ∀ s w w' row, I s w → w.grownBy w' row → (∀ r, row = some r → B ≤ r ∧ (IsT T w r ∨ ∃ o : Obj, w.heap[r]? = some o ∧ o.isCells = false)) → I s w'
/-- What a round that goes on keeps: all below n, and each block of cells of type T. -/
structure Kq (T : TypeId) (n : Nat) (w w' : World) : Prop where
  bel : Below n w w'
  box : ∀ r xs, Blk w r xs T → Blk w' r xs T
theorem Kq.refl (T : TypeId) (n : Nat) (w : World) : Kq T n w w := ⟨Below.refl _ _, fun _ _ h => h⟩
theorem Kq.trans {T : TypeId} {n : Nat} {a b c : World} (h : Kq T n a b) (k : Kq T n b c) : Kq T n a c := ⟨h.bel.trans k.bel, fun r xs hr => k.box r xs (h.box r xs hr)⟩
theorem Kq.put {T : TypeId} {n l : Nat} {w : World} {o : Obj} (o' : Obj) (hn : n ≤ l) (h : w.heap[l]? = some o) (hc : o.isCells = false) : Kq T n w (w.putObj l o') :=
  ⟨⟨rfl, rfl, rfl, by simp, fun k hk => World.putObj_heap_other (by omega)⟩, fun r xs hr => by
    have hne : r ≠ l := fun e => by
      subst e
      rw [show w.heap[r]? = _ from hr] at h
      cases h; cases hc
    exact (World.putObj_heap_other hne).trans hr⟩
/-- An iterator that holds its place in a box of type T: what it owes its caller. -/
def SeqBox {α : Type} (n : Nat) (P : Program) (g : Nat) (lb : Array Value) (encs : α → Array Value) (T : TypeId) (n₀ : Nat) (S Sp : List α → Prop) (N : Nat) (w : World) : Prop :=
  ∀ (l : Nat) (J Jx : List α → World → Prop) (W : World), Below w.heap.size w W → Abd T W.heap.size J → Abd T W.heap.size Jx →
    (∀ pre x W1, J pre W1 → pre.length < N → YieldAt Fence.wide (n - 1) P l (encs x) W1 fun e W' =>
      (e = .returned (.bool true) ∧ J (pre ++ [x]) W' ∧ Kq T n₀ W1 W') ∨ (e = .returned (.bool false) ∧ Jx (pre ++ [x]) W')) →
    J [] W →
    CallsIn Fence.wide n P g (#[.func (.yield l) #[] #[]] ++ lb) W fun e W' => (∃ v, e = .returned v) ∧ ((∃ xs, S xs ∧ J xs W') ∨ (∃ pre, Sp pre ∧ Jx pre W'))
/-- How a round's body may be left: off its end, or by a return. -/
def outB {α : Type} (T : TypeId) (n₀ B : Nat) (I Ix : List α → World → Prop) (xs : List α) (W : World) : Exit → Act → World → Prop
  | .normal, _, W' => KeepsFrom B W W' ∧ Kq T n₀ W W' ∧ I xs W'
  | .ret, _, W' => KeepsFrom B W W' ∧ Ix xs W'
  | _, _, _ => False
/-- The loop's record r lies at s + 1, the block for deferred calls at s, empty. -/
def Led (s : Nat) (r : Loop) (W : World) : Prop := W.heap[s + 1]? = some (.loop r) ∧ W.heap[s]? = some (.deferred (some []))
theorem led_step {s B : Nat} {T : TypeId} {r : Loop} {w w' : World} {row : Option Nat} (h : Led s r w) (hg : w.grownBy w' row) (hr : ∀ q, row = some q → B ≤ q ∧ IsT T w q) : Led s r w' := by
  have hne : ∀ (k : Nat) (o : Obj), w.heap[k]? = some o → o.isCells = false → w'.heap[k]? = some o := fun k o hk hc => by
    refine (hg.block k (Array.getElem?_eq_some_iff.1 hk).1 (fun e => ?_)).trans hk
    obtain ⟨_, xs, hx⟩ := hr k e.symm
    rw [show w.heap[k]? = _ from hx] at hk
    cases hk; cases hc
  exact ⟨hne _ _ h.1 rfl, hne _ _ h.2 rfl⟩
theorem led_put {s : Nat} {r r' : Loop} {W : World} (h : Led s r W) : Led s r' (W.putObj (s + 1) (.loop r')) :=
  ⟨World.putObj_heap_same (Array.getElem?_eq_some_iff.1 h.1).1, (World.putObj_heap_other (by omega)).trans h.2⟩
theorem led_keep {s : Nat} {r : Loop} {W W' : World} (h : Led s r W) (hk : KeepsFrom s W W') : Led s r W' := ⟨hk.same _ _ (by omega) h.1 rfl, hk.same _ _ (Nat.le_refl _) h.2 rfl⟩
theorem Ind.put {α : Type} {T : TypeId} {s : Nat} {I : List α → World → Prop} (hI : Ind T s I) {r r' : Loop} {pre : List α} {W : World} (h : Led s r W) (hi : I pre W) : I pre (W.putObj (s + 1) (.loop r')) :=
  hI pre W _ (some (s + 1)) hi (grownBy_putObj' W _ _) fun q e => by cases e; exact ⟨by omega, .inr ⟨_, h.1, rfl⟩⟩
theorem Ind.abd {α : Type} {T : TypeId} {s B : Nat} {I : List α → World → Prop} (hI : Ind T s I) (hB : s ≤ B) : Abd T B I := fun p w w' row hi hg hr => hI p w w' row hi hg fun q e => ⟨Nat.le_trans hB (hr q e).1, .inl (hr q e).2⟩
/-- The law. -/
theorem range_box {α : Type} {g : Operand} {ps : Array Tmp} {assign body : Code} {Q : Exit → Act → World → Prop} {a : Act} {w : World} {n : Nat} {P : Program} (h1 : 1 ≤ n)
    {gf : Nat} {lb : Array Value} (hg : a.eval g = .func (.func gf) #[] lb) (eg : ∀ args w, (callFunc gf args).run P w = .ok (.enter gf args) w)
    {encs : α → Array Value} {T : TypeId} {n₀ : Nat} {S Sp : List α → Prop} {N : Nat} (hseq : SeqBox (n - 1) P gf lb encs T n₀ S Sp N w) (hn0 : n₀ ≤ w.heap.size) (hps : ∀ x, (encs x).size = ps.size)
    (I Ix : List α → World → Prop) (hI : Ind T w.heap.size I) (hIx : Ind T w.heap.size Ix) (h0 : I [] w) (a₁ : α → Act)
    (hassign : ∀ (l : Nat) (x : α) (W : World) (K : Act → World → Prop), K (a₁ x) W →
      assign.wpIn (Fence.wide.inRound l) (n - 1 - 1) P (Exit.then K (fun _ _ _ => False)) { tmps := (ps.zip (encs x)).foldl (fun t (p, v) => t.setIfInBounds p v) a.tmps, defers := [] } W)
    (hbody : ∀ (l : Nat) (pre : List α) (x : α) (W : World), I pre W → pre.length < N → body.wpIn (Fence.wide.inRound l) (n - 1 - 1) P (outB T n₀ w.heap.size I Ix (pre ++ [x]) W) (a₁ x) W)
    (hdone : ∀ (D : Nat) (xs : List α) (W : World), w.heap.size ≤ D → S xs → I xs W → W.heap[D]? = some (.deferred (some [])) → Q .normal { a with defers := { target := .collected D, args := #[] } :: a.defers } W)
    (hstop : ∀ (D : Nat) (pre : List α) (W : World), w.heap.size ≤ D → Sp pre → Ix pre W → W.heap[D]? = some (.deferred (some [])) → Code.ret.wpIn Fence.wide n P Q { a with defers := { target := .collected D, args := #[] } :: a.defers } W) :
    (Code.rangeFunc g ps assign body).wpIn Fence.wide n P Q a w := by
  refine wpIn_rangeFunc fun fn hfn => ?_
  let rc : LoopState → Option Code → Loop := fun st pe => { state := st, pending := pe, fn, tmps := a.tmps, params := ps, assign, body, defers := w.heap.size }
  let W0 := (w.alloc (.deferred (some []))).alloc (.loop (rc .ready none))
  have hsz : W0.heap.size = w.heap.size + 2 := by simp [W0]
  have led0 : Led w.heap.size (rc .ready none) W0 := by
    refine ⟨?_, (Below.heap_alloc _ _ _ (by simp)).trans (World.alloc_heap_new w _)⟩
    have := World.alloc_heap_new (w.alloc (.deferred (some []))) (.loop (rc .ready none))
    rwa [World.size_alloc] at this
  have i0 : I [] W0 := hI _ _ _ none (hI _ _ _ none h0 (World.grownBy_alloc w _ none) (fun _ e => by cases e)) (World.grownBy_alloc _ _ none) (fun _ e => by cases e)
  have b0 : Below w.heap.size w W0 := ((Below.refl _ w).alloc (Nat.le_refl _) _).alloc (by simp) _
  refine ⟨w.heap.size + 1, [{ target := .collected w.heap.size, args := #[] }], W0, { target := .fn (.func gf) lb, args := #[.func (.yield (w.heap.size + 1)) #[] #[]] }, W0, gf,
    #[.func (.yield (w.heap.size + 1)) #[] #[]] ++ lb, W0, run_enterLoop_outer _ _ _ _ _, by simp only [resolve, hg]; simp [go_sem], fun _ _ => trivial, by simp [invoke, go_sem, eg], fun _ => h1, ?_⟩
  refine (hseq (w.heap.size + 1) (fun pre W => I pre W ∧ Led w.heap.size (rc .ready none) W) (fun pre W => Ix pre W ∧ Led w.heap.size (rc .done (some .ret)) W) W0 b0
    (fun p A B row hp hgr hr => ⟨hI.abd (by omega) p A B row hp.1 hgr hr, led_step hp.2 hgr hr⟩) (fun p A B row hp hgr hr => ⟨hIx.abd (by omega) p A B row hp.1 hgr hr, led_step hp.2 hgr hr⟩) ?_ ⟨i0, led0⟩).mono ?_
  · rintro pre x W ⟨hi, hled⟩ hlen
    refine ⟨fn, _, assign, body, run_yield hled.1 (hps x), roundIn_of_wpIn hfn (hassign _ x W _ ⟨_, run_beginRound hled.1 rfl, ?_⟩)⟩
    have hled1 : Led w.heap.size (rc .busy none) (W.putObj (w.heap.size + 1) (.loop (rc .busy none))) := led_put hled
    have kq1 : Kq T n₀ W (W.putObj (w.heap.size + 1) (.loop (rc .busy none))) := Kq.put _ (by omega) hled.1 rfl
    refine wpIn_mono (hbody _ pre x _ (hI.put hled hi) hlen) ?_
    rintro e a3 W3 hp
    cases e with
    | normal =>
      obtain ⟨hk, hq, hi3⟩ := hp
      have hled3 := led_keep hled1 hk
      exact ⟨_, _, run_endRound none hled3.1, .inl ⟨rfl, ⟨hI.put hled3 hi3, led_put hled3⟩, (kq1.trans hq).trans (Kq.put _ (by omega) hled3.1 rfl)⟩⟩
    | ret =>
      obtain ⟨hk, hi3⟩ := hp
      have hled3 := led_keep hled1 hk
      exact ⟨_, _, run_endRound (some .ret) hled3.1, .inr ⟨rfl, hIx.put hled3 hi3, led_put hled3⟩⟩
    | exit id => exact hp.elim
    | goto t => exact hp.elim
    | panic ch => exact hp.elim
    | outgrown => exact hp.elim
  · rintro e W2 ⟨⟨v, rfl⟩, ⟨xs, hS, hi, hled⟩ | ⟨pre, hSp, hi, hled⟩⟩
    · exact ⟨none, _, run_endLoop hled.1 (by intro h; cases h), hdone _ xs _ (Nat.le_refl _) hS (hI.put hled hi) (led_put (r' := rc .exhausted none) hled).2⟩
    · exact ⟨some .ret, _, run_endLoop hled.1 (by intro h; cases h), hstop _ pre _ (Nat.le_refl _) hSp (hIx.put hled hi) (led_put (r' := rc .exhausted (some .ret)) hled).2⟩
/-! What a caller's invariant may say. -/
theorem Ind.and {β : Type} {T : TypeId} {B : Nat} {I I' : β → World → Prop} (h : Ind T B I) (h' : Ind T B I') : Ind T B (fun s w => I s w ∧ I' s w) := fun s w w' row hi hg hr => ⟨h s w w' row hi.1 hg hr, h' s w w' row hi.2 hg hr⟩
theorem ind_pure {β : Type} (T : TypeId) (B : Nat) (p : β → Prop) : Ind T B (fun s (_ : World) => p s) := fun _ _ _ _ h _ _ => h
theorem ind_below {β : Type} (T : TypeId) {n B : Nat} {w : World} (hn : n ≤ B) (hw : n ≤ w.heap.size) : Ind T B (fun (_ : β) W => Below n w W) := fun _ A C _ h hg hr =>
  h.trans ⟨hg.os, hg.tape, hg.output, hg.size, fun k hk => hg.block k (by have := h.size; omega) (fun e => by have := (hr k e.symm).1; omega)⟩
end Go.Proofs.YtppabkllconkjaaGreatDoor.Dec
/- The iterator of parts: its contract. -/
namespace Go.Proofs.YtppabkllconkjaaGreatDoor.Dec
open Go.RowKit
set_option linter.unusedVariables false
set_option linter.unusedSimpArgs false
set_option maxRecDepth 100000
open Lab (RetS ret_str str str_size str_list str_eta str_inj u8v info5 info_parts)
open Go.Shelf
attribute [local go_sem] Oper.semAt_some
theorem no_fn : ∀ f : FuncId, (none : Option FuncId) = some f → Fence.wide.fn f := fun _ _ => trivial
def encP (p : Prt) : Array Value := #[.string (str p.1), .string (str p.2)]
/-- How much the box still holds. -/
def restLen (w : World) (B : Nat) : Nat := match w.cell? ⟨B, 0, none⟩ with
  | some (.string s) => s.size
  | _ => 0
theorem rest_len {w : World} {B : Nat} {l : List UInt8} (h : Rst w B l) : restLen w B = l.length := by
  unfold restLen
  rw [h.cell]
  exact str_size l
theorem abd_fr {β : Type} {n B : Nat} {J : β → World → Prop} (hJ : Abd 123 n J) {s : β} {w w' : World} {l : List UInt8} (h : J s w) (hr : Rst w B l) (hB : n ≤ B) (hf : Fr w.heap.size B w w') : J s w' :=
  hJ s w w' (some B) h ⟨hf.os, hf.tape, hf.output, hf.size, fun k hk hne => hf.block k hk (fun e => hne (by rw [e]))⟩ (fun r e => by cases e; exact ⟨hB, _, hr⟩)
theorem abd_below {β : Type} {n : Nat} {J : β → World → Prop} (hJ : Abd 123 n J) {s : β} {w w' : World} (h : J s w) (hb : Below w.heap.size w w') : J s w' :=
  hJ s w w' none h ⟨hb.os, hb.tape, hb.output, hb.size, fun k hk _ => hb.block k hk⟩ (fun r e => by cases e)
set_option maxRecDepth 100000 in
set_option maxHeartbeats 4000000 in
theorem parts1_in (n : Nat) (hn : 1 ≤ n) (lp Bs n₀ : Nat) (b : List UInt8) (hs : b.length ≤ maxLen) (hn0 : 6 < n₀) (J Jx : List Prt → World → Prop) (W : World) (hJ : Abd 123 W.heap.size J)
    (hY : ∀ pre x W, J pre W → pre.length < 201 → YieldAt Fence.wide (n - 1) Tryz.prog lp (encP x) W fun e W' =>
      (e = .returned (.bool true) ∧ J (pre ++ [x]) W' ∧ Kq 123 n₀ W W') ∨ (e = .returned (.bool false) ∧ Jx (pre ++ [x]) W'))
    (hm : Mx W) (hnW : n₀ ≤ W.heap.size) (hBs : W.cell? ⟨Bs, 0, none⟩ = some (.string (str b))) (h0 : J [] W) :
    CallsIn Fence.wide n Tryz.prog 152 #[.func (.yield lp) #[] #[], .pointer (some ⟨Bs, 0, none⟩)] W fun e W' => (∃ v, e = .returned v) ∧
      ((∃ ys : List Prt, ys = prts b ∧ J ys W') ∨ (∃ pre : List Prt, (∃ t, prts b = pre ++ t) ∧ Jx pre W')) := by
  have HW : Hid (∀ w, Mx w → Calls Tryz.prog 153 #[.string (str b)] w fun e w' => WiR (inn b) w e w') := Lib.hid fun w h => within_any b w h hs
  have hil := inn_len b
  have hpl := prts_len b
  have HP0 : Hid (prts b = [] ++ pts (inn b)) := Lib.hid (prts_inn b)
  obtain ⟨P, hP⟩ : ∃ P, prts b = P := ⟨_, rfl⟩
  rw [hP] at HP0 hpl ⊢
  clear hP
  obtain ⟨l0, hl0⟩ : ∃ l, inn b = l := ⟨_, rfl⟩
  rw [hl0] at HW HP0 hil
  clear hl0
  unfold WiR at HW
  obtain ⟨s, hs'⟩ : ∃ s, str b = s := ⟨_, rfl⟩
  rw [hs'] at HW hBs
  clear hs' hs
  obtain ⟨S0, hS0⟩ : ∃ S, str l0 = S := ⟨_, rfl⟩
  have HS0 := Lib.hid hS0
  rw [hS0] at HW
  clear hS0
  have HYY := Lib.hid hY
  have HJ := Lib.hid hJ
  have HM := Lib.hid hm
  have H0 := Lib.hid h0
  clear hY hJ hm h0
  refine callsIn_of_wp Tryz.func152 rfl trivial ?_ rfl
  simp only [Tryz.ntmps152, List.size_toArray, List.length_cons, List.length_nil, Nat.reduceAdd, Nat.reduceSub, Array.replicate_succ, Array.replicate_zero, List.push_toArray, List.append_toArray, List.nil_append, List.cons_append]
  gi_wp2_with (refine ⟨trivial, ?_⟩; gi_at_call 153; refine (callsIn_wide.2 (HW.out _ HM.out)).mono ?_; rintro _ w1 ⟨rfl, hb1⟩; clear HW)
  have hB1 : W.heap.size ≤ w1.heap.size := hb1.size
  have HR1 : Hid (Rst (w1.alloc (.cells #[.string S0] 123)) w1.heap.size l0) := Lib.hid (by rw [← HS0.out]; exact Blk.new _ _ _)
  have HJ1 : Hid (J [] (w1.alloc (.cells #[.string S0] 123))) := Lib.hid (abd_below HJ.out (abd_below HJ.out H0.out hb1) ((Below.refl _ _).alloc (Nat.le_refl _) _))
  have HM1 : Hid (Mx (w1.alloc (.cells #[.string S0] 123))) := Lib.hid ((HM.out.next hb1).alloc _)
  obtain ⟨B, hB⟩ : ∃ B, w1.heap.size = B := ⟨_, rfl⟩
  obtain ⟨w2, hw2⟩ : ∃ w2, w1.alloc (.cells #[.string S0] 123) = w2 := ⟨_, rfl⟩
  rw [hw2] at HR1 HJ1 HM1 ⊢
  rw [hB] at HR1 hB1 ⊢
  clear hB hw2 hb1 H0
  gi_loopw [4] (fun q4 wr => ∃ (r : List UInt8) (pre : List Prt), Hid (Rst wr B r) ∧ Hid (J pre wr) ∧ Hid (Mx wr) ∧ Hid (P = pre ++ pts r) ∧ r.length ≤ 200) (fun _ wr => restLen wr B)
  case atStart => exact ⟨l0, [], HR1, HJ1, HM1, HP0, hil⟩
  case round =>
    obtain ⟨r, pre, HR, HJr, HMr, HP, hr7⟩ := hrel
    have HC : Hid (Calls Tryz.prog 154 #[.pointer (some ⟨B, 0, none⟩)] wr fun e w' => PaR (prt r) B wr e w') := Lib.hid (part1_any r B wr HR.out HMr.out (by omega) (by omega))
    have hlen : pre.length < 201 := by
      have := congrArg List.length HP.out
      rw [List.length_append] at this
      omega
    unfold PaR at HC
    cases hv : prt r with
    | none =>
      rw [hv] at HC
      have HE : Hid (P = pre) := Lib.hid (by rw [HP.out, pts_none hv, List.append_nil])
      clear hv
      gi_wp2_with (first
        | (refine ⟨trivial, ?_⟩; gi_at_call 154; refine (callsIn_wide.2 HC.out).mono ?_; rintro _ w3 ⟨rfl, hf3⟩; clear HC)
        | (refine ⟨no_fn, ?_⟩))
      refine bodyPost_ret (results_none rfl _ _ _) rfl ?_
      exact ⟨⟨_, rfl⟩, .inl ⟨_, HE.out.symm, abd_fr HJ.out HJr.out HR.out hB1 hf3⟩⟩
    | some q =>
      obtain ⟨⟨x, v⟩, y⟩ := q
      have hly := prt_len hv
      have HE : Hid (P = (pre ++ [(x, v)]) ++ pts y) := Lib.hid (by rw [HP.out, pts_some hv, List.append_assoc]; rfl)
      rw [hv] at HC
      dsimp only at hly
      have HL := Lib.hid hly
      replace HC : Hid (Calls Tryz.prog 154 #[.pointer (some ⟨B, 0, none⟩)] wr fun e w' => e = .returned (.tuple #[.string (str x), .string (str v), .bool true]) ∧ Rst w' B y ∧ Fr wr.heap.size B wr w') := HC
      clear hv hly
      gi_wp2_with (refine ⟨trivial, ?_⟩; gi_at_call 154; refine (callsIn_wide.2 HC.out).mono ?_; rintro _ w3 ⟨rfl, hr3, hf3⟩; clear HC; have HF3 := Lib.hid hf3; have HR3 := Lib.hid hr3; obtain ⟨fn, tmps, assign, body, hy, hR⟩ := HYY.out _ (x, v) _ (abd_fr HJ.out HJr.out HR.out hB1 hf3) hlen; dsimp only [encP] at hy; clear hf3 hr3)
      refine hR.mono ?_
      rintro e W4 (⟨rfl, hJ4, hk4⟩ | ⟨rfl, hJx4⟩)
      · have HJ4 := Lib.hid hJ4
        have HR4 : Hid (Rst W4 B y) := Lib.hid (hk4.box _ _ HR3.out)
        have HM4 : Hid (Mx W4) := Lib.hid ((HMr.out.fr HF3.out HMr.out.pos (by omega)).below hk4.bel hn0)
        clear hJ4 hk4
        gi_wp2
        go_roundw
        case rel => exact ⟨y, _, HR4, HJ4, HM4, HE, by have := HL.out; omega⟩
        case measure => rw [rest_len HR4.out, rest_len HR.out]; exact HL.out
      · gi_wp2
        refine bodyPost_ret (results_none rfl _ _ _) rfl ?_
        exact ⟨⟨_, rfl⟩, .inr ⟨_, ⟨_, HE.out⟩, hJx4⟩⟩
set_option maxHeartbeats 1000000 in
theorem parts_in (n : Nat) (s : ByteArray) (w : World) :
    CallsIn Fence.wide n Tryz.prog 122 #[.string s] w fun e w' => e = .returned (.func (.func 152) #[] #[.pointer (some ⟨w.heap.size, 0, none⟩)]) ∧ w' = w.alloc (.cells #[.string s] 9) := by
  refine callsIn_of_wp Tryz.func122 rfl trivial ?_ rfl
  simp only [Tryz.ntmps122, List.size_toArray, List.length_cons, List.length_nil, Nat.reduceAdd, Nat.reduceSub, Array.replicate_succ, Array.replicate_zero, List.push_toArray, List.append_toArray, List.nil_append, List.cons_append]
  gi_wp2
  go_ret
  exact ⟨rfl, rfl⟩
theorem parts_seq (n : Nat) (hn : 1 ≤ n) (Bs n₀ : Nat) (b : List UInt8) (hs : b.length ≤ maxLen) (hn0 : 6 < n₀) (w : World) (hm : Mx w) (hBs : Bs < w.heap.size) (hnw : n₀ ≤ w.heap.size) (hc : w.cell? ⟨Bs, 0, none⟩ = some (.string (str b))) :
    SeqBox n Tryz.prog 152 #[.pointer (some ⟨Bs, 0, none⟩)] encP 123 n₀ (fun ys => ys = prts b) (fun pre => ∃ t, prts b = pre ++ t) 201 w := fun l J Jx W hW hJ _ hY h0 =>
  parts1_in n hn l Bs n₀ b hs hn0 J Jx W hJ hY (hm.next hW) (Nat.le_trans hnw hW.size) ((hW.cell (p := ⟨Bs, 0, none⟩) hBs).trans hc) h0
end Go.Proofs.YtppabkllconkjaaGreatDoor.Dec
/- The contracts of begins, Mark, Shape, Cut. -/
namespace Go.Proofs.YtppabkllconkjaaGreatDoor.Dec
open Go.RowKit
set_option linter.unusedVariables false
set_option linter.unusedSimpArgs false
set_option maxRecDepth 100000
open Lab (RetS ret_str str str_size str_list str_eta str_inj u8v info5 info_parts)
/-- A round of begins: what the call of take has left. -/
theorem front_step {w w' : World} {a v : Array Value} {T T' : TypeId} (h : Fr ((w.alloc (.cells a T)).alloc (.cells v T')).heap.size (w.heap.size + 1) ((w.alloc (.cells a T)).alloc (.cells v T')) w') : Below w.heap.size w w' ∧ Blk w' w.heap.size a T := by
  refine ⟨(((Below.refl _ w).alloc (Nat.le_refl _) _).alloc (by simp) _).trans (h.below (by simp; omega) (by omega)), ?_⟩
  unfold Blk
  rw [h.block w.heap.size (by simp; omega) (by omega)]
  exact Blk.alloc (Blk.new w a T) _
theorem rst_new (w : World) (a : Array Value) (T : TypeId) (l : List UInt8) : Rst ((w.alloc (.cells a T)).alloc (.cells #[.string (str l)] 123)) (w.heap.size + 1) l := Blk.new' _ _ _ (by simp)
def bgM (l : List UInt8) : Value := markV (mrk l)
def bgS (l : List UInt8) : Value := match shp l with
  | none => .tuple #[.int .i8 0, .int .i64 0, .bool false]
  | some e => .tuple #[.int .i8 (e : Int), .int .i64 4, .bool true]
def markC : Array Value := #[.int .i8 0, .string ⟨#[239, 187, 191]⟩, .int .i8 1, .string ⟨#[255, 254]⟩, .int .i8 2, .string ⟨#[254, 255]⟩]
set_option maxRecDepth 100000 in
set_option maxHeartbeats 4000000 in
theorem begins_mark (l : List UInt8) (Q : Nat) (w : World) (hq : Blk w Q markC 87) :
    Calls Tryz.prog 43 #[.string (str l), .slice (some ⟨Q, 0, none⟩) 3 3] w fun e w' => e = .returned (bgM l) ∧ Below w.heap.size w w' := by
  have HC : Hid (∀ {w'}, Below w.heap.size w w' → ∀ i, w'.cell? ⟨Q, i, none⟩ = markC[i]?) := Lib.hid fun hb i => Blk.cell (Blk.below hq hb) i
  have HV : Hid (∃ r, bgM l = r) := Lib.hid ⟨_, rfl⟩
  have c0 : w.cell? ⟨Q, 0, none⟩ = some (.int .i8 0) := HC.out (Below.refl _ _) 0
  have c1 : w.cell? ⟨Q, 1, none⟩ = some (.string ⟨#[239, 187, 191]⟩) := HC.out (Below.refl _ _) 1
  have c2 : w.cell? ⟨Q, 2, none⟩ = some (.int .i8 1) := HC.out (Below.refl _ _) 2
  have c3 : w.cell? ⟨Q, 3, none⟩ = some (.string ⟨#[255, 254]⟩) := HC.out (Below.refl _ _) 3
  have c4 : w.cell? ⟨Q, 4, none⟩ = some (.int .i8 2) := HC.out (Below.refl _ _) 4
  have c5 : w.cell? ⟨Q, 5, none⟩ = some (.string ⟨#[254, 255]⟩) := HC.out (Below.refl _ _) 5
  clear hq
  by_cases h0 : ([239, 187, 191] : List UInt8).isPrefixOf l = true
  · have HT0 : Hid (∀ B, ∀ w, Rst w B l → Calls Tryz.prog 82 #[.pointer (some ⟨B, 0, none⟩), .string ⟨#[239, 187, 191]⟩] w fun e w' => e = .returned (.bool true) ∧ Rst w' B (l.drop 3) ∧ Fr w.heap.size B w w') := Lib.hid fun B => take_yes (p := [239, 187, 191]) h0
    replace HV : Hid (bgM l = .tuple #[.int .i8 0, .int .i64 3, .bool true]) := Lib.hid (by simp [bgM, markV, mrk, h0])
    clear h0
    obtain ⟨s, hs'⟩ : ∃ s, str l = s := ⟨_, rfl⟩
    have HRN : Hid (∀ (w : World) (a : Array Value) (T : TypeId), Rst ((w.alloc (.cells a T)).alloc (.cells #[.string s] 123)) (w.heap.size + 1) l) := Lib.hid (by rw [← hs']; intro w a T; exact rst_new w a T l)
    rw [hs']
    clear hs'
    go_enter Tryz.func43, Tryz.ntmps43
    go_wp2_with fail
    refine wp_loop_rounds 1 ?_
    rw [rounds_succ]
    go_wp2_with (go_at_call 82; refine (HT0.out _ _ (HRN.out _ _ _)).mono ?_; rintro _ w1 ⟨rfl, -, hf1⟩; clear HT0; obtain ⟨hb1, hk1⟩ := front_step hf1; clear hf1; have a0 : w1.cell? ⟨w.heap.size, 0, none⟩ = some (.int .i8 0) := hk1.cell 0; have a1 : w1.cell? ⟨w.heap.size, 1, none⟩ = some (.string ⟨#[239, 187, 191]⟩) := hk1.cell 1)
    go_quiet (fail)
    go_wp2_with fail
    try rw [Exit.noGoto_ret]
    go_ret3
    exact ⟨by rw [HV.out]; rfl, below_draws hb1 _⟩
  have h0 : ([239, 187, 191] : List UInt8).isPrefixOf l = false := (Bool.not_eq_true _).mp h0
  have HT0 : Hid (∀ B, ∀ w, Rst w B l → Calls Tryz.prog 82 #[.pointer (some ⟨B, 0, none⟩), .string ⟨#[239, 187, 191]⟩] w fun e w' => e = .returned (.bool false) ∧ Rst w' B (l) ∧ Fr w.heap.size B w w') := Lib.hid fun B => take_no (p := [239, 187, 191]) h0
  by_cases h1 : ([255, 254] : List UInt8).isPrefixOf l = true
  · have HT1 : Hid (∀ B, ∀ w, Rst w B l → Calls Tryz.prog 82 #[.pointer (some ⟨B, 0, none⟩), .string ⟨#[255, 254]⟩] w fun e w' => e = .returned (.bool true) ∧ Rst w' B (l.drop 2) ∧ Fr w.heap.size B w w') := Lib.hid fun B => take_yes (p := [255, 254]) h1
    replace HV : Hid (bgM l = .tuple #[.int .i8 1, .int .i64 2, .bool true]) := Lib.hid (by simp [bgM, markV, mrk, h0, h1])
    clear h0 h1
    obtain ⟨s, hs'⟩ : ∃ s, str l = s := ⟨_, rfl⟩
    have HRN : Hid (∀ (w : World) (a : Array Value) (T : TypeId), Rst ((w.alloc (.cells a T)).alloc (.cells #[.string s] 123)) (w.heap.size + 1) l) := Lib.hid (by rw [← hs']; intro w a T; exact rst_new w a T l)
    rw [hs']
    clear hs'
    go_enter Tryz.func43, Tryz.ntmps43
    go_wp2_with fail
    refine wp_loop_rounds 2 ?_
    rw [rounds_succ]
    go_wp2_with (go_at_call 82; refine (HT0.out _ _ (HRN.out _ _ _)).mono ?_; rintro _ w1 ⟨rfl, -, hf1⟩; clear HT0; obtain ⟨hb1, hk1⟩ := front_step hf1; clear hf1; have HB1 := Lib.hid (hb1); clear hk1; have g2 : w1.cell? ⟨Q, 2, none⟩ = some (.int .i8 1) := HC.out HB1.out 2; have g3 : w1.cell? ⟨Q, 3, none⟩ = some (.string ⟨#[255, 254]⟩) := HC.out HB1.out 3)
    rw [rounds_succ]
    go_wp2_with (go_at_call 82; refine (HT1.out _ _ (HRN.out _ _ _)).mono ?_; rintro _ w2 ⟨rfl, -, hf2⟩; clear HT1; obtain ⟨hb2, hk2⟩ := front_step hf2; clear hf2; have a0 : w2.cell? ⟨w1.heap.size, 0, none⟩ = some (.int .i8 1) := hk2.cell 0; have a1 : w2.cell? ⟨w1.heap.size, 1, none⟩ = some (.string ⟨#[255, 254]⟩) := hk2.cell 1)
    go_quiet (fail)
    go_wp2_with fail
    try rw [Exit.noGoto_ret]
    go_ret3
    exact ⟨by rw [HV.out]; rfl, below_draws (below_call HB1.out hb2) _⟩
  have h1 : ([255, 254] : List UInt8).isPrefixOf l = false := (Bool.not_eq_true _).mp h1
  have HT1 : Hid (∀ B, ∀ w, Rst w B l → Calls Tryz.prog 82 #[.pointer (some ⟨B, 0, none⟩), .string ⟨#[255, 254]⟩] w fun e w' => e = .returned (.bool false) ∧ Rst w' B (l) ∧ Fr w.heap.size B w w') := Lib.hid fun B => take_no (p := [255, 254]) h1
  by_cases h2 : ([254, 255] : List UInt8).isPrefixOf l = true
  · have HT2 : Hid (∀ B, ∀ w, Rst w B l → Calls Tryz.prog 82 #[.pointer (some ⟨B, 0, none⟩), .string ⟨#[254, 255]⟩] w fun e w' => e = .returned (.bool true) ∧ Rst w' B (l.drop 2) ∧ Fr w.heap.size B w w') := Lib.hid fun B => take_yes (p := [254, 255]) h2
    replace HV : Hid (bgM l = .tuple #[.int .i8 2, .int .i64 2, .bool true]) := Lib.hid (by simp [bgM, markV, mrk, h0, h1, h2])
    clear h0 h1 h2
    obtain ⟨s, hs'⟩ : ∃ s, str l = s := ⟨_, rfl⟩
    have HRN : Hid (∀ (w : World) (a : Array Value) (T : TypeId), Rst ((w.alloc (.cells a T)).alloc (.cells #[.string s] 123)) (w.heap.size + 1) l) := Lib.hid (by rw [← hs']; intro w a T; exact rst_new w a T l)
    rw [hs']
    clear hs'
    go_enter Tryz.func43, Tryz.ntmps43
    go_wp2_with fail
    refine wp_loop_rounds 3 ?_
    rw [rounds_succ]
    go_wp2_with (go_at_call 82; refine (HT0.out _ _ (HRN.out _ _ _)).mono ?_; rintro _ w1 ⟨rfl, -, hf1⟩; clear HT0; obtain ⟨hb1, hk1⟩ := front_step hf1; clear hf1; have HB1 := Lib.hid (hb1); clear hk1; have g2 : w1.cell? ⟨Q, 2, none⟩ = some (.int .i8 1) := HC.out HB1.out 2; have g3 : w1.cell? ⟨Q, 3, none⟩ = some (.string ⟨#[255, 254]⟩) := HC.out HB1.out 3)
    rw [rounds_succ]
    go_wp2_with (go_at_call 82; refine (HT1.out _ _ (HRN.out _ _ _)).mono ?_; rintro _ w2 ⟨rfl, -, hf2⟩; clear HT1; obtain ⟨hb2, hk2⟩ := front_step hf2; clear hf2; have HB2 := Lib.hid (below_call HB1.out hb2); clear hk2; have g4 : w2.cell? ⟨Q, 4, none⟩ = some (.int .i8 2) := HC.out HB2.out 4; have g5 : w2.cell? ⟨Q, 5, none⟩ = some (.string ⟨#[254, 255]⟩) := HC.out HB2.out 5)
    rw [rounds_succ]
    go_wp2_with (go_at_call 82; refine (HT2.out _ _ (HRN.out _ _ _)).mono ?_; rintro _ w3 ⟨rfl, -, hf3⟩; clear HT2; obtain ⟨hb3, hk3⟩ := front_step hf3; clear hf3; have a0 : w3.cell? ⟨w2.heap.size, 0, none⟩ = some (.int .i8 2) := hk3.cell 0; have a1 : w3.cell? ⟨w2.heap.size, 1, none⟩ = some (.string ⟨#[254, 255]⟩) := hk3.cell 1)
    go_quiet (fail)
    go_wp2_with fail
    try rw [Exit.noGoto_ret]
    go_ret3
    exact ⟨by rw [HV.out]; rfl, below_draws (below_call HB2.out hb3) _⟩
  have h2 : ([254, 255] : List UInt8).isPrefixOf l = false := (Bool.not_eq_true _).mp h2
  have HT2 : Hid (∀ B, ∀ w, Rst w B l → Calls Tryz.prog 82 #[.pointer (some ⟨B, 0, none⟩), .string ⟨#[254, 255]⟩] w fun e w' => e = .returned (.bool false) ∧ Rst w' B (l) ∧ Fr w.heap.size B w w') := Lib.hid fun B => take_no (p := [254, 255]) h2
  replace HV : Hid (bgM l = .tuple #[.int .i8 0, .int .i64 0, .bool false]) := Lib.hid (by simp [bgM, markV, mrk, h0, h1, h2])
  clear h0 h1 h2
  obtain ⟨s, hs'⟩ : ∃ s, str l = s := ⟨_, rfl⟩
  have HRN : Hid (∀ (w : World) (a : Array Value) (T : TypeId), Rst ((w.alloc (.cells a T)).alloc (.cells #[.string s] 123)) (w.heap.size + 1) l) := Lib.hid (by rw [← hs']; intro w a T; exact rst_new w a T l)
  rw [hs']
  clear hs'
  go_enter Tryz.func43, Tryz.ntmps43
  go_wp2_with fail
  refine wp_loop_rounds 4 ?_
  rw [rounds_succ]
  go_wp2_with (go_at_call 82; refine (HT0.out _ _ (HRN.out _ _ _)).mono ?_; rintro _ w1 ⟨rfl, -, hf1⟩; clear HT0; obtain ⟨hb1, hk1⟩ := front_step hf1; clear hf1; have HB1 := Lib.hid (hb1); clear hk1; have g2 : w1.cell? ⟨Q, 2, none⟩ = some (.int .i8 1) := HC.out HB1.out 2; have g3 : w1.cell? ⟨Q, 3, none⟩ = some (.string ⟨#[255, 254]⟩) := HC.out HB1.out 3)
  rw [rounds_succ]
  go_wp2_with (go_at_call 82; refine (HT1.out _ _ (HRN.out _ _ _)).mono ?_; rintro _ w2 ⟨rfl, -, hf2⟩; clear HT1; obtain ⟨hb2, hk2⟩ := front_step hf2; clear hf2; have HB2 := Lib.hid (below_call HB1.out hb2); clear hk2; have g4 : w2.cell? ⟨Q, 4, none⟩ = some (.int .i8 2) := HC.out HB2.out 4; have g5 : w2.cell? ⟨Q, 5, none⟩ = some (.string ⟨#[254, 255]⟩) := HC.out HB2.out 5)
  rw [rounds_succ]
  go_wp2_with (go_at_call 82; refine (HT2.out _ _ (HRN.out _ _ _)).mono ?_; rintro _ w3 ⟨rfl, -, hf3⟩; clear HT2; obtain ⟨hb3, hk3⟩ := front_step hf3; clear hf3; have HB3 := Lib.hid (below_call HB2.out hb3); clear hk3)
  rw [rounds_succ]
  go_wp2_with fail
  go_ret3
  exact ⟨by rw [HV.out]; rfl, HB3.out⟩
def shapeC : Array Value := #[.int .i8 1, .string ⟨#[60, 0, 63, 0]⟩, .int .i8 2, .string ⟨#[0, 60, 0, 63]⟩]
set_option maxRecDepth 100000 in
set_option maxHeartbeats 4000000 in
theorem begins_shape (l : List UInt8) (Q : Nat) (w : World) (hq : Blk w Q shapeC 87) :
    Calls Tryz.prog 43 #[.string (str l), .slice (some ⟨Q, 0, none⟩) 2 2] w fun e w' => e = .returned (bgS l) ∧ Below w.heap.size w w' := by
  have HC : Hid (∀ {w'}, Below w.heap.size w w' → ∀ i, w'.cell? ⟨Q, i, none⟩ = shapeC[i]?) := Lib.hid fun hb i => Blk.cell (Blk.below hq hb) i
  have HV : Hid (∃ r, bgS l = r) := Lib.hid ⟨_, rfl⟩
  have c0 : w.cell? ⟨Q, 0, none⟩ = some (.int .i8 1) := HC.out (Below.refl _ _) 0
  have c1 : w.cell? ⟨Q, 1, none⟩ = some (.string ⟨#[60, 0, 63, 0]⟩) := HC.out (Below.refl _ _) 1
  have c2 : w.cell? ⟨Q, 2, none⟩ = some (.int .i8 2) := HC.out (Below.refl _ _) 2
  have c3 : w.cell? ⟨Q, 3, none⟩ = some (.string ⟨#[0, 60, 0, 63]⟩) := HC.out (Below.refl _ _) 3
  clear hq
  by_cases h0 : ([60, 0, 63, 0] : List UInt8).isPrefixOf l = true
  · have HT0 : Hid (∀ B, ∀ w, Rst w B l → Calls Tryz.prog 82 #[.pointer (some ⟨B, 0, none⟩), .string ⟨#[60, 0, 63, 0]⟩] w fun e w' => e = .returned (.bool true) ∧ Rst w' B (l.drop 4) ∧ Fr w.heap.size B w w') := Lib.hid fun B => take_yes (p := [60, 0, 63, 0]) h0
    replace HV : Hid (bgS l = .tuple #[.int .i8 1, .int .i64 4, .bool true]) := Lib.hid (by simp [bgS, shp, h0])
    clear h0
    obtain ⟨s, hs'⟩ : ∃ s, str l = s := ⟨_, rfl⟩
    have HRN : Hid (∀ (w : World) (a : Array Value) (T : TypeId), Rst ((w.alloc (.cells a T)).alloc (.cells #[.string s] 123)) (w.heap.size + 1) l) := Lib.hid (by rw [← hs']; intro w a T; exact rst_new w a T l)
    rw [hs']
    clear hs'
    go_enter Tryz.func43, Tryz.ntmps43
    go_wp2_with fail
    refine wp_loop_rounds 1 ?_
    rw [rounds_succ]
    go_wp2_with (go_at_call 82; refine (HT0.out _ _ (HRN.out _ _ _)).mono ?_; rintro _ w1 ⟨rfl, -, hf1⟩; clear HT0; obtain ⟨hb1, hk1⟩ := front_step hf1; clear hf1; have a0 : w1.cell? ⟨w.heap.size, 0, none⟩ = some (.int .i8 1) := hk1.cell 0; have a1 : w1.cell? ⟨w.heap.size, 1, none⟩ = some (.string ⟨#[60, 0, 63, 0]⟩) := hk1.cell 1)
    go_quiet (fail)
    go_wp2_with fail
    try rw [Exit.noGoto_ret]
    go_ret3
    exact ⟨by rw [HV.out]; rfl, below_draws hb1 _⟩
  have h0 : ([60, 0, 63, 0] : List UInt8).isPrefixOf l = false := (Bool.not_eq_true _).mp h0
  have HT0 : Hid (∀ B, ∀ w, Rst w B l → Calls Tryz.prog 82 #[.pointer (some ⟨B, 0, none⟩), .string ⟨#[60, 0, 63, 0]⟩] w fun e w' => e = .returned (.bool false) ∧ Rst w' B (l) ∧ Fr w.heap.size B w w') := Lib.hid fun B => take_no (p := [60, 0, 63, 0]) h0
  by_cases h1 : ([0, 60, 0, 63] : List UInt8).isPrefixOf l = true
  · have HT1 : Hid (∀ B, ∀ w, Rst w B l → Calls Tryz.prog 82 #[.pointer (some ⟨B, 0, none⟩), .string ⟨#[0, 60, 0, 63]⟩] w fun e w' => e = .returned (.bool true) ∧ Rst w' B (l.drop 4) ∧ Fr w.heap.size B w w') := Lib.hid fun B => take_yes (p := [0, 60, 0, 63]) h1
    replace HV : Hid (bgS l = .tuple #[.int .i8 2, .int .i64 4, .bool true]) := Lib.hid (by simp [bgS, shp, h0, h1])
    clear h0 h1
    obtain ⟨s, hs'⟩ : ∃ s, str l = s := ⟨_, rfl⟩
    have HRN : Hid (∀ (w : World) (a : Array Value) (T : TypeId), Rst ((w.alloc (.cells a T)).alloc (.cells #[.string s] 123)) (w.heap.size + 1) l) := Lib.hid (by rw [← hs']; intro w a T; exact rst_new w a T l)
    rw [hs']
    clear hs'
    go_enter Tryz.func43, Tryz.ntmps43
    go_wp2_with fail
    refine wp_loop_rounds 2 ?_
    rw [rounds_succ]
    go_wp2_with (go_at_call 82; refine (HT0.out _ _ (HRN.out _ _ _)).mono ?_; rintro _ w1 ⟨rfl, -, hf1⟩; clear HT0; obtain ⟨hb1, hk1⟩ := front_step hf1; clear hf1; have HB1 := Lib.hid (hb1); clear hk1; have g2 : w1.cell? ⟨Q, 2, none⟩ = some (.int .i8 2) := HC.out HB1.out 2; have g3 : w1.cell? ⟨Q, 3, none⟩ = some (.string ⟨#[0, 60, 0, 63]⟩) := HC.out HB1.out 3)
    rw [rounds_succ]
    go_wp2_with (go_at_call 82; refine (HT1.out _ _ (HRN.out _ _ _)).mono ?_; rintro _ w2 ⟨rfl, -, hf2⟩; clear HT1; obtain ⟨hb2, hk2⟩ := front_step hf2; clear hf2; have a0 : w2.cell? ⟨w1.heap.size, 0, none⟩ = some (.int .i8 2) := hk2.cell 0; have a1 : w2.cell? ⟨w1.heap.size, 1, none⟩ = some (.string ⟨#[0, 60, 0, 63]⟩) := hk2.cell 1)
    go_quiet (fail)
    go_wp2_with fail
    try rw [Exit.noGoto_ret]
    go_ret3
    exact ⟨by rw [HV.out]; rfl, below_draws (below_call HB1.out hb2) _⟩
  have h1 : ([0, 60, 0, 63] : List UInt8).isPrefixOf l = false := (Bool.not_eq_true _).mp h1
  have HT1 : Hid (∀ B, ∀ w, Rst w B l → Calls Tryz.prog 82 #[.pointer (some ⟨B, 0, none⟩), .string ⟨#[0, 60, 0, 63]⟩] w fun e w' => e = .returned (.bool false) ∧ Rst w' B (l) ∧ Fr w.heap.size B w w') := Lib.hid fun B => take_no (p := [0, 60, 0, 63]) h1
  replace HV : Hid (bgS l = .tuple #[.int .i8 0, .int .i64 0, .bool false]) := Lib.hid (by simp [bgS, shp, h0, h1])
  clear h0 h1
  obtain ⟨s, hs'⟩ : ∃ s, str l = s := ⟨_, rfl⟩
  have HRN : Hid (∀ (w : World) (a : Array Value) (T : TypeId), Rst ((w.alloc (.cells a T)).alloc (.cells #[.string s] 123)) (w.heap.size + 1) l) := Lib.hid (by rw [← hs']; intro w a T; exact rst_new w a T l)
  rw [hs']
  clear hs'
  go_enter Tryz.func43, Tryz.ntmps43
  go_wp2_with fail
  refine wp_loop_rounds 3 ?_
  rw [rounds_succ]
  go_wp2_with (go_at_call 82; refine (HT0.out _ _ (HRN.out _ _ _)).mono ?_; rintro _ w1 ⟨rfl, -, hf1⟩; clear HT0; obtain ⟨hb1, hk1⟩ := front_step hf1; clear hf1; have HB1 := Lib.hid (hb1); clear hk1; have g2 : w1.cell? ⟨Q, 2, none⟩ = some (.int .i8 2) := HC.out HB1.out 2; have g3 : w1.cell? ⟨Q, 3, none⟩ = some (.string ⟨#[0, 60, 0, 63]⟩) := HC.out HB1.out 3)
  rw [rounds_succ]
  go_wp2_with (go_at_call 82; refine (HT1.out _ _ (HRN.out _ _ _)).mono ?_; rintro _ w2 ⟨rfl, -, hf2⟩; clear HT1; obtain ⟨hb2, hk2⟩ := front_step hf2; clear hf2; have HB2 := Lib.hid (below_call HB1.out hb2); clear hk2)
  rw [rounds_succ]
  go_wp2_with fail
  go_ret3
  exact ⟨by rw [HV.out]; rfl, HB2.out⟩
end Go.Proofs.YtppabkllconkjaaGreatDoor.Dec
/- The contracts of the program's Mark, Shape, Cut. -/
namespace Go.Proofs.YtppabkllconkjaaGreatDoor.Dec
open Go.RowKit
set_option linter.unusedVariables false
set_option linter.unusedSimpArgs false
set_option maxRecDepth 100000
open Lab (RetS ret_str str str_size str_list str_eta str_inj u8v info5 info_parts)
def MarkR (l : List UInt8) (w : World) (e : Ending) (w' : World) : Prop := e = .returned (markV (mrk l)) ∧ Below w.heap.size w w'
def ShapeR (l : List UInt8) (w : World) (e : Ending) (w' : World) : Prop := e = .returned (shapeV (shp l)) ∧ Below w.heap.size w w'
theorem markV_form (r : Option (Nat × Nat)) : ∃ (a n : Int) (b : Bool), markV r = .tuple #[.int .i8 a, .int .i64 n, .bool b] := by
  cases r with
  | none => exact ⟨0, 0, false, rfl⟩
  | some m => exact ⟨m.1, m.2, true, rfl⟩
set_option maxHeartbeats 1000000 in
theorem pmark_any (l : List UInt8) (w : World) : Calls Tryz.prog 22 #[.string (str l)] w fun e w' => MarkR l w e w' := by
  obtain ⟨a, n, b, h⟩ := markV_form (mrk l)
  have HB : Hid (∀ w : World, Calls Tryz.prog 43 #[.string (str l), .slice (some ⟨w.heap.size, 0, none⟩) 3 3] (w.alloc (.cells #[.int .i8 0, .string ⟨#[239, 187, 191]⟩, .int .i8 1, .string ⟨#[255, 254]⟩, .int .i8 2, .string ⟨#[254, 255]⟩] 87)) fun e w' => e = .returned (.tuple #[.int .i8 a, .int .i64 n, .bool b]) ∧ Below (w.alloc (.cells #[.int .i8 0, .string ⟨#[239, 187, 191]⟩, .int .i8 1, .string ⟨#[255, 254]⟩, .int .i8 2, .string ⟨#[254, 255]⟩] 87)).heap.size (w.alloc (.cells #[.int .i8 0, .string ⟨#[239, 187, 191]⟩, .int .i8 1, .string ⟨#[255, 254]⟩, .int .i8 2, .string ⟨#[254, 255]⟩] 87)) w') := Lib.hid fun (w : World) => by
    have := begins_mark l w.heap.size (w.alloc (.cells markC 87)) (Blk.new _ _ _)
    unfold bgM at this
    rw [h] at this
    exact this
  unfold MarkR
  rw [h]
  clear h
  obtain ⟨s, hs'⟩ : ∃ s, str l = s := ⟨_, rfl⟩
  rw [hs'] at HB ⊢
  clear hs'
  go_enter Tryz.func22, Tryz.ntmps22
  go_wp2_with (go_at_call 43; refine (HB.out _).mono ?_; rintro _ w1 ⟨rfl, hb1⟩; clear HB)
  go_ret3
  exact ⟨rfl, ((Below.refl _ w).alloc (Nat.le_refl _) _).trans (hb1.mono (by simp))⟩
theorem bgS_form (l : List UInt8) : ∃ (a n : Int) (b : Bool), bgS l = .tuple #[.int .i8 a, .int .i64 n, .bool b] ∧ shapeV (shp l) = .tuple #[.int .i8 a, .bool b] := by
  unfold bgS
  cases shp l with
  | none => exact ⟨0, 0, false, rfl, rfl⟩
  | some m => exact ⟨m, 4, true, rfl, rfl⟩
set_option maxHeartbeats 1000000 in
theorem pshape_any (l : List UInt8) (w : World) : Calls Tryz.prog 86 #[.string (str l)] w fun e w' => ShapeR l w e w' := by
  obtain ⟨a, n, b, h, h2⟩ := bgS_form l
  have HB : Hid (∀ w : World, Calls Tryz.prog 43 #[.string (str l), .slice (some ⟨w.heap.size, 0, none⟩) 2 2] (w.alloc (.cells #[.int .i8 1, .string ⟨#[60, 0, 63, 0]⟩, .int .i8 2, .string ⟨#[0, 60, 0, 63]⟩] 87)) fun e w' => e = .returned (.tuple #[.int .i8 a, .int .i64 n, .bool b]) ∧ Below (w.alloc (.cells #[.int .i8 1, .string ⟨#[60, 0, 63, 0]⟩, .int .i8 2, .string ⟨#[0, 60, 0, 63]⟩] 87)).heap.size (w.alloc (.cells #[.int .i8 1, .string ⟨#[60, 0, 63, 0]⟩, .int .i8 2, .string ⟨#[0, 60, 0, 63]⟩] 87)) w') := Lib.hid fun (w : World) => by
    have := begins_shape l w.heap.size (w.alloc (.cells shapeC 87)) (Blk.new _ _ _)
    rw [h] at this
    exact this
  unfold ShapeR
  rw [h2]
  clear h h2
  obtain ⟨s, hs'⟩ : ∃ s, str l = s := ⟨_, rfl⟩
  rw [hs'] at HB ⊢
  clear hs'
  go_enter Tryz.func86, Tryz.ntmps86
  go_wp2_with (go_at_call 43; refine (HB.out _).mono ?_; rintro _ w1 ⟨rfl, hb1⟩; clear HB)
  go_ret2
  exact ⟨rfl, ((Below.refl _ w).alloc (Nat.le_refl _) _).trans (hb1.mono (by simp))⟩
end Go.Proofs.YtppabkllconkjaaGreatDoor.Dec
/- The contracts of the program's Scan and Parts: ranges over the iterator of parts. -/
namespace Go.Proofs.YtppabkllconkjaaGreatDoor.Dec
open Go.RowKit
set_option linter.unusedVariables false
set_option linter.unusedSimpArgs false
set_option maxRecDepth 100000
open Lab (RetS ret_str str str_size str_list str_eta str_inj u8v info5 info_parts)
open Go.Shelf
attribute [local go_sem] Oper.semAt_some
theorem boxed_putObj {W : World} {B D : Nat} {t : TypeId} {v : Value} (h : Boxed W B t v) (o : Obj) (hne : B ≠ D) : Boxed (W.putObj D o) B t v :=
  (World.putObj_heap_other hne).trans h
theorem ind_boxed {β : Type} {T t : TypeId} (hT : t ≠ T) (Bo B : Nat) (f : β → Value) : Ind T B (fun s W => Boxed W Bo t (f s)) := fun s w w' row h0 hg hr => by
  have h : Boxed w Bo t (f s) := h0
  refine h.kept hg (fun e => ?_)
  obtain ⟨_, ⟨xs, hx⟩ | ⟨o, ho, hc⟩⟩ := hr Bo e.symm
  · unfold Boxed at h
    rw [show w.heap[Bo]? = _ from hx] at h
    cases h
    exact hT rfl
  · rw [show w.heap[Bo]? = _ from h] at ho
    cases ho; cases hc
theorem fnd_no {l : List Prt} (h : ∀ q ∈ l, q.1 ≠ enc8) : fnd l = none := by
  unfold fnd
  rw [List.find?_eq_none.2 (by intro q hq; simpa using h q hq)]
  rfl
theorem fnd_yes {l t u : List Prt} {x : Prt} (h : l = (t ++ [x]) ++ u) (ht : ∀ q ∈ t, q.1 ≠ enc8) (hx : x.1 = enc8) : fnd l = some x.2 := by
  unfold fnd
  rw [h, List.append_assoc, List.find?_append, List.find?_eq_none.2 (by intro q hq; simpa using ht q hq)]
  simp [hx]
set_option maxRecDepth 100000 in
set_option maxHeartbeats 4000000 in
theorem pscan_any (l : List UInt8) (w : World) (hm : Mx w) (hs : l.length ≤ maxLen) : Calls Tryz.prog 87 #[.string (str l)] w fun e w' => ScanR (scn l) w e w' := by
  have hpos := hm.pos
  have HSQ : Hid (∀ (n Bs : Nat) (W : World), 1 ≤ n → Mx W → w.heap.size ≤ W.heap.size → Bs < W.heap.size → W.cell? ⟨Bs, 0, none⟩ = some (.string (str l)) →
      SeqBox n Tryz.prog 152 #[.pointer (some ⟨Bs, 0, none⟩)] encP 123 w.heap.size (fun ys => ys = prts l) (fun pre => ∃ t, prts l = pre ++ t) 201 W) := Lib.hid fun n Bs W hn hM hw hB hc =>
    parts_seq n hn Bs w.heap.size l hs hpos W hM hB hw hc
  have HSC : Hid (scn l = fnd (prts l)) := Lib.hid rfl
  have HM := Lib.hid hm
  obtain ⟨s, hs'⟩ : ∃ s, str l = s := ⟨_, rfl⟩
  rw [hs'] at HSQ ⊢
  clear hs' hs hm
  refine (callsIn_wide (n := 5)).1 ?_
  have bR0 := Boxed.new w 9 (.string ⟨#[]⟩)
  have bR1 := Boxed.new (w.alloc (.cells #[.string ⟨#[]⟩] 9)) 4 (.bool false)
  rw [World.size_alloc] at bR1
  have hB0 : Below w.heap.size w ((w.alloc (.cells #[.string ⟨#[]⟩] 9)).alloc (.cells #[.bool false] 4)) := ((Below.refl _ w).alloc (Nat.le_refl _) _).alloc (by simp) _
  have HR0 := Lib.hid (bR0.alloc (.cells #[.bool false] 4))
  have HR1 := Lib.hid bR1
  have HB0 := Lib.hid hB0
  clear bR0 bR1 hB0
  refine callsIn_of_wp_marks Tryz.func87 rfl trivial ?_ rfl
  simp only [Tryz.ntmps87, List.size_toArray, List.length_cons, List.length_nil, Nat.reduceAdd, Nat.reduceSub, Array.replicate_succ, Array.replicate_zero, List.push_toArray, List.append_toArray, List.nil_append, List.cons_append]
  gi_wp2_with (refine ⟨trivial, ?_⟩; gi_at_call 122; refine (parts_in _ _ _).mono ?_; rintro e w' ⟨rfl, rfl⟩)
  have k0 := HR0.out.alloc (.cells #[.string s] 9)
  have k1 := HR1.out.alloc (.cells #[.string s] 9)
  have hB3 := HB0.out.alloc (by simp; omega) (.cells #[.string s] 9)
  have hcs := (Boxed.new ((w.alloc (.cells #[.string ⟨#[]⟩] 9)).alloc (.cells #[.bool false] 4)) 9 (.string s)).cell
  have hMx : Mx (((w.alloc (.cells #[.string ⟨#[]⟩] 9)).alloc (.cells #[.bool false] 4)).alloc (.cells #[.string s] 9)) := ((HM.out.alloc _).alloc _).alloc _
  simp only [World.size_alloc] at hcs ⊢
  refine range_box (by omega) (gf := 152) (lb := #[.pointer (some ⟨w.heap.size + 1 + 1, 0, none⟩)]) rfl (enters_of Tryz.func152 (by kernel_rfl) rfl)
    (HSQ.out 4 (w.heap.size + 1 + 1) _ (by omega) hMx (by simp; omega) (by simp) hcs) (by simp; omega) (fun _ => rfl)
    (fun pre W => (∀ q ∈ pre, q.1 ≠ enc8) ∧ Boxed W w.heap.size 9 (.string ⟨#[]⟩) ∧ Boxed W (w.heap.size + 1) 4 (.bool false) ∧ Below w.heap.size w W)
    (fun pre W => ∃ t x, (pre = t ++ [x] ∧ x.1 = enc8 ∧ ∀ q ∈ t, q.1 ≠ enc8) ∧ Boxed W w.heap.size 9 (.string (str x.2)) ∧ Boxed W (w.heap.size + 1) 4 (.bool true) ∧ Below w.heap.size w W)
    (Ind.and (ind_pure _ _ _) (Ind.and (ind_boxed (by decide) _ _ _) (Ind.and (ind_boxed (by decide) _ _ _) (ind_below _ (by simp; omega) (Nat.le_refl _)))))
    ?ixown
    ⟨by simp, k0, k1, hB3⟩
    (fun x => { tmps := #[.string s, undef, .pointer (some ⟨w.heap.size, 0, none⟩), .pointer (some ⟨w.heap.size + 1, 0, none⟩), .string (str x.1), .string (str x.2), .string s, .func (.func 152) #[] #[.pointer (some ⟨w.heap.size + 1 + 1, 0, none⟩)], .string (str x.1), .string (str x.2), undef, undef, undef], defers := [] }) ?assign ?body ?done ?stop
  case ixown =>
    intro c A B row hs hg hr
    obtain ⟨t, x, h1, h2, h3, h4⟩ := hs
    exact ⟨t, x, h1, ind_boxed (by decide) _ _ (fun _ : Unit => _) () A B row h2 hg hr, ind_boxed (by decide) _ _ (fun _ : Unit => _) () A B row h3 hg hr, ind_below (β := Unit) _ (by simp; omega) (Nat.le_refl _) () A B row h4 hg hr⟩
  case assign =>
    intro l x W K hK
    simp only [encP]
    gi_wp2
    exact hK
  case body =>
    rintro l pre x W ⟨hp, hb0, hb1, hB⟩ _
    have HQ := Lib.hid hp
    have HB := Lib.hid hB
    have H0 := Lib.hid hb0
    have H1 := Lib.hid hb1
    have c0 := hb0.cell
    have c1 := hb1.cell
    have f0 := hb0.frozen
    have f1 := hb1.frozen
    clear hp hB hb0 hb1
    by_cases hx : x.1 = enc8
    · have hxb : (str x.1).toList = [101, 110, 99, 111, 100, 105, 110, 103] := by rw [hx, toList_str]; rfl
      have HX := Lib.hid hx
      clear hx
      gi_wp2
      exact ⟨((KeepsOthers.setCell _ _ _).trans (KeepsOthers.setCell _ _ _)).from _, _, x, ⟨rfl, HX.out, HQ.out⟩, (H0.out.set _).other (by omega) _, (H1.out.other (by omega) _).set _, (HB.out.setCell (p := ⟨w.heap.size, 0, none⟩) (Nat.le_refl _) _).setCell (p := ⟨w.heap.size + 1, 0, none⟩) (by simp) _⟩
    · have hxb : ((str x.1).toList == [101, 110, 99, 111, 100, 105, 110, 103]) = false := by rw [toList_str]; simpa [enc8] using hx
      have HX := Lib.hid hx
      clear hx
      gi_wp2
      exact ⟨KeepsFrom.refl _ _, Kq.refl _ _ _, fun q hq => (List.mem_append.1 hq).elim (HQ.out q) (fun e => by simp at e; subst e; exact HX.out), H0.out, H1.out, HB.out⟩
  case done =>
    rintro D ys W hD rfl ⟨hne, hb0, hb1, hB⟩ hK
    have HN : Hid (scn l = none) := Lib.hid (HSC.out.trans (fnd_no hne))
    have HB := Lib.hid hB
    have H0 := Lib.hid hb0
    have H1 := Lib.hid hb1
    have c0 := hb0.cell
    have c1 := hb1.cell
    have f0 := hb0.frozen
    have f1 := hb1.frozen
    have hd1 : w.heap.size + 1 < D := by simp at hD; omega
    clear hne hb0 hb1 hB
    gi_wp2
    have hK' := ((KeepsOthers.setCell W ⟨w.heap.size, 0, none⟩ (.string ⟨#[]⟩)).trans (KeepsOthers.setCell _ ⟨w.heap.size + 1, 0, none⟩ (.bool false))).same D _ hK rfl
    have h0 := (boxed_putObj ((H0.out.set (.string ⟨#[]⟩)).other (B' := w.heap.size + 1) (by omega) (.bool false)) (.deferred none) (show w.heap.size ≠ D by omega)).cell
    have h1 := (boxed_putObj ((H1.out.other (B' := w.heap.size) (by omega) (.string ⟨#[]⟩)).set (.bool false)) (.deferred none) (show w.heap.size + 1 ≠ D by omega)).cell
    refine ⟨by simp, .inl ⟨_, _, rfl, run_takeDeferred hK', ?_⟩⟩
    refine ⟨.tuple #[.string ⟨#[]⟩, .bool false], ?_, by rw [HN.out]; exact ⟨rfl, ((HB.out.setCell (p := ⟨w.heap.size, 0, none⟩) (Nat.le_refl _) _).setCell (p := ⟨w.heap.size + 1, 0, none⟩) (by simp) _).trans (belowK_b (w := w) (Nat.le_refl _) _ D _ _ (by omega) hK' rfl rfl)⟩⟩
    simp [results, Tryz.f87, go_sem, h0, h1]
  case stop =>
    rintro D pre W hD hsp ⟨t, x, ⟨rfl, hx, ht⟩, hb0, hb1, hB⟩ hK
    have HN : Hid (scn l = some x.2) := Lib.hid (by obtain ⟨u, hu⟩ := hsp; exact HSC.out.trans (fnd_yes hu ht hx))
    have HB := Lib.hid hB
    have H0 := Lib.hid hb0
    have H1 := Lib.hid hb1
    have hd1 : w.heap.size + 1 < D := by simp at hD; omega
    clear hsp hx ht hb0 hb1 hB
    gi_wp2
    refine ⟨by simp, .inl ⟨_, _, rfl, run_takeDeferred hK, ?_⟩⟩
    have h0 := (boxed_putObj H0.out (.deferred none) (show w.heap.size ≠ D by omega)).cell
    have h1 := (boxed_putObj H1.out (.deferred none) (show w.heap.size + 1 ≠ D by omega)).cell
    refine ⟨.tuple #[.string (str x.2), .bool true], ?_, by rw [HN.out]; exact ⟨rfl, HB.out.trans (belowK_b (w := w) (Nat.le_refl _) W D _ _ (by omega) hK rfl rfl)⟩⟩
    simp [results, Tryz.f87, go_sem, h0, h1]
end Go.Proofs.YtppabkllconkjaaGreatDoor.Dec
