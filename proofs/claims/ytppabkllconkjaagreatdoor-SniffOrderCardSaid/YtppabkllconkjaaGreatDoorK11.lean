/- Joined: LM, LA, LB, LE, LF, LG, LH, LC, LJ. -/
import Derived.BigQuiet
import Derived.Deep.AppendLies
import Derived.Deep.DeepCutAuto
import Derived.Deep.LoopGhost
import Derived.Deep.QuietTactic
import Derived.Deep.RegionHeld3
import Derived.Laws.AppendOwn
import Derived.Laws.BytesArg
import Derived.Laws.DeepStrings4
import Derived.Laws.Externs
import Derived.Laws.IdiomStrings
import Derived.Lib.Bytealg
import Derived.Lib.Hide
import Derived.LoopIn
import Derived.LoopN
import Derived.LoopNIn
import Derived.Maps.AppendAt
import Derived.OpenShut
import Derived.Outline
import Derived.OwnWalkIn
import Derived.ProofKit
import Derived.RangeFuncBound
import Derived.RangeFuncBox
import Derived.RangeFuncCalls
import Derived.RangeFuncLeaves
import Derived.RangeFuncNested
import Derived.Shelf.Abstract
import Derived.Shelf.RegionOpen
import Derived.StillTailTactics
import Derived.TacticsInMore
import Derived.Test.YtppabkllconkjaaGreatDoorRows
import Derived.WalkKit
import Derived.WalkMore
import Derived.Test.YtppabkllconkjaaGreatDoorK05
/- The mathematics of labels: lists of bytes, white space, letters; nothing of the program. -/
namespace Go.Proofs.YtppabkllconkjaaGreatDoor.Lab
open Go.RowKit
set_option linter.unusedVariables false
set_option linter.unusedSimpArgs false
set_option maxRecDepth 100000
/-- White space. -/
def isW (c : UInt8) : Bool := c == 9 || c == 10 || c == 12 || c == 13 || c == 32
/-- A letter A to Z as a to z. -/
def lo (c : UInt8) : UInt8 := if 65 ≤ c ∧ c ≤ 90 then c + 32 else c
def lwr (l : List UInt8) : List UInt8 := l.map lo
def dropE (l : List UInt8) : List UInt8 := (l.reverse.dropWhile isW).reverse
def trm (l : List UInt8) : List UInt8 := dropE (l.dropWhile isW)
theorem dropW_len (l : List UInt8) : (l.dropWhile isW).length ≤ l.length := by
  have := List.dropWhile_sublist isW (l := l)
  exact this.length_le
theorem trm_len (l : List UInt8) : (trm l).length ≤ l.length := by
  unfold trm dropE
  have h1 := dropW_len l
  have h2 := dropW_len (l.dropWhile isW).reverse
  simp only [List.length_reverse] at *
  omega
/-- The loop that goes up. -/
theorem dropW_go {l : List UInt8} {i : Nat} (h : ∀ j, (hj : j < l.length) → j < i → isW l[j] = true) (hi : i ≤ l.length) (hs : ∀ hi : i < l.length, isW l[i] = false) : l.dropWhile isW = l.drop i := by
  induction l generalizing i with
  | nil => simp
  | cons a t ih =>
    cases i with
    | zero =>
      have := hs (by simp)
      simp at this
      simp [List.dropWhile_cons, this]
    | succ k =>
      have h0 := h 0 (by simp) (by omega)
      simp at h0
      rw [List.dropWhile_cons, if_pos h0, List.drop_succ_cons]
      exact ih (fun j hj hk => by have := h (j + 1) (by simpa using hj) (by omega); simpa using this) (by simpa using hi) (fun hk => by have := hs (by simpa using hk); simpa using this)
/-- The loop that goes down: what is behind e is white, what stands ahead of it isn't. -/
theorem dropE_go {l : List UInt8} {e : Nat} (he : e ≤ l.length) (h : ∀ j, (hj : j < l.length) → e ≤ j → isW l[j] = true) (hs : ∀ h0 : 0 < e, isW (l[e - 1]'(by omega)) = false) : dropE l = l.take e := by
  have h1 : l.reverse.dropWhile isW = l.reverse.drop (l.length - e) := by
    refine dropW_go (fun j hj hk => ?_) (by simp) (fun hi => ?_)
    · rw [List.getElem_reverse]
      exact h _ (by omega) (by omega)
    · simp only [List.length_reverse] at hi
      rw [List.getElem_reverse]
      have := hs (by omega)
      simp only [show l.length - 1 - (l.length - e) = e - 1 by omega]
      exact this
  unfold dropE
  rw [h1, List.drop_reverse]
  simp
  congr 1; omega
/-- Both loops. -/
structure Up (l : List UInt8) (i : Nat) : Prop where
  le : i ≤ l.length
  wh : ∀ j, (hj : j < l.length) → j < i → isW l[j] = true
theorem Up.start (l : List UInt8) : Up l 0 := ⟨Nat.zero_le _, fun j _ h => by omega⟩
theorem Up.step {l : List UInt8} {i : Nat} (h : Up l i) (hi : i < l.length) (hw : isW l[i] = true) : Up l (i + 1) :=
  ⟨hi, fun j hj hk => by by_cases e : j = i; subst e; exact hw; exact h.wh j hj (by omega)⟩
structure Dn (l : List UInt8) (b e : Nat) : Prop where
  be : b ≤ e
  el : e ≤ l.length
  st : l.dropWhile isW = l.drop b
  wh : ∀ j, (hj : j < l.length) → e ≤ j → isW l[j] = true
theorem Up.down {l : List UInt8} {i : Nat} (h : Up l i) (hs : ∀ hi : i < l.length, isW l[i] = false) : Dn l i l.length :=
  ⟨h.le, Nat.le_refl _, dropW_go h.wh h.le hs, fun j hj hk => by omega⟩
theorem Dn.step {l : List UInt8} {b e : Nat} (h : Dn l b e) (hb : b < e) (hw : isW (l[e - 1]'(by have := h.el; omega)) = true) : Dn l b (e - 1) :=
  ⟨by omega, by have := h.el; omega, h.st, fun j hj hk => by by_cases x : j = e - 1; subst x; exact hw; exact h.wh j hj (by omega)⟩
theorem Dn.done {l : List UInt8} {b e : Nat} (h : Dn l b e) (hs : ∀ hb : b < e, isW (l[e - 1]'(by have := h.el; omega)) = false) : trm l = (l.drop b).take (e - b) := by
  have hl := h.el
  have hb := h.be
  unfold trm
  rw [h.st]
  refine dropE_go (by simp; omega) (fun j hj hk => ?_) (fun h0 => ?_)
  · rw [List.getElem_drop]
    exact h.wh _ (by simp at hj; omega) (by omega)
  · rw [List.getElem_drop]
    have := hs (by omega)
    simp only [show b + (e - b - 1) = e - 1 by omega]
    exact this
end Go.Proofs.YtppabkllconkjaaGreatDoor.Lab
/- The labels: their table, what is asked of it, slices of texts. -/
namespace Go.Proofs.YtppabkllconkjaaGreatDoor.Lab
open Go.RowKit
set_option linter.unusedVariables false
set_option linter.unusedSimpArgs false
set_option maxRecDepth 100000
/-- The labels of an encoding, by the chapter's table. -/
def lst : Nat → List (List UInt8)
  | 0 => [[117, 116, 102, 45, 56], [117, 116, 102, 56], [117, 110, 105, 99, 111, 100, 101, 45, 49, 45, 49, 45, 117, 116, 102, 45, 56], [117, 110, 105, 99, 111, 100, 101, 49, 49, 117, 116, 102, 56], [120, 45, 117, 110, 105, 99, 111, 100, 101, 50, 48, 117, 116, 102, 56]]
  | 1 => [[117, 116, 102, 45, 49, 54], [117, 116, 102, 45, 49, 54, 108, 101], [117, 99, 115, 45, 50], [105, 115, 111, 45, 49, 48, 54, 52, 54, 45, 117, 99, 115, 45, 50], [99, 115, 117, 110, 105, 99, 111, 100, 101], [117, 110, 105, 99, 111, 100, 101], [117, 110, 105, 99, 111, 100, 101, 102, 101, 102, 102]]
  | 2 => [[117, 116, 102, 45, 49, 54, 98, 101], [117, 110, 105, 99, 111, 100, 101, 102, 102, 102, 101]]
  | 3 => [[119, 105, 110, 100, 111, 119, 115, 45, 49, 50, 53, 50], [99, 112, 49, 50, 53, 50], [120, 45, 99, 112, 49, 50, 53, 50], [97, 115, 99, 105, 105], [117, 115, 45, 97, 115, 99, 105, 105], [97, 110, 115, 105, 95, 120, 51, 46, 52, 45, 49, 57, 54, 56], [105, 115, 111, 45, 56, 56, 53, 57, 45, 49], [105, 115, 111, 56, 56, 53, 57, 45, 49], [105, 115, 111, 95, 56, 56, 53, 57, 45, 49], [105, 115, 111, 56, 56, 53, 57, 49], [108, 97, 116, 105, 110, 49], [108, 49], [99, 112, 56, 49, 57], [105, 98, 109, 56, 49, 57], [99, 115, 105, 115, 111, 108, 97, 116, 105, 110, 49]]
  | 4 => [[105, 115, 111, 45, 56, 56, 53, 57, 45, 53], [105, 115, 111, 56, 56, 53, 57, 45, 53], [105, 115, 111, 95, 56, 56, 53, 57, 45, 53], [105, 115, 111, 56, 56, 53, 57, 53], [99, 121, 114, 105, 108, 108, 105, 99], [99, 115, 105, 115, 111, 108, 97, 116, 105, 110, 99, 121, 114, 105, 108, 108, 105, 99]]
  | 5 => [[105, 115, 111, 45, 56, 56, 53, 57, 45, 49, 53], [105, 115, 111, 56, 56, 53, 57, 45, 49, 53], [105, 115, 111, 95, 56, 56, 53, 57, 45, 49, 53], [105, 115, 111, 56, 56, 53, 57, 49, 53], [108, 57], [99, 115, 105, 115, 111, 108, 97, 116, 105, 110, 57]]
  | _ => []
abbrev Item := Int × List UInt8
def row (e : Nat) : List Item := (lst e).map fun x => ((e : Int), x)
def allI : List Item := row 0 ++ row 1 ++ row 2 ++ row 3 ++ row 4 ++ row 5
/-- The first e rows. -/
def upto (e : Nat) : List Item := (List.range e).flatMap row
theorem upto_succ (e : Nat) : upto (e + 1) = upto e ++ row e := by
  unfold upto; rw [List.range_succ, List.flatMap_append]; simp
theorem upto_6 : upto 6 = allI := by decide
/-- The encoding that has a label that is plain already. -/
def ofP (p : List UInt8) : Int × Bool := match allI.find? (fun x => x.2 == p) with | some x => (x.1, true) | none => (0, false)
def ofL (l : List UInt8) : Int × Bool := ofP (lwr (trm l))
def allL (e : Int) : List (List UInt8) := (allI.filter (fun x => x.1 == e)).map (·.2)
theorem lst_len (e : Nat) : (lst e).length ≤ 15 := by
  match e with
  | 0 | 1 | 2 | 3 | 4 | 5 => decide
  | n + 6 => exact Nat.zero_le _
theorem allI_len : allI.length = 41 := by decide
theorem allL_in {e : Nat} (h : e < 6) : allL (e : Int) = lst e := by
  have : e = 0 ∨ e = 1 ∨ e = 2 ∨ e = 3 ∨ e = 4 ∨ e = 5 := by omega
  rcases this with rfl | rfl | rfl | rfl | rfl | rfl <;> decide
theorem first_in : ∀ x ∈ allI, 0 ≤ x.1 ∧ x.1 < 6 := by decide
theorem allL_out {e : Int} (h : ¬ (0 ≤ e ∧ e < 6)) : allL e = [] := by
  unfold allL
  have : allI.filter (fun x => x.1 == e) = [] := by
    rw [List.filter_eq_nil_iff]
    intro x hx hxe
    have := first_in x hx
    simp at hxe
    omega
  rw [this]; rfl
theorem ofP_row : ∀ x ∈ allI, ofP x.2 = (x.1, true) := by decide +kernel
theorem allL_mem {e : Int} {x : List UInt8} (h : x ∈ allL e) : (e, x) ∈ allI := by
  unfold allL at h
  obtain ⟨y, hy, rfl⟩ := List.mem_map.1 h
  obtain ⟨h1, h2⟩ := List.mem_filter.1 hy
  have : y.1 = e := by simpa using h2
  obtain ⟨a, b⟩ := y
  simp at this
  subst this
  exact h1
/-- A string of bytes. -/
def str (xs : List UInt8) : ByteArray := ⟨xs.toArray⟩
theorem str_list (xs : List UInt8) : (str xs).data.toList = xs := rfl
theorem str_size (xs : List UInt8) : (str xs).size = xs.length := by simp [str, ByteArray.size]
theorem str_eta (s : ByteArray) : str s.data.toList = s := by simp [str]
theorem str_inj {a b : List UInt8} (h : str a = str b) : a = b := by
  have := congrArg (fun s : ByteArray => s.data.toList) h
  simpa [str_list] using this
/-- v is a slice of texts that reads as xs. -/
def Strs (w : World) (v : Value) (xs : List (List UInt8)) : Prop :=
  (xs = [] ∧ ∃ p cap, v = .slice p 0 cap) ∨ (∃ b off cap, v = .slice (some ⟨b, off, none⟩) xs.length cap ∧ b < w.heap.size ∧ ∀ i (h : i < xs.length), w.cell? ⟨b, off + i, none⟩ = some (.string (str xs[i])))
theorem Strs.below {w w' : World} {v : Value} {xs : List (List UInt8)} (h : Strs w v xs) (hb : Below w.heap.size w w') : Strs w' v xs := by
  rcases h with h | ⟨b, off, cap, e, hl, hc⟩
  · exact .inl h
  · exact .inr ⟨b, off, cap, e, by have := hb.size; omega, fun i hi => (hb.cell (p := ⟨b, off + i, none⟩) hl).trans (hc i hi)⟩
theorem Strs.form {w : World} {v : Value} {xs : List (List UInt8)} (h : Strs w v xs) : ∃ p cap, v = .slice p xs.length cap := by
  rcases h with ⟨rfl, p, cap, rfl⟩ | ⟨b, off, cap, rfl, _⟩
  · exact ⟨p, cap, rfl⟩
  · exact ⟨_, cap, rfl⟩
theorem Strs.at {w : World} {p : Option Addr} {N cap : Nat} {xs : List (List UInt8)} (h : Strs w (.slice p N cap) xs) {k : Nat} (hk : k < xs.length) : ∃ b off, p = some ⟨b, off, none⟩ ∧ w.cell? ⟨b, off + k, none⟩ = some (.string (str xs[k])) := by
  rcases h with ⟨rfl, _⟩ | ⟨b, off, cap', e, _, hc⟩
  · simp at hk
  · cases e
    exact ⟨b, off, rfl, hc k hk⟩
def strV (x : List UInt8) : Value := .string (str x)
/-- The table of package label reads as the program's text lays it; all of it lies below n. -/
structure GlN (n : Nat) (w : World) : Prop where
  pos : 6 < n
  size : n ≤ w.heap.size
  tab : ∀ e, e < 6 → ∃ b off cap, w.cell? ⟨3, e, none⟩ = some (.slice (some ⟨b, off, none⟩) (lst e).length cap) ∧ b < n ∧ ∀ i (h : i < (lst e).length), w.cell? ⟨b, off + i, none⟩ = some (.string (str (lst e)[i]))
theorem GlN.below {n m : Nat} {w w' : World} (h : GlN n w) (hb : Below m w w') (hm : n ≤ m) : GlN n w' :=
  ⟨h.pos, by have := h.size; have := hb.size; omega, fun e he => by
    obtain ⟨b, off, cap, h1, h2, h3⟩ := h.tab e he
    have := h.pos
    exact ⟨b, off, cap, (hb.cell (p := ⟨3, e, none⟩) (by show 3 < m; omega)).trans h1, h2, fun i hi => (hb.cell (p := ⟨b, off + i, none⟩) (by show b < m; omega)).trans (h3 i hi)⟩⟩
theorem GlN.mono {n m : Nat} {w : World} (h : GlN n w) (hm : n ≤ m) (hs : m ≤ w.heap.size) : GlN m w :=
  ⟨by have := h.pos; omega, hs, fun e he => by
    obtain ⟨b, off, cap, h1, h2, h3⟩ := h.tab e he
    exact ⟨b, off, cap, h1, by omega, h3⟩⟩
def Gl (w : World) : Prop := GlN w.heap.size w
theorem Gl.below' {w w' : World} (h : Gl w) (hb : Below w.heap.size w w') : Gl w' := (GlN.below h hb (Nat.le_refl _)).mono hb.size (Nat.le_refl _)
def RetS (x : List UInt8) (w : World) (e : Ending) (w' : World) : Prop := e = .returned (.string (str x)) ∧ Below w.heap.size w w'
theorem ret_str {a b : List UInt8} (h : a = b) : Ending.returned (.string (str a)) = .returned (.string (str b)) := by rw [h]
end Go.Proofs.YtppabkllconkjaaGreatDoor.Lab
/- The contracts of white space and of Trim, the program's and the document's own. -/
namespace Go.Proofs.YtppabkllconkjaaGreatDoor.Lab
open Go.RowKit
set_option linter.unusedVariables false
set_option linter.unusedSimpArgs false
set_option maxRecDepth 100000
def whiteS : ByteArray := ⟨#[9, 10, 12, 13, 32]⟩
theorem ixb_isW (c : UInt8) : decide (0 ≤ Lib.indexByte [9, 10, 12, 13, 32] c) = isW c := by
  have : ∀ c : Fin 256, decide (0 ≤ Lib.indexByte [9, 10, 12, 13, 32] (UInt8.ofNat c)) = isW (UInt8.ofNat c) := by decide +kernel
  have k := this ⟨c.toNat, c.toNat_lt⟩
  simpa using k
theorem run_ixb (s : ByteArray) (c : Int) (w : World) : (callFunc 184 #[.string s, .int .u8 c]).run Tryz.prog w = .ok (.value (.int .i64 (Lib.indexByte s.data.toList c.toNat.toUInt8))) w := by
  rw [run_callFunc_extern Tryz.func184 (by kernel_rfl) (by kernel_rfl) (by kernel_rfl) (e := Extern.BytealgIndexByte.indexByte) (by kernel_rfl), Lib.run_indexByteString]; rfl
theorem sl_ixb (s : ByteArray) (c : Int) (w : World) : Calls Tryz.prog 181 #[.string s, .int .u8 c] w fun e w' => e = .returned (.int .i64 (Lib.indexByte s.data.toList c.toNat.toUInt8)) ∧ w' = w := by
  have hx := run_ixb
  go_enter Tryz.func181, Tryz.ntmps181
  go_wp2_with fail
  go_ret
  exact ⟨rfl, rfl⟩
theorem st_ixb (s : ByteArray) (c : Int) (w : World) : Calls Tryz.prog 167 #[.string s, .int .u8 c] w fun e w' => e = .returned (.int .i64 (Lib.indexByte s.data.toList c.toNat.toUInt8)) ∧ w' = w := by
  go_enter Tryz.func167, Tryz.ntmps167
  go_wp2_with (go_at_call 181; refine (sl_ixb _ _ _).mono ?_; rintro e w' ⟨rfl, rfl⟩)
  go_ret
  exact ⟨rfl, rfl⟩
/-- The closure that asks whether a byte is white. -/
theorem isWhite_any (s : ByteArray) (B k : Nat) (hk : k < s.size) (w : World) (hc : w.cell? ⟨B, 0, none⟩ = some (.string s)) :
    Calls Tryz.prog 173 #[.int .i64 (k : Int), .pointer (some ⟨B, 0, none⟩)] w fun e w' => e = .returned (.bool (isW s[k])) ∧ w' = w := by
  have hk0 : (0 : Int) ≤ (k : Int) := by omega
  have hk3 : (k : Int) < (s.size : Int) := by omega
  have HW : ∀ n : Int, n = Lib.indexByte [9, 10, 12, 13, 32] s[k] → decide (0 ≤ n) = isW s[k] := fun n h => by rw [h]; exact ixb_isW _
  obtain ⟨n, hn⟩ : ∃ n, Lib.indexByte [9, 10, 12, 13, 32] s[k] = n := ⟨_, rfl⟩
  have H := Lib.hid (HW n hn.symm)
  have HC : Hid (∀ w, Calls Tryz.prog 167 #[.string whiteS, .int .u8 (s[k].toNat : Int)] w fun e w' => e = .returned (.int .i64 n) ∧ w' = w) := Lib.hid fun w => by
    refine (st_ixb whiteS (s[k].toNat : Int) w).mono ?_
    rintro e w' ⟨rfl, rfl⟩
    refine ⟨?_, rfl⟩
    rw [← hn]
    simp [whiteS]
  clear hn HW
  go_enter Tryz.func173, Tryz.ntmps173
  go_wp2_with (go_at_call 167; refine (HC.out _).mono ?_; rintro e w' ⟨rfl, rfl⟩)
  go_ret
  exact ⟨ret_bool H.out, rfl⟩
theorem rwhite_any (c : UInt8) (w : World) : Calls Tryz.prog 91 #[.int .u8 (c.toNat : Int)] w fun e w' => e = .returned (.bool (isW c)) ∧ w' = w := by
  have H : isW c = true ↔ ((c.toNat : Int) = 9 ∨ (c.toNat : Int) = 10 ∨ (c.toNat : Int) = 12 ∨ (c.toNat : Int) = 13 ∨ (c.toNat : Int) = 32) := by
    have : ∀ c : Fin 256, isW (UInt8.ofNat c) = true ↔ ((c.val : Int) = 9 ∨ (c.val : Int) = 10 ∨ (c.val : Int) = 12 ∨ (c.val : Int) = 13 ∨ (c.val : Int) = 32) := by decide +kernel
    have k := this ⟨c.toNat, c.toNat_lt⟩
    simpa using k
  obtain ⟨x, hx⟩ : ∃ x : Int, (c.toNat : Int) = x := ⟨_, rfl⟩
  obtain ⟨b, hb⟩ : ∃ b, isW c = b := ⟨_, rfl⟩
  rw [hx, hb] at H
  rw [hx, hb]
  clear hx hb
  have HH := Lib.hid H
  clear H
  by_cases h1 : x = 9
  · have e : (x == 9) = true := by simpa using h1
    have HB : Hid (true = b) := Lib.hid (HH.out.2 (.inl h1)).symm
    clear h1
    go_enter Tryz.func91, Tryz.ntmps91
    go_wp2_with fail
    go_ret
    exact ⟨ret_bool HB.out, rfl⟩
  have e1 : (x == 9) = false := by simpa using h1
  by_cases h2 : x = 10
  · have e : (x == 10) = true := by simpa using h2
    have HB : Hid (true = b) := Lib.hid (HH.out.2 (.inr (.inl h2))).symm
    clear h1 h2
    go_enter Tryz.func91, Tryz.ntmps91
    go_wp2_with fail
    go_ret
    exact ⟨ret_bool HB.out, rfl⟩
  have e2 : (x == 10) = false := by simpa using h2
  by_cases h3 : x = 12
  · have e : (x == 12) = true := by simpa using h3
    have HB : Hid (true = b) := Lib.hid (HH.out.2 (.inr (.inr (.inl h3)))).symm
    clear h1 h2 h3
    go_enter Tryz.func91, Tryz.ntmps91
    go_wp2_with fail
    go_ret
    exact ⟨ret_bool HB.out, rfl⟩
  have e3 : (x == 12) = false := by simpa using h3
  by_cases h4 : x = 13
  · have e : (x == 13) = true := by simpa using h4
    have HB : Hid (true = b) := Lib.hid (HH.out.2 (.inr (.inr (.inr (.inl h4))))).symm
    clear h1 h2 h3 h4
    go_enter Tryz.func91, Tryz.ntmps91
    go_wp2_with fail
    go_ret
    exact ⟨ret_bool HB.out, rfl⟩
  have e4 : (x == 13) = false := by simpa using h4
  have HB : Hid ((x == 32) = b) := Lib.hid (by
    cases b
    · have : ¬ x = 32 := fun h => by have := HH.out.2 (.inr (.inr (.inr (.inr h)))); cases this
      simpa using this
    · have := HH.out.1 rfl
      simp; omega)
  clear h1 h2 h3 h4
  go_enter Tryz.func91, Tryz.ntmps91
  go_wp2_with fail
  go_ret
  exact ⟨ret_bool HB.out, rfl⟩
end Go.Proofs.YtppabkllconkjaaGreatDoor.Lab
/- The contracts of Lower, the program's and the document's own; rows of bytes. -/
namespace Go.Proofs.YtppabkllconkjaaGreatDoor.Lab
open Go.RowKit
set_option linter.unusedVariables false
set_option linter.unusedSimpArgs false
set_option maxRecDepth 100000
theorem info5 : (Tryz.prog.info? 5).map (fun i => (i.zero, i.size, i.bytes)) = some (some (.int .u8 0), 1, 1) := by kernel_rfl
theorem info_parts {t : TypeId} {z : Option Value} {a b : Nat} (h : (Tryz.prog.info? t).map (fun i => (i.zero, i.size, i.bytes)) = some (z, a, b)) : ∃ i, Tryz.prog.info? t = some i ∧ i.zero = z ∧ i.size = a ∧ i.bytes = b := by
  cases hx : Tryz.prog.info? t with
  | none => rw [hx] at h; cases h
  | some i => rw [hx] at h; simp at h; exact ⟨i, rfl, h.1, h.2.1, h.2.2⟩
def u8v (b : UInt8) : Value := .int .u8 (b.toNat : Int)
/-- Block B is a row of bytes as a conversion lays it: the first ones are l. -/
def BysR (w : World) (B : Nat) (l : List UInt8) : Prop := ∃ C : Array Value, w.heap[B]? = some (.cells C 5 (C.size, C.size + 1)) ∧ l.length ≤ C.size ∧ ∀ i (h : i < l.length), C[i]? = some (u8v l[i])
namespace BysR
variable {w w' : World} {B : Nat} {l : List UInt8}
theorem lt (h : BysR w B l) : B < w.heap.size := by
  obtain ⟨C, h, _⟩ := h
  exact (Array.getElem?_eq_some_iff.1 h).1
theorem cell (h : BysR w B l) {i : Nat} (hi : i < l.length) : w.cell? ⟨B, i, none⟩ = some (.int .u8 (l[i].toNat : Int)) := by
  obtain ⟨C, hb, _, hc⟩ := h
  simp [World.cell?, hb, hc i hi, u8v]
theorem frozen (h : BysR w B l) {i : Nat} (hi : i < l.length) : w.frozen? ⟨B, i, none⟩ = false := by
  obtain ⟨C, hb, hs, hc⟩ := h
  simp [World.frozen?, hb]; omega
theorem set (h : BysR w B l) {i : Nat} (hi : i < l.length) (c : UInt8) : BysR (w.setCell ⟨B, i, none⟩ (.int .u8 (c.toNat : Int))) B (l.set i c) := by
  obtain ⟨C, hb, hs, hc⟩ := h
  refine ⟨C.setIfInBounds i (u8v c), ?_, by simpa using hs, ?_⟩
  · simp [World.setCell, Array.getElem?_modify, hb, u8v]
  · intro j hj
    simp only [List.length_set] at hj
    by_cases e : i = j
    · subst e
      have : i < C.size := by omega
      simp [Array.getElem?_setIfInBounds, this]
    · rw [Array.getElem?_setIfInBounds_ne (by omega), hc j hj, List.getElem_set_ne (by omega)]
theorem below (h : BysR w B l) (hb : Below w.heap.size w w') : BysR w' B l := by
  have := h.lt
  obtain ⟨C, hb', hs, hc⟩ := h
  exact ⟨C, (hb.block _ this).trans hb', hs, hc⟩
theorem conv (h : BysR w B l) (cap : Nat) : (convert 99 9 (.slice (some ⟨B, 0, none⟩) l.length cap)).run Tryz.prog w = .ok (.string (str l)) w := by
  refine run_convert_bytes_back (P := Tryz.prog) w 99 9 5 ⟨B, 0, none⟩ cap l Tryz.underlying99 Tryz.underlying5 Tryz.underlying9 ?_
  intro j hj
  have hadd : (⟨B, 0, none⟩ : Addr).add j = ⟨B, 0 + j, none⟩ := by unfold Addr.add; split <;> simp_all
  rw [hadd, Nat.zero_add]
  exact h.cell hj
end BysR
/-- What a conversion of a text to bytes lays. -/
theorem bys_new (w : World) (s : ByteArray) : ∃ cap W1, (convert 9 99 (.string s)).run Tryz.prog w = .ok (.slice (some ⟨w.heap.size, 0, none⟩) s.size cap) W1 ∧ BysR W1 w.heap.size s.data.toList ∧ Below w.heap.size w W1 ∧ s.size ≤ cap ∧ W1.heap.size = w.heap.size + 1 ∧
    ∃ C : Array Value, W1.heap[w.heap.size]? = some (.cells C 5 (C.size, C.size + 1)) ∧ C.size = cap := by
  refine ⟨_, _, run_bytes_of_string w 9 99 5 s Tryz.underlying9 Tryz.underlying99 Tryz.underlying5, ?_, ?_, ?_, ?_, ?_⟩
  · refine ⟨bytesRow s (grownCap w s.size 0 5), by show (w.heap.push _)[w.heap.size]? = _; simp, ?_, ?_⟩
    · simp [bytesRow]
    · intro i hi
      have hi' : i < s.size := by simpa using hi
      have hi2 : i < s.data.size := hi'
      unfold bytesRow
      rw [Array.getElem?_append_left (by simpa using hi2)]
      simp [u8v]
      exact ⟨s.data[i], by simp [hi2], rfl⟩
  · exact ((Below.refl _ w).drew).alloc (Nat.le_refl _) _
  · exact grownCap_ge _ _ _ _
  · simp [World.alloc]
  · refine ⟨bytesRow s (grownCap w s.size 0 5), by show (w.heap.push _)[w.heap.size]? = _; simp, ?_⟩
    have := grownCap_ge w s.size 0 5
    simp [bytesRow]
    have : s.data.size = s.size := rfl
    omega
theorem lo_or (c : UInt8) : 65 ≤ (c.toNat : Int) → (c.toNat : Int) ≤ 90 → bits .or .u8 (c.toNat : Int) 32 = ((lo c).toNat : Int) := by
  have : ∀ c : Fin 256, 65 ≤ (c.val : Int) → (c.val : Int) ≤ 90 → bits .or .u8 (c.val : Int) 32 = ((lo (UInt8.ofNat c)).toNat : Int) := by decide +kernel
  have k := this ⟨c.toNat, c.toNat_lt⟩
  simpa using k
theorem lo_add (c : UInt8) : 65 ≤ (c.toNat : Int) → (c.toNat : Int) ≤ 90 → IntKind.u8.wrap ((c.toNat : Int) + 32) = ((lo c).toNat : Int) := by
  have : ∀ c : Fin 256, 65 ≤ (c.val : Int) → (c.val : Int) ≤ 90 → IntKind.u8.wrap ((c.val : Int) + 32) = ((lo (UInt8.ofNat c)).toNat : Int) := by decide +kernel
  have k := this ⟨c.toNat, c.toNat_lt⟩
  simpa using k
theorem lo_not (c : UInt8) : ¬ (65 ≤ (c.toNat : Int) ∧ (c.toNat : Int) ≤ 90) → lo c = c := by
  have : ∀ c : Fin 256, ¬ (65 ≤ (c.val : Int) ∧ (c.val : Int) ≤ 90) → lo (UInt8.ofNat c) = UInt8.ofNat c := by decide +kernel
  have k := this ⟨c.toNat, c.toNat_lt⟩
  simpa using k
def lowN (l : List UInt8) (k : Nat) : List UInt8 := lwr (l.take k) ++ l.drop k
theorem lowN_len (l : List UInt8) {k : Nat} : (lowN l k).length = l.length := by
  unfold lowN; simp [lwr]; omega
theorem lowN_at {l : List UInt8} {k : Nat} (h : k < l.length) : (lowN l k)[k]'(by rw [lowN_len]; exact h) = l[k] := by
  unfold lowN
  rw [List.getElem_append_right (by simp [lwr]; omega)]
  simp [lwr, Nat.min_eq_left (Nat.le_of_lt h)]
theorem lowN_0 (l : List UInt8) : lowN l 0 = l := by simp [lowN, lwr]
theorem lowN_end {l : List UInt8} {k : Nat} (h : ¬ k < l.length) : lowN l k = lwr l := by
  unfold lowN; rw [List.take_of_length_le (by omega), List.drop_eq_nil_of_le (by omega)]; simp
theorem lowN_step {l : List UInt8} {k : Nat} (h : k < l.length) : lowN l (k + 1) = (lowN l k).set k (lo l[k]) := by
  unfold lowN lwr
  rw [List.take_add_one, List.getElem?_eq_getElem h, List.drop_eq_getElem_cons h]
  simp only [Option.toList_some, List.map_append, List.map_cons, List.map_nil]
  rw [List.set_append_right _ _ (by simp; omega)]
  simp [Nat.min_eq_left (Nat.le_of_lt h)]
  rw [List.drop_eq_getElem_cons h, List.set_cons_zero]
theorem lowN_same {l : List UInt8} {k : Nat} (h : k < l.length) (hl : lo l[k] = l[k]) : lowN l (k + 1) = lowN l k := by
  rw [lowN_step h, hl]
  apply List.ext_getElem (by simp)
  intro i h1 h2
  by_cases e : k = i
  · subst e; rw [List.getElem_set_self, lowN_at h]
  · rw [List.getElem_set_ne e]
set_option maxHeartbeats 1600000 in
theorem lower_any (s : ByteArray) (w : World) (hs : s.size ≤ maxLen) : Calls Tryz.prog 149 #[.string s] w fun e w' => RetS (lwr s.data.toList) w e w' := by
  unfold maxLen at hs
  have hsz : s.data.toList.length = s.size := by simp
  obtain ⟨cap, W1, hcv, hby, hB1, hcap, -, -⟩ := bys_new w s
  obtain ⟨l, HL⟩ : ∃ l, Hid (s.data.toList = l) := ⟨_, Lib.hid rfl⟩
  rw [HL.out] at hsz hby
  rw [HL.out]
  have HSZ := Lib.hid hsz
  have HB1 := Lib.hid hB1
  have HY1 := Lib.hid hby
  clear hby hB1 hsz hcap
  go_enter Tryz.func149, Tryz.ntmps149
  go_wp2_with fail
  go_loopg [10] (s.size + 1) (fun g q wr => ∃ (k : Nat), k + g = s.size + 1 ∧ q = .int .i64 k ∧ k ≤ s.size ∧ Hid (BysR wr w.heap.size (lowN l k)) ∧ Hid (Below w.heap.size w wr))
  case atStart => exact ⟨0, by omega, rfl, by omega, Lib.hid (by rw [lowN_0]; exact HY1.out), HB1⟩
  case round =>
    obtain ⟨k, hkg, rfl, hk7, HY, HB⟩ := hrel
    by_cases hlt : k < s.size
    · have hkl : k < l.length := by rw [HSZ.out]; exact hlt
      have hkn : k < (lowN l k).length := by rw [lowN_len]; exact hkl
      have hc := HY.out.cell hkn
      rw [lowN_at hkl] at hc
      have hfz := HY.out.frozen hkn
      obtain ⟨c, hcc⟩ : ∃ c, l[k] = c := ⟨_, rfl⟩
      have hbd := c.toNat_lt
      by_cases h1 : 65 ≤ (c.toNat : Int)
      · have d1 : decide (65 ≤ (c.toNat : Int)) = true := by simpa using h1
        have d1n : decide (65 ≤ c.toNat) = true := by simp; omega
        by_cases h2 : (c.toNat : Int) ≤ 90
        · have d2 : decide ((c.toNat : Int) ≤ 90) = true := by simpa using h2
          have d2n : decide (c.toNat ≤ 90) = true := by simp; omega
          have hor := lo_or c h1 h2
          have HY2 : Hid (BysR (wr.setCell ⟨w.heap.size, k, none⟩ (.int .u8 ((lo c).toNat : Int))) w.heap.size (lowN l (k + 1))) := Lib.hid (by
            rw [lowN_step hkl, hcc]; exact HY.out.set hkn _)
          rw [hcc] at hc
          clear hcc hkn hkl h1 h2
          go_wp2_with fail
          go_roundg (gk - 1)
          case measure => omega
          case rel => exact ⟨k + 1, by omega, by go_num, by omega, HY2, Lib.hid (HB.out.setCell (Nat.le_refl _) _)⟩
        · have d2 : decide ((c.toNat : Int) ≤ 90) = false := by simpa using h2
          have d2n : decide (c.toNat ≤ 90) = false := by simp; omega
          have HY2 : Hid (BysR wr w.heap.size (lowN l (k + 1))) := Lib.hid (by
            rw [lowN_same hkl (by rw [hcc]; exact lo_not c (fun h => h2 h.2))]; exact HY.out)
          rw [hcc] at hc
          clear hcc hkn hkl h1 h2
          go_wp2_with fail
          go_roundg (gk - 1)
          case measure => omega
          case rel => exact ⟨k + 1, by omega, by go_num, by omega, HY2, HB⟩
      · have d1 : decide (65 ≤ (c.toNat : Int)) = false := by simpa using h1
        have d1n : decide (65 ≤ c.toNat) = false := by simp; omega
        have HY2 : Hid (BysR wr w.heap.size (lowN l (k + 1))) := Lib.hid (by
          rw [lowN_same hkl (by rw [hcc]; exact lo_not c (fun h => h1 h.1))]; exact HY.out)
        rw [hcc] at hc
        clear hcc hkn hkl h1
        go_wp2_with fail
        go_roundg (gk - 1)
        case measure => omega
        case rel => exact ⟨k + 1, by omega, by go_num, by omega, HY2, HB⟩
    · have hconv := HY.out.conv cap
      rw [lowN_len, HSZ.out, lowN_end (by rw [HSZ.out]; exact hlt)] at hconv
      go_wp2_with fail
      go_ret
      exact ⟨rfl, HB.out⟩
end Go.Proofs.YtppabkllconkjaaGreatDoor.Lab
/- The contract of the document's own Lower; slices of bytes that grow. -/
namespace Go.Proofs.YtppabkllconkjaaGreatDoor.Lab
open Go.RowKit
set_option linter.unusedVariables false
set_option linter.unusedSimpArgs false
set_option maxRecDepth 100000
def Own8 (w : World) (base : Nat) (v : Value) (xs : List UInt8) : Prop := w.ownsRow base 5 1 v xs.length (xs.map u8v)
theorem own_nil (w : World) (base : Nat) : Own8 w base (.slice none 0 0) [] := World.ownsRow_nil w base 5 1
theorem conv_own {w : World} {base : Nat} {v : Value} {xs : List UInt8} (h : Own8 w base v xs) : (convert 99 9 v).run Tryz.prog w = .ok (.string (str xs)) w := by
  rcases h.2 with ⟨rfl, h0⟩ | ⟨g, cap, cur, rfl, hb, hg, hcap, hm, hsz, ht⟩
  · have : xs = [] := List.eq_nil_of_length_eq_zero h0
    subst this
    exact run_convert_bytes_nil (P := Tryz.prog) w 99 5 Tryz.underlying99 Tryz.underlying5 0 0 9 Tryz.underlying9
  · refine run_convert_bytes_back (P := Tryz.prog) w 99 9 5 ⟨g, 0, none⟩ cap xs Tryz.underlying99 Tryz.underlying5 Tryz.underlying9 ?_
    intro i hi
    have hc := (World.ownsRow.cells (g := g) h rfl) i (u8v xs[i]) (by simp [hi])
    rw [hc]; rfl
theorem lwr_take {l : List UInt8} {k : Nat} (h : k < l.length) : lwr (l.take (k + 1)) = lwr (l.take k) ++ [lo l[k]] := by
  unfold lwr
  rw [List.take_add_one, List.getElem?_eq_getElem h, List.map_append]
  rfl
theorem lwr_take_len {l : List UInt8} {k : Nat} (h : k ≤ l.length) : (lwr (l.take k)).length = k := by simp [lwr]; omega
set_option maxHeartbeats 1600000 in
theorem rlower_any (s : ByteArray) (w : World) (hs : s.size ≤ 100000) : Calls Tryz.prog 53 #[.string s] w fun e w' => RetS (lwr s.data.toList) w e w' := by
  obtain ⟨i0, hi, hz0, hz1, hz2⟩ := info_parts info5
  have hsz : s.data.toList.length = s.size := by simp
  obtain ⟨l, HL⟩ : ∃ l, Hid (s.data.toList = l) := ⟨_, Lib.hid rfl⟩
  have HSZ : Hid (l.length = s.size) := Lib.hid (by rw [← HL.out]; exact hsz)
  have HE : Hid (∀ k (h : k < s.size), l[k]'(by rw [HSZ.out]; exact h) = s[k]) := Lib.hid (by
    intro k h
    have e := HL.out
    subst e
    rfl)
  rw [HL.out]
  clear hsz
  go_enter Tryz.func53, Tryz.ntmps53
  go_wp2_with fail
  go_loopg [3, 4] (s.size + 1) (fun g q3 q4 wr => ∃ (v : Value) (k : Nat), v = q3 ∧ k + g = s.size + 1 ∧ q4 = .int .i64 k ∧ k ≤ s.size ∧ Hid (Own8 wr w.heap.size q3 (lwr (l.take k))) ∧ Hid (Below w.heap.size w wr))
  case atStart => exact ⟨_, 0, rfl, by omega, rfl, by omega, Lib.hid (own_nil _ _), Lib.hid (Below.refl _ _)⟩
  case round =>
    obtain ⟨v, k, rfl, hkg, rfl, hk7, HO, HB⟩ := hrel
    have hwz := HB.out.size
    by_cases hlt : k < s.size
    · have hkl : k < l.length := by rw [HSZ.out]; exact hlt
      have hk0 : (0 : Int) ≤ (k : Int) := by omega
      have hk3 : (k : Int) < (s.size : Int) := by omega
      have HN := Lib.hid (lwr_take hkl)
      rw [HE.out k hlt] at HN
      have HLN := Lib.hid (lwr_take_len (l := l) (k := k) (by omega))
      have hbd := s[k].toNat_lt
      by_cases h1 : 65 ≤ (s[k].toNat : Int)
      · have d1 : decide (65 ≤ (s[k].toNat : Int)) = true := by simpa using h1
        have d1n : decide (65 ≤ s[k].toNat) = true := by simp; omega
        by_cases h2 : (s[k].toNat : Int) ≤ 90
        · have d2 : decide ((s[k].toNat : Int) ≤ 90) = true := by simpa using h2
          have d2n : decide (s[k].toNat ≤ 90) = true := by simp; omega
          have hor := lo_add s[k] h1 h2
          clear hkl h1 h2
          go_wp2_with (at_builtin; refine wpList_append_lies _ rfl _ _ _ rfl w.heap.size 5 i0 _ 1 1 Tryz.underlying99 hi hz0 hz1 hz2 rfl (by omega) v (lwr (l.take k)).length ((lwr (l.take k)).map u8v) rfl (World.ownsRow.alloc HO.out _) ⟨wr.heap.size, 0, none⟩ 1 1 [_] rfl rfl (cell_one_new _ _ _) (by simp [Value.oneCell']) (by omega) (by rw [HLN.out]; unfold maxLen; omega) (by rw [HLN.out]; omega) (by simp; omega) (wr.heap.size + 1) (by simp) ?_; intro g1 cap1 w1 hown1 hgrow1 hat1 hlt1)
          have HO1 : Hid (Own8 w1 w.heap.size (.slice (some ⟨g1, 0, none⟩) ((lwr (l.take k)).length + 1) cap1) (lwr (l.take (k + 1)))) := Lib.hid (by
            unfold Own8; rw [HN.out, List.length_append, List.map_append]; exact hown1)
          have HB1 : Hid (Below w.heap.size w w1) := Lib.hid (((HB.out.alloc hwz _)).grown hgrow1 (by simp; omega) (fun k e => (World.ownsRow.lt HO.out k e).1))
          clear hown1 hgrow1 hat1 hlt1
          go_wp2_with fail
          go_roundg (gk - 1)
          case measure => omega
          case rel => exact ⟨_, k + 1, rfl, by omega, by go_num, by omega, HO1, HB1⟩
        · have d2 : decide ((s[k].toNat : Int) ≤ 90) = false := by simpa using h2
          have d2n : decide (s[k].toNat ≤ 90) = false := by simp; omega
          have HN := Lib.hid (HN.out.trans (by rw [lo_not s[k] (fun h => h2 h.2)]))
          clear hkl h1 h2
          go_wp2_with (at_builtin; refine wpList_append_lies _ rfl _ _ _ rfl w.heap.size 5 i0 _ 1 1 Tryz.underlying99 hi hz0 hz1 hz2 rfl (by omega) v (lwr (l.take k)).length ((lwr (l.take k)).map u8v) rfl (World.ownsRow.alloc HO.out _) ⟨wr.heap.size, 0, none⟩ 1 1 [_] rfl rfl (cell_one_new _ _ _) (by simp [Value.oneCell']) (by omega) (by rw [HLN.out]; unfold maxLen; omega) (by rw [HLN.out]; omega) (by simp; omega) (wr.heap.size + 1) (by simp) ?_; intro g1 cap1 w1 hown1 hgrow1 hat1 hlt1)
          have HO1 : Hid (Own8 w1 w.heap.size (.slice (some ⟨g1, 0, none⟩) ((lwr (l.take k)).length + 1) cap1) (lwr (l.take (k + 1)))) := Lib.hid (by
            unfold Own8; rw [HN.out, List.length_append, List.map_append]; exact hown1)
          have HB1 : Hid (Below w.heap.size w w1) := Lib.hid (((HB.out.alloc hwz _)).grown hgrow1 (by simp; omega) (fun k e => (World.ownsRow.lt HO.out k e).1))
          clear hown1 hgrow1 hat1 hlt1
          go_wp2_with fail
          go_roundg (gk - 1)
          case measure => omega
          case rel => exact ⟨_, k + 1, rfl, by omega, by go_num, by omega, HO1, HB1⟩
      · have d1 : decide (65 ≤ (s[k].toNat : Int)) = false := by simpa using h1
        have d1n : decide (65 ≤ s[k].toNat) = false := by simp; omega
        have HN := Lib.hid (HN.out.trans (by rw [lo_not s[k] (fun h => h1 h.1)]))
        clear hkl h1
        go_wp2_with (at_builtin; refine wpList_append_lies _ rfl _ _ _ rfl w.heap.size 5 i0 _ 1 1 Tryz.underlying99 hi hz0 hz1 hz2 rfl (by omega) v (lwr (l.take k)).length ((lwr (l.take k)).map u8v) rfl (World.ownsRow.alloc HO.out _) ⟨wr.heap.size, 0, none⟩ 1 1 [_] rfl rfl (cell_one_new _ _ _) (by simp [Value.oneCell']) (by omega) (by rw [HLN.out]; unfold maxLen; omega) (by rw [HLN.out]; omega) (by simp; omega) (wr.heap.size + 1) (by simp) ?_; intro g1 cap1 w1 hown1 hgrow1 hat1 hlt1)
        have HO1 : Hid (Own8 w1 w.heap.size (.slice (some ⟨g1, 0, none⟩) ((lwr (l.take k)).length + 1) cap1) (lwr (l.take (k + 1)))) := Lib.hid (by
          unfold Own8; rw [HN.out, List.length_append, List.map_append]; exact hown1)
        have HB1 : Hid (Below w.heap.size w w1) := Lib.hid (((HB.out.alloc hwz _)).grown hgrow1 (by simp; omega) (fun k e => (World.ownsRow.lt HO.out k e).1))
        clear hown1 hgrow1 hat1 hlt1
        go_wp2_with fail
        go_roundg (gk - 1)
        case measure => omega
        case rel => exact ⟨_, k + 1, rfl, by omega, by go_num, by omega, HO1, HB1⟩
    · have hconv := conv_own HO.out
      rw [List.take_of_length_le (by rw [HSZ.out]; omega)] at hconv
      go_wp2_with fail
      go_ret
      exact ⟨rfl, HB.out⟩
end Go.Proofs.YtppabkllconkjaaGreatDoor.Lab
/- The iterator of labels: its contract. -/
namespace Go.Proofs.YtppabkllconkjaaGreatDoor.Lab
open Go.RowKit Go.Shelf
set_option linter.unusedVariables false
set_option linter.unusedSimpArgs false
set_option maxRecDepth 100000
attribute [local go_sem] Oper.semAt_some
def encI (x : Item) : Array Value := #[.int .i8 x.1, .string (str x.2)]
theorem row_len (e : Nat) : (row e).length = (lst e).length := by simp [row]
theorem row_take {e j : Nat} (h : j < (lst e).length) : (row e).take (j + 1) = (row e).take j ++ [((e : Int), (lst e)[j])] := by
  rw [List.take_add_one, List.getElem?_eq_getElem (by rw [row_len]; exact h)]
  simp [row]
theorem upto_pre : ∀ {e j : Nat}, e < 6 → ∃ t, allI = (upto e ++ (row e).take j) ++ t := by
  intro e j h
  have h1 : ∀ k, ∃ t, upto (e + k) = upto e ++ t := by
    intro k
    induction k with
    | zero => exact ⟨[], by simp⟩
    | succ k ih =>
      obtain ⟨t, ht⟩ := ih
      exact ⟨t ++ row (e + k), by rw [← Nat.add_assoc, upto_succ, ht, List.append_assoc]⟩
  have h2 : ∀ k, ∃ t, upto (e + 1 + k) = upto (e + 1) ++ t := by
    intro k
    induction k with
    | zero => exact ⟨[], by simp⟩
    | succ k ih =>
      obtain ⟨t, ht⟩ := ih
      exact ⟨t ++ row (e + 1 + k), by rw [← Nat.add_assoc, upto_succ, ht, List.append_assoc]⟩
  obtain ⟨t, ht⟩ := h2 (5 - e)
  rw [show e + 1 + (5 - e) = 6 by omega, upto_6, upto_succ] at ht
  refine ⟨(row e).drop j ++ t, ?_⟩
  rw [ht]
  simp only [List.append_assoc]
  rw [← List.append_assoc ((row e).take j), List.take_append_drop]
theorem pre_len {e j : Nat} (h : e < 6) (hj : j < (lst e).length) : (upto e ++ (row e).take j).length < 41 := by
  obtain ⟨t, ht⟩ := upto_pre (j := j + 1) h
  have := congrArg List.length ht
  rw [allI_len, row_take hj] at this
  simp only [List.length_append, List.length_cons, List.length_nil] at this ⊢
  omega
set_option maxRecDepth 100000 in
set_option maxHeartbeats 2000000 in
theorem labels1_in (n : Nat) (hn : 1 ≤ n) (lp n₀ : Nat) (J Jx : List Item → World → Prop)
    (hY : ∀ pre x W, J pre W → pre.length < 41 → YieldAt Fence.wide (n - 1) Tryz.prog lp (encI x) W fun e W' =>
      (e = .returned (.bool true) ∧ J (pre ++ [x]) W' ∧ Below n₀ W W') ∨ (e = .returned (.bool false) ∧ Jx (pre ++ [x]) W'))
    (W : World) (hg : GlN n₀ W) (h0 : J [] W) :
    CallsIn Fence.wide n Tryz.prog 174 #[.func (.yield lp) #[] #[]] W fun e W' => (∃ v, e = .returned v) ∧
      ((∃ ys : List Item, ys = allI ∧ J ys W') ∨ (∃ pre : List Item, (∃ t, allI = pre ++ t) ∧ Jx pre W')) := by
  have HG := Lib.hid hg
  have HYY := Lib.hid hY
  clear hg hY
  refine callsIn_of_wp Tryz.func174 rfl trivial ?_ rfl
  simp only [Tryz.ntmps174, List.size_toArray, List.length_cons, List.length_nil, Nat.reduceAdd, Nat.reduceSub, Array.replicate_succ, Array.replicate_zero, List.push_toArray, List.append_toArray, List.nil_append, List.cons_append]
  gi_wp2
  gi_loopw [5] (fun q5 wr => ∃ (e : Nat), q5 = .int .i8 e ∧ e ≤ 6 ∧ Hid (J (upto e) wr) ∧ Hid (Below n₀ W wr))
    (fun q5 _ => 6 - (intOf q5).toNat)
  case atStart => exact ⟨0, rfl, by omega, Lib.hid h0, Lib.hid (Below.refl _ _)⟩
  case round =>
    obtain ⟨e, rfl, he6, HJ, HB⟩ := hrel
    by_cases he : e < 6
    · obtain ⟨b, off, cap, hc0, hbn, hc1⟩ := HG.out.tab e he
      have hpos := HG.out.pos
      have hcs := (HB.out.cell (p := ⟨3, e, none⟩) (by show 3 < n₀; omega)).trans hc0
      have HC1 : Hid (∀ w2, Below n₀ W w2 → ∀ j (h : j < (lst e).length), w2.cell? ⟨b, off + j, none⟩ = some (.string (str (lst e)[j]))) := Lib.hid fun w2 hb j h => (hb.cell (p := ⟨b, off + j, none⟩) hbn).trans (hc1 j h)
      have hle := lst_len e
      obtain ⟨N, hN⟩ : ∃ N, (lst e).length = N := ⟨_, rfl⟩
      have HN := Lib.hid hN
      rw [hN] at hcs hle
      have hw1 : IntKind.i8.wrap ((e : Int) + 1) = (e : Int) + 1 := by
        rcases (by omega : e = 0 ∨ e = 1 ∨ e = 2 ∨ e = 3 ∨ e = 4 ∨ e = 5) with rfl | rfl | rfl | rfl | rfl | rfl <;> decide
      have he0 : (0 : Int) ≤ (e : Int) := by omega
      have hei : (e : Int) < 6 := by omega
      clear hc0 hc1 hN hbn hpos
      gi_wp2
      gi_loopw [12] (fun q12 wr => ∃ (j : Nat), q12 = .int .i64 j ∧ j ≤ N ∧ Hid (J (upto e ++ (row e).take j) wr) ∧ Hid (Below n₀ W wr))
        (fun q12 _ => N - (intOf q12).toNat)
      case atStart => exact ⟨0, rfl, by omega, Lib.hid (by simpa using HJ.out), HB⟩
      case round =>
        obtain ⟨j, rfl, hjN, HJ2, HB2⟩ := hrel
        by_cases hj : j < N
        · have hjl : j < (lst e).length := by rw [HN.out]; exact hj
          have hcx := HC1.out _ HB2.out j hjl
          have HT := Lib.hid (row_take hjl)
          obtain ⟨x, hx⟩ : ∃ x, (lst e)[j] = x := ⟨_, rfl⟩
          rw [hx] at hcx HT
          have hlen := pre_len he hjl
          have HP : Hid (∃ t, allI = (upto e ++ (row e).take j ++ [((e : Int), x)]) ++ t) := Lib.hid (by
            have := upto_pre (j := j + 1) he
            rw [HT.out] at this
            simpa [List.append_assoc] using this)
          obtain ⟨fn, tmps, assign, body, hy, hR⟩ := HYY.out _ ((e : Int), x) _ HJ2.out hlen
          have hexp : encI ((e : Int), x) = #[.int .i8 (e : Int), .string (str x)] := rfl
          rw [hexp] at hy
          clear hx hexp hlen hjl
          gi_wp2
          refine hR.mono ?_
          rintro e1 W3 (⟨rfl, hJ3, hk3⟩ | ⟨rfl, hJx3⟩)
          · have HJ3 : Hid (J (upto e ++ (row e).take (j + 1)) W3) := Lib.hid (by
              rw [HT.out, ← List.append_assoc]; exact hJ3)
            have HB3 : Hid (Below n₀ W W3) := Lib.hid (HB2.out.trans hk3)
            clear hJ3 hk3
            gi_wp2
            go_roundw
            case rel => exact ⟨j + 1, by go_num, by omega, HJ3, HB3⟩
            case measure => simp [intOf]; omega
          · gi_wp2
            refine bodyPost_ret (results_none rfl _ _ _) rfl ?_
            exact ⟨⟨_, rfl⟩, .inr ⟨_, HP.out, hJx3⟩⟩
        · have HJ4 : Hid (J (upto (e + 1)) wr) := Lib.hid (by
            have := HJ2.out
            rw [List.take_of_length_le (by rw [row_len, HN.out]; omega)] at this
            rw [upto_succ]; exact this)
          gi_wp2
          go_roundw
          case rel => exact ⟨e + 1, by go_num, by omega, HJ4, HB2⟩
          case measure => simp [intOf]; omega
    · obtain rfl : e = 6 := by omega
      gi_wp2
      go_end0
      exact ⟨⟨_, rfl⟩, .inl ⟨_, upto_6, HJ.out⟩⟩
theorem labels_in (n : Nat) (w : World) :
    CallsIn Fence.wide n Tryz.prog 151 #[] w fun e w' => e = .returned (.func (.func 174) #[] #[]) ∧ w' = w := by
  refine callsIn_of_wp Tryz.func151 rfl trivial ?_ rfl
  simp only [Tryz.ntmps151, List.size_toArray, List.length_cons, List.length_nil, Nat.reduceAdd, Nat.reduceSub, Array.replicate_succ, Array.replicate_zero, List.push_toArray, List.append_toArray, List.nil_append, List.cons_append]
  gi_wp2
  go_ret
  exact ⟨rfl, rfl⟩
theorem labels_stops (n : Nat) (hn : 1 ≤ n) (n₀ : Nat) (w : World) (hg : GlN n₀ w) :
    SeqStopsK Fence.wide n Tryz.prog 174 #[] encI (Below n₀) (fun ys : List Item => ys = allI) (fun pre : List Item => ∃ t, allI = pre ++ t) 41 w := fun l J Jx W hW _ _ hY h0 =>
  labels1_in n hn l n₀ J Jx hY W (GlN.below hg hW hg.size) h0
end Go.Proofs.YtppabkllconkjaaGreatDoor.Lab
/- The contracts of Of, Name, All: ranges over the iterator. -/
namespace Go.Proofs.YtppabkllconkjaaGreatDoor.Lab
open Go.RowKit Go.Shelf
set_option linter.unusedVariables false
set_option linter.unusedSimpArgs false
set_option maxRecDepth 100000
attribute [local go_sem] Oper.semAt_some
theorem boxed_putObj {W : World} {B D : Nat} {t : TypeId} {v : Value} (h : Boxed W B t v) (o : Obj) (hne : B ≠ D) : Boxed (W.putObj D o) B t v :=
  h.kept (grownBy_putObj' W D o) (fun e => hne (by cases e; rfl))
end Go.Proofs.YtppabkllconkjaaGreatDoor.Lab
/- The contracts of white space and of Trim, the program's and the document's own. -/
namespace Go.Proofs.YtppabkllconkjaaGreatDoor.Lab
open Go.RowKit
set_option linter.unusedVariables false
set_option linter.unusedSimpArgs false
set_option maxRecDepth 100000
theorem extract_list (s : ByteArray) (a e : Nat) : s.extract a e = str ((s.data.toList.drop a).take (e - a)) := by
  apply ByteArray.ext
  rw [ByteArray.data_extract]
  apply Array.ext'
  show (s.data.extract a e).toList = _
  rw [Array.toList_extract, List.extract_eq_take_drop]
  rfl
theorem slice_law (s : ByteArray) {l x : List UInt8} (a e : Nat) (h1 : a ≤ e) (h2 : e ≤ s.size) (hl : s.data.toList = l) (hx : x = (l.drop a).take (e - a)) (w0 : World) :
    (Instr.slice 9 (.string s) (some (.int .i64 (a : Int))) (some (.int .i64 (e : Int))) none).run Tryz.prog w0 = .ok (.string (str x)) w0 := by
  rw [run_slice_string_if w0 9 s .i64 .i64 _ _ Tryz.underlying9, if_pos (by omega), if_pos (by omega), hx, ← hl, ← extract_list]
  rfl
set_option maxHeartbeats 1600000 in
theorem trim_any (s : ByteArray) (w : World) (hs : s.size ≤ maxLen) : Calls Tryz.prog 150 #[.string s] w fun e w' => RetS (trm s.data.toList) w e w' := by
  unfold maxLen at hs
  have hsz : s.data.toList.length = s.size := by simp
  obtain ⟨l, HL⟩ : ∃ l, Hid (s.data.toList = l) := ⟨_, Lib.hid rfl⟩
  have HSZ : Hid (l.length = s.size) := Lib.hid (by rw [← HL.out]; exact hsz)
  have HE : Hid (∀ k (h : k < s.size), l[k]'(by rw [HSZ.out]; exact h) = s[k]) := Lib.hid (by
    intro k h
    have e := HL.out
    subst e
    rfl)
  rw [HL.out]
  clear hsz
  have hB0 : Below w.heap.size w (w.alloc (.cells #[.string s] 9)) := (Below.refl _ w).alloc (Nat.le_refl _) _
  have hC0 : (w.alloc (.cells #[.string s] 9)).cell? ⟨w.heap.size, 0, none⟩ = some (.string s) := (Blk.new w _ _).cell 0
  have HB0 := Lib.hid hB0
  have HC0 := Lib.hid hC0
  clear hB0 hC0
  go_enter Tryz.func150, Tryz.ntmps150
  go_wp2_with fail
  go_quiet (fail)
  go_wp2_with fail
  go_loopg [3] (s.size + 1) (fun g q wr => ∃ (i : Nat), i + g = s.size + 1 ∧ q = .int .i64 i ∧ i ≤ s.size ∧ Hid (Up l i) ∧ Hid (Below w.heap.size w wr) ∧ wr.cell? ⟨w.heap.size, 0, none⟩ = some (.string s))
  case atStart => exact ⟨0, by omega, rfl, by omega, Lib.hid (Up.start _), Lib.hid (below_draws HB0.out _), HC0.out⟩
  case round =>
    obtain ⟨i, hig, rfl, hi7, HU, HB, hc⟩ := hrel
    by_cases hlt : i < s.size
    · have hlt2 : (i : Int) < (s.size : Int) := by omega
      have hk0 : (0 : Int) ≤ (i : Int) := by omega
      obtain ⟨b, hb⟩ : ∃ b, isW s[i] = b := ⟨_, rfl⟩
      cases b
      · have HD : Hid (Dn l i s.size) := Lib.hid (by
          have := HU.out.down (fun h => by rw [HE.out i hlt]; exact hb)
          rwa [HSZ.out] at this)
        go_wp2_with (go_at_call 173; refine (isWhite_any s w.heap.size i hlt wr hc).mono ?_; rintro e w1 ⟨rfl, rfl⟩)
        clear hlt2 hk0 hb
        go_loopg [4] (s.size + 1) (fun g q wr => ∃ (e : Nat), e + 1 = g ∧ q = .int .i64 e ∧ i ≤ e ∧ e ≤ s.size ∧ Hid (Dn l i e) ∧ Hid (Below w.heap.size w wr) ∧ wr.cell? ⟨w.heap.size, 0, none⟩ = some (.string s))
        case atStart => exact ⟨s.size, rfl, rfl, hi7, Nat.le_refl _, HD, HB, hc⟩
        case round =>
          obtain ⟨e, hge, rfl, hie, hes, HD, HB, hc⟩ := hrel
          by_cases hlt : i < e
          · obtain ⟨k, rfl⟩ : ∃ k, e = k + 1 := ⟨e - 1, by omega⟩
            have hks : k < s.size := by omega
            have hw1 : ((k + 1 : Nat) : Int) - 1 = (k : Int) := by omega
            have hw2 : (k : Int) + 1 - 1 = (k : Int) := by omega
            have hw3 : IntKind.i64.wrap ((k : Int)) = k := by rw [IntKind.wrap_i64]; unfold maxLen at *; omega
            have hk0 : (0 : Int) ≤ (k : Int) := by omega
            have hk3 : (k : Int) < (s.size : Int) := by omega
            have hlt2 : (i : Int) < (k : Int) + 1 := by omega
            obtain ⟨b, hb⟩ : ∃ b, isW s[k] = b := ⟨_, rfl⟩
            cases b
            · have HT : Hid (trm l = (l.drop i).take (k + 1 - i)) := Lib.hid (HD.out.done fun _ => by simp only [Nat.add_sub_cancel]; rw [HE.out k hks]; exact hb)
              have hsl := slice_law s i (k + 1) (by omega) (by omega) HL.out HT.out
              push_cast at hsl
              go_wp2_with (go_at_call 173; refine (isWhite_any s w.heap.size k hks wr hc).mono ?_; rintro e w1 ⟨rfl, rfl⟩)
              go_ret
              exact ⟨rfl, HB.out⟩
            · have HD2 : Hid (Dn l i k) := Lib.hid (HD.out.step hlt (by simp only [Nat.add_sub_cancel]; rw [HE.out k hks]; exact hb))
              go_wp2_with (go_at_call 173; refine (isWhite_any s w.heap.size k hks wr hc).mono ?_; rintro e w1 ⟨rfl, rfl⟩)
              go_roundg (gk - 1)
              case measure => omega
              case rel => exact ⟨k, by omega, by go_num, by omega, by omega, HD2, HB, hc⟩
          · obtain rfl : e = i := by omega
            have HT : Hid (trm l = (l.drop e).take (e - e)) := Lib.hid (HD.out.done fun h => absurd h (by omega))
            have hsl := slice_law s e e (by omega) (by omega) HL.out HT.out
            go_wp2_with fail
            go_ret
            exact ⟨rfl, HB.out⟩
      · have HU2 : Hid (Up l (i + 1)) := Lib.hid (HU.out.step (by rw [HSZ.out]; exact hlt) (by rw [HE.out i hlt]; exact hb))
        go_wp2_with (go_at_call 173; refine (isWhite_any s w.heap.size i hlt wr hc).mono ?_; rintro e w1 ⟨rfl, rfl⟩)
        go_roundg (gk - 1)
        case measure => omega
        case rel => exact ⟨i + 1, by omega, by go_num, by omega, HU2, HB, hc⟩
    · have HD : Hid (Dn l i s.size) := Lib.hid (by
        have := HU.out.down (fun h => absurd h (by rw [HSZ.out]; exact hlt))
        rwa [HSZ.out] at this)
      go_wp2_with fail
      go_loopg [4] (s.size + 1) (fun g q wr => ∃ (e : Nat), e + 1 = g ∧ q = .int .i64 e ∧ i ≤ e ∧ e ≤ s.size ∧ Hid (Dn l i e) ∧ Hid (Below w.heap.size w wr) ∧ wr.cell? ⟨w.heap.size, 0, none⟩ = some (.string s))
      case atStart => exact ⟨s.size, rfl, rfl, hi7, Nat.le_refl _, HD, HB, hc⟩
      case round =>
        obtain ⟨e, hge, rfl, hie, hes, HD, HB, hc⟩ := hrel
        by_cases hlt : i < e
        · obtain ⟨k, rfl⟩ : ∃ k, e = k + 1 := ⟨e - 1, by omega⟩
          have hks : k < s.size := by omega
          have hw1 : ((k + 1 : Nat) : Int) - 1 = (k : Int) := by omega
          have hw2 : (k : Int) + 1 - 1 = (k : Int) := by omega
          have hw3 : IntKind.i64.wrap ((k : Int)) = k := by rw [IntKind.wrap_i64]; unfold maxLen at *; omega
          have hk0 : (0 : Int) ≤ (k : Int) := by omega
          have hk3 : (k : Int) < (s.size : Int) := by omega
          have hlt2 : (i : Int) < (k : Int) + 1 := by omega
          obtain ⟨b, hb⟩ : ∃ b, isW s[k] = b := ⟨_, rfl⟩
          cases b
          · have HT : Hid (trm l = (l.drop i).take (k + 1 - i)) := Lib.hid (HD.out.done fun _ => by simp only [Nat.add_sub_cancel]; rw [HE.out k hks]; exact hb)
            have hsl := slice_law s i (k + 1) (by omega) (by omega) HL.out HT.out
            push_cast at hsl
            go_wp2_with (go_at_call 173; refine (isWhite_any s w.heap.size k hks wr hc).mono ?_; rintro e w1 ⟨rfl, rfl⟩)
            go_ret
            exact ⟨rfl, HB.out⟩
          · have HD2 : Hid (Dn l i k) := Lib.hid (HD.out.step hlt (by simp only [Nat.add_sub_cancel]; rw [HE.out k hks]; exact hb))
            go_wp2_with (go_at_call 173; refine (isWhite_any s w.heap.size k hks wr hc).mono ?_; rintro e w1 ⟨rfl, rfl⟩)
            go_roundg (gk - 1)
            case measure => omega
            case rel => exact ⟨k, by omega, by go_num, by omega, by omega, HD2, HB, hc⟩
        · obtain rfl : e = i := by omega
          have HT : Hid (trm l = (l.drop e).take (e - e)) := Lib.hid (HD.out.done fun h => absurd h (by omega))
          have hsl := slice_law s e e (by omega) (by omega) HL.out HT.out
          go_wp2_with fail
          go_ret
          exact ⟨rfl, HB.out⟩

end Go.Proofs.YtppabkllconkjaaGreatDoor.Lab
/- The contract of Of: a range over the iterator. -/
namespace Go.Proofs.YtppabkllconkjaaGreatDoor.Lab
open Go.RowKit Go.Shelf
set_option linter.unusedVariables false
set_option linter.unusedSimpArgs false
set_option maxRecDepth 100000
attribute [local go_sem] Oper.semAt_some
theorem of_yes {p : List UInt8} {t : List Item} {x : Item} (h : ∃ u, allI = (t ++ [x]) ++ u) (ht : ∀ q ∈ t, q.2 ≠ p) (hx : x.2 = p) : ofP p = (x.1, true) := by
  obtain ⟨u, hu⟩ := h
  have : allI.find? (fun x => x.2 == p) = some x := by
    rw [hu, List.append_assoc, List.find?_append, List.find?_eq_none.2 (by intro q hq; simpa using ht q hq)]
    simp [hx]
  unfold ofP; rw [this]
theorem of_no {p : List UInt8} (h : ∀ q ∈ allI, q.2 ≠ p) : ofP p = (0, false) := by
  unfold ofP; rw [List.find?_eq_none.2 (by intro q hq; simpa using h q hq)]
def OfS (w : World) (o : Int × Bool) (r : Ending) (w' : World) : Prop := r = .returned (.tuple #[.int .i8 o.1, .bool o.2]) ∧ Below w.heap.size w w'
theorem toList_str (x : List UInt8) : (str x).toList = x := by
  rw [ByteArray.toList_eq]; rfl
set_option maxRecDepth 100000 in
set_option maxHeartbeats 4000000 in
theorem of_any (s : ByteArray) (w : World) (hg : Gl w) (hs : s.size ≤ maxLen) : Calls Tryz.prog 121 #[.string s] w fun r w' => OfS w (ofL s.data.toList) r w' := by
  have HT : Hid (∀ w, Calls Tryz.prog 150 #[.string s] w fun r w' => RetS (trm s.data.toList) w r w') := Lib.hid fun w => trim_any s w hs
  have HL : Hid (∀ w, Calls Tryz.prog 149 #[.string (str (trm s.data.toList))] w fun r w' => RetS (lwr (trm s.data.toList)) w r w') := Lib.hid fun w => by
    have := lower_any (str (trm s.data.toList)) w (by
      rw [str_size]
      have h1 := trm_len s.data.toList
      have h2 : s.data.toList.length = s.size := by simp
      omega)
    rwa [str_list] at this
  obtain ⟨t, ht⟩ : ∃ t, trm s.data.toList = t := ⟨_, rfl⟩
  obtain ⟨p, hp⟩ : ∃ p, lwr t = p := ⟨_, rfl⟩
  have HP : Hid (ofL s.data.toList = ofP p) := Lib.hid (by unfold ofL; rw [ht, hp])
  rw [ht] at HT HL
  rw [hp] at HL
  rw [HP.out]
  clear ht hp
  refine (callsIn_wide (n := 5)).1 ?_
  have h2 := hg.pos
  have HG := Lib.hid hg
  clear hg
  have bR0 := Boxed.new w 23 (.int .i8 0)
  have bR1 := Boxed.new (w.alloc (.cells #[.int .i8 0] 23)) 4 (.bool false)
  rw [World.size_alloc] at bR1
  have hB0 : Below w.heap.size w ((w.alloc (.cells #[.int .i8 0] 23)).alloc (.cells #[.bool false] 4)) := ((Below.refl _ w).alloc (Nat.le_refl _) _).alloc (by simp) _
  have HR0 := Lib.hid (bR0.alloc (.cells #[.bool false] 4))
  have HR1 := Lib.hid bR1
  have HB0 := Lib.hid hB0
  clear bR0 bR1 hB0
  refine callsIn_of_wp_marks Tryz.func121 rfl trivial ?_ rfl
  simp only [Tryz.ntmps121, List.size_toArray, List.length_cons, List.length_nil, Nat.reduceAdd, Nat.reduceSub, Array.replicate_succ, Array.replicate_zero, List.push_toArray, List.append_toArray, List.nil_append, List.cons_append]
  gi_wp2_with (first
    | (refine ⟨trivial, ?_⟩; gi_at_call 150; refine (callsIn_wide.2 (HT.out _)).mono ?_; rintro r w1 ⟨rfl, hb1⟩; have HB1 := Lib.hid hb1; clear hb1 HT)
    | (refine ⟨trivial, ?_⟩; gi_at_call 149; refine (callsIn_wide.2 (HL.out _)).mono ?_; rintro r w2 ⟨rfl, hb2⟩; have HB2 := Lib.hid (below_call HB1.out hb2); clear hb2 HL)
    | (refine ⟨trivial, ?_⟩; gi_at_call 151; refine (labels_in _ _).mono ?_; rintro e w' ⟨rfl, rfl⟩))
  have bP := Boxed.new w2 9 (.string (str p))
  have hw2 := HB2.out.size
  have hw20 : w.heap.size + 1 < w2.heap.size := by simp at hw2; omega
  have k0 : Boxed w2 w.heap.size 23 (.int .i8 0) := (HB2.out.block _ (by simp; omega)).trans HR0.out
  have k1 : Boxed w2 (w.heap.size + 1) 4 (.bool false) := (HB2.out.block _ (by simp)).trans HR1.out
  have hB3 : Below w.heap.size w (w2.alloc (.cells #[.string (str p)] 9)) := (HB0.out.trans (HB2.out.mono (by simp; omega))).alloc (by omega) _
  refine wpIn_rangeFunc_ownG rfl (by omega) (gf := 174) (lb := #[]) rfl trivial (enters_of Tryz.func174 (by kernel_rfl) rfl)
    (labels_stops 4 (by omega) w.heap.size _ (GlN.below HG.out hB3 (Nat.le_refl _))) Below.trans (belowK_b (by simp; omega)) (Below.refl _ _) (fun _ => rfl)
    (fun pre W => (∀ q ∈ pre, q.2 ≠ p) ∧ Boxed W w.heap.size 23 (.int .i8 0) ∧ Boxed W (w.heap.size + 1) 4 (.bool false) ∧ Boxed W w2.heap.size 9 (.string (str p)) ∧ Below w.heap.size w W)
    (fun c pre W => ∃ t x, (c = .ret ∧ pre = t ++ [x] ∧ x.2 = p ∧ ∀ q ∈ t, q.2 ≠ p) ∧ Boxed W w.heap.size 23 (.int .i8 x.1) ∧ Boxed W (w.heap.size + 1) 4 (.bool true) ∧ Below w.heap.size w W)
    (OwnFrom.and (ownFrom_pure _ _) (OwnFrom.and (Own.from (boxed_own _ _ _) _) (OwnFrom.and (Own.from (boxed_own _ _ _) _) (OwnFrom.and (Own.from (boxed_own _ _ _) _) (ownFrom_below (Nat.le_refl _) (by simp; omega))))))
    ?ixown
    ⟨by simp, k0.alloc _, k1.alloc _, bP, hB3⟩
    (fun x => { tmps := #[.string s, undef, .pointer (some ⟨w.heap.size, 0, none⟩), .pointer (some ⟨w.heap.size + 1, 0, none⟩), .pointer (some ⟨w2.heap.size, 0, none⟩), .int .i8 x.1, .string (str x.2), .string s, .string (str t), .string (str p), .func (.func 174) #[] #[], .int .i8 x.1, .string (str x.2), undef, undef, undef, undef], defers := [] }) ?assign ?body ?done ?stop
  case ixown =>
    intro c s A B row hs hg hr
    obtain ⟨t, x, h1, h2, h3, h4⟩ := hs
    exact ⟨t, x, h1, (OwnFrom.and (Own.from (boxed_own _ _ _) _) (OwnFrom.and (Own.from (boxed_own _ _ _) _) (ownFrom_below (Nat.le_refl _) (by simp; omega))) : OwnFrom _ (fun (_ : List Item) W => Boxed W w.heap.size 23 (.int .i8 x.1) ∧ Boxed W (w.heap.size + 1) 4 (.bool true) ∧ Below w.heap.size w W)) s A B row ⟨h2, h3, h4⟩ hg hr⟩
  case assign =>
    intro l x W K hK
    simp only [encI]
    gi_wp2
    exact hK
  case body =>
    rintro l pre x W ⟨hp, hb0, hb1, hbp, hB⟩ _
    have HQ := Lib.hid hp
    have HB := Lib.hid hB
    have H0 := Lib.hid hb0
    have H1 := Lib.hid hb1
    have HBP := Lib.hid hbp
    have c0 := hb0.cell
    have c1 := hb1.cell
    have f0 := hb0.frozen
    have f1 := hb1.frozen
    have cp := hbp.cell
    clear hp hB hb0 hb1 hbp
    by_cases hx : x.2 = p
    · have hxb : (str x.2).toList = (str p).toList := by rw [hx]
      have HX := Lib.hid hx
      clear hx
      gi_wp2
      exact ⟨((KeepsOthers.setCell _ _ _).trans (KeepsOthers.setCell _ _ _)).from _, _, x, ⟨rfl, rfl, HX.out, HQ.out⟩, (H0.out.set _).other (by omega) _, (H1.out.other (by omega) _).set _, (HB.out.setCell (p := ⟨w.heap.size, 0, none⟩) (Nat.le_refl _) _).setCell (p := ⟨w.heap.size + 1, 0, none⟩) (by simp) _⟩
    · have hxb : ¬ (str x.2).toList = (str p).toList := fun h => hx (by rwa [toList_str, toList_str] at h)
      have HX := Lib.hid hx
      clear hx
      gi_wp2
      · rename_i hbad
        exact (hxb (eq_of_beq hbad)).elim
      exact ⟨KeepsFrom.refl _ _, Below.refl _ _, fun q hq => (List.mem_append.1 hq).elim (HQ.out q) (fun e => by simp at e; subst e; exact HX.out), H0.out, H1.out, HBP.out, HB.out⟩
  case done =>
    rintro D ys W hD rfl ⟨hne, hb0, hb1, -, hB⟩ hK
    have HN := Lib.hid (of_no hne)
    have HB := Lib.hid hB
    have H0 := Lib.hid hb0
    have H1 := Lib.hid hb1
    have c0 := hb0.cell
    have c1 := hb1.cell
    have f0 := hb0.frozen
    have f1 := hb1.frozen
    have hd1 : w.heap.size + 1 < D := by simp at hD; omega
    clear hne hb0 hb1 hB
    gi_wp2
    have hK' := ((KeepsOthers.setCell W ⟨w.heap.size, 0, none⟩ (.int .i8 0)).trans (KeepsOthers.setCell _ ⟨w.heap.size + 1, 0, none⟩ (.bool false))).same D _ hK rfl
    have h0 := (boxed_putObj ((H0.out.set (.int .i8 0)).other (B' := w.heap.size + 1) (by omega) (.bool false)) (.deferred none) (show w.heap.size ≠ D by omega)).cell
    have h1 := (boxed_putObj ((H1.out.other (B' := w.heap.size) (by omega) (.int .i8 0)).set (.bool false)) (.deferred none) (show w.heap.size + 1 ≠ D by omega)).cell
    refine ⟨by simp, .inl ⟨_, _, rfl, run_takeDeferred hK', ?_⟩⟩
    refine ⟨.tuple #[.int .i8 0, .bool false], ?_, by rw [HN.out], ((HB.out.setCell (p := ⟨w.heap.size, 0, none⟩) (Nat.le_refl _) _).setCell (p := ⟨w.heap.size + 1, 0, none⟩) (by simp) _).trans (belowK_b (w := w) (Nat.le_refl _) _ D _ _ (by omega) hK' rfl rfl)⟩
    simp [results, Tryz.f121, go_sem, h0, h1]
  case stop =>
    rintro D c pre W hD hsp ⟨t, x, ⟨rfl, rfl, hx, ht⟩, hb0, hb1, hB⟩ hK
    have HN := Lib.hid (of_yes hsp ht hx)
    have HB := Lib.hid hB
    have H0 := Lib.hid hb0
    have H1 := Lib.hid hb1
    have hd1 : w.heap.size + 1 < D := by simp at hD; omega
    clear hsp hx ht hb0 hb1 hB
    gi_wp2
    refine ⟨by simp, .inl ⟨_, _, rfl, run_takeDeferred hK, ?_⟩⟩
    have h0 := (boxed_putObj H0.out (.deferred none) (show w.heap.size ≠ D by omega)).cell
    have h1 := (boxed_putObj H1.out (.deferred none) (show w.heap.size + 1 ≠ D by omega)).cell
    refine ⟨.tuple #[.int .i8 x.1, .bool true], ?_, by rw [HN.out], HB.out.trans (belowK_b (w := w) (Nat.le_refl _) W D _ _ (by omega) hK rfl rfl)⟩
    simp [results, Tryz.f121, go_sem, h0, h1]
end Go.Proofs.YtppabkllconkjaaGreatDoor.Lab
