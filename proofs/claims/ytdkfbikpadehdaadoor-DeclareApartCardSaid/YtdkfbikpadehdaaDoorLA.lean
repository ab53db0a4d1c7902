/- The labels: their table, what is asked of it, slices of texts. -/
import Derived.Test.YtdkfbikpadehdaaDoorLM
namespace Go.Proofs.YtdkfbikpadehdaaDoor.Lab
open Go.RowKit
set_option linter.unusedVariables false
set_option linter.unusedSimpArgs false
/-- The labels of an encoding, by the chapter's table. -/
def lst : Nat → List (List UInt8)
  | 0 => [[117, 116, 102, 45, 56], [117, 116, 102, 56], [117, 110, 105, 99, 111, 100, 101, 45, 49, 45, 49, 45, 117, 116, 102, 45, 56], [117, 110, 105, 99, 111, 100, 101, 49, 49, 117, 116, 102, 56], [120, 45, 117, 110, 105, 99, 111, 100, 101, 50, 48, 117, 116, 102, 56]]
  | 1 => [[117, 116, 102, 45, 49, 54], [117, 116, 102, 45, 49, 54, 108, 101], [117, 99, 115, 45, 50], [105, 115, 111, 45, 49, 48, 54, 52, 54, 45, 117, 99, 115, 45, 50], [99, 115, 117, 110, 105, 99, 111, 100, 101], [117, 110, 105, 99, 111, 100, 101], [117, 110, 105, 99, 111, 100, 101, 102, 101, 102, 102]]
  | 2 => [[117, 116, 102, 45, 49, 54, 98, 101], [117, 110, 105, 99, 111, 100, 101, 102, 102, 102, 101]]
  | 3 => [[119, 105, 110, 100, 111, 119, 115, 45, 49, 50, 53, 50], [99, 112, 49, 50, 53, 50], [120, 45, 99, 112, 49, 50, 53, 50], [97, 115, 99, 105, 105], [117, 115, 45, 97, 115, 99, 105, 105], [97, 110, 115, 105, 95, 120, 51, 46, 52, 45, 49, 57, 54, 56], [105, 115, 111, 45, 56, 56, 53, 57, 45, 49], [105, 115, 111, 56, 56, 53, 57, 45, 49], [105, 115, 111, 95, 56, 56, 53, 57, 45, 49], [105, 115, 111, 56, 56, 53, 57, 49], [108, 97, 116, 105, 110, 49], [108, 49], [99, 112, 56, 49, 57], [105, 98, 109, 56, 49, 57], [99, 115, 105, 115, 111, 108, 97, 116, 105, 110, 49]]
  | 4 => [[105, 115, 111, 45, 56, 56, 53, 57, 45, 53], [105, 115, 111, 56, 56, 53, 57, 45, 53], [105, 115, 111, 95, 56, 56, 53, 57, 45, 53], [105, 115, 111, 56, 56, 53, 57, 53], [99, 121, 114, 105, 108, 108, 105, 99], [99, 115, 105, 115, 111, 108, 97, 116, 105, 110, 99, 121, 114, 105, 108, 108, 105, 99]]
  | 5 => [[105, 115, 111, 45, 56, 56, 53, 57, 45, 49, 53], [105, 115, 111, 56, 56, 53, 57, 45, 49, 53], [105, 115, 111, 95, 56, 56, 53, 57, 45, 49, 53], [105, 115, 111, 56, 56, 53, 57, 49, 53], [108, 57], [99, 115, 105, 115, 111, 108, 97, 116, 105, 110, 57]]
  | _ => []
abbrev Item := Int × List UInt8
def row (e : Nat) : List Item := (lst e).map fun x => ((e : Int), x)
def allI : List Item := row 0 ++ row 1 ++ row 2 ++ row 3 ++ row 4 ++ row 5
/-- The first e rows. -/
def upto (e : Nat) : List Item := (List.range e).flatMap row
theorem upto_succ (e : Nat) : upto (e + 1) = upto e ++ row e := by
  unfold upto; rw [List.range_succ, List.flatMap_append]; simp
theorem upto_6 : upto 6 = allI := by decide
/-- The encoding that has a label that is plain already. -/
def ofP (p : List UInt8) : Int × Bool := match allI.find? (fun x => x.2 == p) with | some x => (x.1, true) | none => (0, false)
def ofL (l : List UInt8) : Int × Bool := ofP (lwr (trm l))
def nameL (e : Int) : List UInt8 := match allI.find? (fun x => x.1 == e) with | some x => x.2 | none => []
def allL (e : Int) : List (List UInt8) := (allI.filter (fun x => x.1 == e)).map (·.2)
theorem lst_len (e : Nat) : (lst e).length ≤ 15 := by
  match e with
  | 0 | 1 | 2 | 3 | 4 | 5 => decide
  | n + 6 => exact Nat.zero_le _
theorem allI_len : allI.length = 41 := by decide
theorem inE {e : Int} (h : 0 ≤ e ∧ e < 6) : e = 0 ∨ e = 1 ∨ e = 2 ∨ e = 3 ∨ e = 4 ∨ e = 5 := by omega
theorem allL_in {e : Nat} (h : e < 6) : allL (e : Int) = lst e := by
  have : e = 0 ∨ e = 1 ∨ e = 2 ∨ e = 3 ∨ e = 4 ∨ e = 5 := by omega
  rcases this with rfl | rfl | rfl | rfl | rfl | rfl <;> decide
theorem first_in : ∀ x ∈ allI, 0 ≤ x.1 ∧ x.1 < 6 := by decide
theorem allL_out {e : Int} (h : ¬ (0 ≤ e ∧ e < 6)) : allL e = [] := by
  unfold allL
  have : allI.filter (fun x => x.1 == e) = [] := by
    rw [List.filter_eq_nil_iff]
    intro x hx hxe
    have := first_in x hx
    simp at hxe
    omega
  rw [this]; rfl
theorem nameL_head (e : Int) : nameL e = (allL e).headD [] := by
  unfold nameL allL
  rw [← List.head?_filter]
  cases h : allI.filter (fun x => x.1 == e) with
  | nil => rfl
  | cons a t => rfl
theorem nameL_out {e : Int} (h : ¬ (0 ≤ e ∧ e < 6)) : nameL e = [] := by rw [nameL_head, allL_out h]; rfl
theorem allL_len (e : Int) : (allL e).length ≤ 15 := by
  by_cases h : 0 ≤ e ∧ e < 6
  · obtain ⟨n, rfl⟩ := Int.eq_ofNat_of_zero_le h.1
    rw [allL_in (by have := h.2; omega)]; exact lst_len n
  · rw [allL_out h]; exact Nat.zero_le _
/-- No label twice. -/
theorem nodup_lab : (allI.map (·.2)).Nodup := by decide +kernel
theorem ofP_row : ∀ x ∈ allI, ofP x.2 = (x.1, true) := by decide +kernel
theorem allL_mem {e : Int} {x : List UInt8} (h : x ∈ allL e) : (e, x) ∈ allI := by
  unfold allL at h
  obtain ⟨y, hy, rfl⟩ := List.mem_map.1 h
  obtain ⟨h1, h2⟩ := List.mem_filter.1 hy
  have : y.1 = e := by simpa using h2
  obtain ⟨a, b⟩ := y
  simp at this
  subst this
  exact h1
theorem once_enc {a b : Int} {x : List UInt8} (ha : x ∈ allL a) (hb : x ∈ allL b) : a = b := by
  have h1 := ofP_row _ (allL_mem ha)
  have h2 := ofP_row _ (allL_mem hb)
  simp only at h1 h2
  have := h1.symm.trans h2
  simpa using this
theorem allL_nodup (e : Int) : (allL e).Nodup := by
  unfold allL
  exact (List.Sublist.map _ List.filter_sublist).nodup nodup_lab
theorem once_at {e : Int} {i j : Nat} (hi : i < (allL e).length) (hj : j < (allL e).length) (h : (allL e)[i] = (allL e)[j]) : i = j :=
  (List.getElem_inj (allL_nodup e)).1 h
/-- No letter of a label is upper case, no byte of it white, none is empty. -/
theorem plain_lab : ∀ x ∈ allI, x.2 ≠ [] ∧ ∀ c ∈ x.2, isW c = false ∧ lo c = c ∧ c < 128 := by decide +kernel
theorem len_lab : ∀ x ∈ allI, x.2.length ≤ 20 := by decide +kernel
/-- The letters of which it is told as upper case. -/
def up1 (b : Bool) (c : UInt8) : UInt8 := if b = true ∧ 97 ≤ c ∧ c ≤ 122 then c - 32 else c
theorem lo_up {b : Bool} {c : UInt8} (h : lo c = c) : lo (up1 b c) = c := by
  have : ∀ (b : Bool) (c : Fin 256), lo (UInt8.ofNat c) = UInt8.ofNat c → lo (up1 b (UInt8.ofNat c)) = UInt8.ofNat c := by decide +kernel
  have k := this b ⟨c.toNat, c.toNat_lt⟩
  simp only [UInt8.ofNat_toNat] at k
  exact k h
theorem isW_up (b : Bool) (c : UInt8) : isW (up1 b c) = isW c := by
  have : ∀ (b : Bool) (c : Fin 256), isW (up1 b (UInt8.ofNat c)) = isW (UInt8.ofNat c) := by decide +kernel
  have k := this b ⟨c.toNat, c.toNat_lt⟩
  simpa using k
/-- The law: a label, its letters written either way, white space about it. -/
theorem written {e : Int} {x y a b : List UInt8} (hx : x ∈ allL e) (hl : y.length = x.length) (hy : ∀ i (h : i < x.length), ∃ u, y[i]'(by omega) = up1 u x[i]) (ha : ∀ c ∈ a, isW c = true) (hb : ∀ c ∈ b, isW c = true) : ofL (a ++ y ++ b) = (e, true) := by
  have hm := allL_mem hx
  obtain ⟨hne, hpl⟩ := plain_lab _ hm
  simp only at hne hpl
  have hyw : ∀ c ∈ y, isW c = false := by
    intro c hc
    obtain ⟨i, hi, rfl⟩ := List.getElem_of_mem hc
    obtain ⟨u, hu⟩ := hy i (by omega)
    rw [hu, isW_up]
    exact (hpl _ (List.getElem_mem _)).1
  have hyne : y ≠ [] := fun e => hne (List.eq_nil_of_length_eq_zero (by rw [← hl, e]; rfl))
  have h1 : trm (a ++ y ++ b) = y := trm_mid ha hb (fun c hc => hyw c (List.mem_of_head? hc)) (fun c hc => hyw c (List.mem_of_getLast? hc)) hyne
  have h2 : lwr y = x := by
    apply List.ext_getElem
    · simp [lwr, hl]
    · intro i h3 h4
      obtain ⟨u, hu⟩ := hy i h4
      simp only [lwr, List.getElem_map, hu]
      exact lo_up (hpl _ (List.getElem_mem _)).2.1
  unfold ofL
  rw [h1, h2]
  exact ofP_row _ hm
theorem name_mem {e : Int} (h : allL e ≠ []) : nameL e ∈ allL e := by
  rw [nameL_head]
  cases hx : allL e with
  | nil => exact absurd hx h
  | cons a t => simp
theorem of_name {e : Int} (h : allL e ≠ []) : ofL (nameL e) = (e, true) := by
  have := written (name_mem h) (y := nameL e) (a := []) (b := []) rfl (fun i hi => ⟨false, by simp [up1]⟩) (by simp) (by simp)
  simpa using this
/-- A string of bytes. -/
def str (xs : List UInt8) : ByteArray := ⟨xs.toArray⟩
theorem str_list (xs : List UInt8) : (str xs).data.toList = xs := rfl
theorem str_size (xs : List UInt8) : (str xs).size = xs.length := by simp [str, ByteArray.size]
theorem str_eta (s : ByteArray) : str s.data.toList = s := by simp [str]
theorem str_inj {a b : List UInt8} (h : str a = str b) : a = b := by
  have := congrArg (fun s : ByteArray => s.data.toList) h
  simpa [str_list] using this
/-- v is a slice of texts that reads as xs. -/
def Strs (w : World) (v : Value) (xs : List (List UInt8)) : Prop :=
  (xs = [] ∧ ∃ p cap, v = .slice p 0 cap) ∨ (∃ b off cap, v = .slice (some ⟨b, off, none⟩) xs.length cap ∧ b < w.heap.size ∧ ∀ i (h : i < xs.length), w.cell? ⟨b, off + i, none⟩ = some (.string (str xs[i])))
theorem Strs.below {w w' : World} {v : Value} {xs : List (List UInt8)} (h : Strs w v xs) (hb : Below w.heap.size w w') : Strs w' v xs := by
  rcases h with h | ⟨b, off, cap, e, hl, hc⟩
  · exact .inl h
  · exact .inr ⟨b, off, cap, e, by have := hb.size; omega, fun i hi => (hb.cell (p := ⟨b, off + i, none⟩) hl).trans (hc i hi)⟩
theorem Strs.form {w : World} {v : Value} {xs : List (List UInt8)} (h : Strs w v xs) : ∃ p cap, v = .slice p xs.length cap := by
  rcases h with ⟨rfl, p, cap, rfl⟩ | ⟨b, off, cap, rfl, _⟩
  · exact ⟨p, cap, rfl⟩
  · exact ⟨_, cap, rfl⟩
theorem Strs.at {w : World} {p : Option Addr} {N cap : Nat} {xs : List (List UInt8)} (h : Strs w (.slice p N cap) xs) {k : Nat} (hk : k < xs.length) : ∃ b off, p = some ⟨b, off, none⟩ ∧ w.cell? ⟨b, off + k, none⟩ = some (.string (str xs[k])) := by
  rcases h with ⟨rfl, _⟩ | ⟨b, off, cap', e, _, hc⟩
  · simp at hk
  · cases e
    exact ⟨b, off, rfl, hc k hk⟩
def strV (x : List UInt8) : Value := .string (str x)
def OwnS (w : World) (base : Nat) (v : Value) (xs : List (List UInt8)) : Prop := w.ownsRow base 9 1 v xs.length (xs.map strV)
theorem strs_of_own {w : World} {base : Nat} {v : Value} {xs : List (List UInt8)} (h : OwnS w base v xs) : Strs w v xs := by
  have h' := h
  rcases h.2 with ⟨rfl, h0⟩ | ⟨g, cap, cur, rfl, hb, hg, _⟩
  · exact .inl ⟨List.eq_nil_of_length_eq_zero h0, none, 0, rfl⟩
  · refine .inr ⟨g, 0, cap, rfl, (Array.getElem?_eq_some_iff.1 hg).1, fun i hi => ?_⟩
    have hc := (World.ownsRow.cells (g := g) h' rfl) i (strV xs[i]) (by simp [hi])
    have hadd : (⟨g, 0, none⟩ : Addr).add i = ⟨g, 0 + i, none⟩ := by unfold Addr.add; split <;> simp_all
    rwa [hadd] at hc
theorem ownS_nil (w : World) (base : Nat) : OwnS w base (.slice none 0 0) [] := World.ownsRow_nil w base 9 1
/-- The table of package label reads as the program's text lays it; all of it lies below n. -/
structure GlN (n : Nat) (w : World) : Prop where
  pos : 0 < n
  size : n ≤ w.heap.size
  tab : ∀ e, e < 6 → ∃ b off cap, w.cell? ⟨0, e, none⟩ = some (.slice (some ⟨b, off, none⟩) (lst e).length cap) ∧ b < n ∧ ∀ i (h : i < (lst e).length), w.cell? ⟨b, off + i, none⟩ = some (.string (str (lst e)[i]))
theorem GlN.below {n m : Nat} {w w' : World} (h : GlN n w) (hb : Below m w w') (hm : n ≤ m) : GlN n w' :=
  ⟨h.pos, by have := h.size; have := hb.size; omega, fun e he => by
    obtain ⟨b, off, cap, h1, h2, h3⟩ := h.tab e he
    have := h.pos
    exact ⟨b, off, cap, (hb.cell (p := ⟨0, e, none⟩) (by show 0 < m; omega)).trans h1, h2, fun i hi => (hb.cell (p := ⟨b, off + i, none⟩) (by show b < m; omega)).trans (h3 i hi)⟩⟩
theorem GlN.mono {n m : Nat} {w : World} (h : GlN n w) (hm : n ≤ m) (hs : m ≤ w.heap.size) : GlN m w :=
  ⟨by have := h.pos; omega, hs, fun e he => by
    obtain ⟨b, off, cap, h1, h2, h3⟩ := h.tab e he
    exact ⟨b, off, cap, h1, by omega, h3⟩⟩
def Gl (w : World) : Prop := GlN w.heap.size w
theorem Gl.below' {w w' : World} (h : Gl w) (hb : Below w.heap.size w w') : Gl w' := (GlN.below h hb (Nat.le_refl _)).mono hb.size (Nat.le_refl _)
theorem Gl.nn {n : Nat} {w : World} (h : GlN n w) : Gl w := h.mono h.size (Nat.le_refl _)
def RetS (x : List UInt8) (w : World) (e : Ending) (w' : World) : Prop := e = .returned (.string (str x)) ∧ Below w.heap.size w w'
theorem ret_str {a b : List UInt8} (h : a = b) : Ending.returned (.string (str a)) = .returned (.string (str b)) := by rw [h]
end Go.Proofs.YtdkfbikpadehdaaDoor.Lab
