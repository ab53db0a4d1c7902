/- The iterator of utf8.scalars: its contract. -/
import Derived.Test.YtnalnpidmmkfgaaDoorSA
import Derived.RangeFuncNested
import Derived.RangeFuncBound
import Derived.RangeFuncCalls
import Derived.RangeFuncLeaves
import Derived.RangeFuncBox
import Derived.Shelf.Abstract
import Derived.Shelf.RegionOpen
import Derived.OwnWalkIn
import Derived.TacticsInMore
import Derived.LoopNIn
import Derived.LoopIn
namespace Go.Proofs.YtnalnpidmmkfgaaDoor
open Go.RowKit Go.Shelf
set_option linter.unusedVariables false
set_option linter.unusedSimpArgs false
attribute [local go_sem] Oper.semAt_some
/-- What the iterator tells of one part: where it begins, the scalar or -1. -/
abbrev Item := { p : Nat × Int // p.1 ≤ 100000 ∧ (p.2 = -1 ∨ isB p.2 = true) }
def its : List (Int × Nat) → Nat → List (Nat × Int)
  | [], _ => []
  | p :: t, a => (a, p.1) :: its t (a + p.2)
structure ItAt (l : List UInt8) (a : Nat) (pre : List Item) : Prop where
  le : a ≤ l.length
  few : pre.length ≤ a
  it : its (prt l) 0 = pre.map (·.1) ++ its (prt (l.drop a)) a
theorem ItAt.start (l : List UInt8) : ItAt l 0 [] := ⟨Nat.zero_le _, Nat.le_refl _, by simp⟩
theorem ItAt.step {l : List UInt8} {a : Nat} {pre : List Item} (h : ItAt l a pre) (hl : a < l.length) {r : Int} {n : Nat} (hd : dec (l.drop a) = (r, n)) (x : Item) (hx : x.1 = (a, r)) : ItAt l (a + n) (pre ++ [x]) := by
  have hne := drop_ne hl
  have h1 := dec_pos (l.drop a)
  have h2 := dec_le hne
  rw [hd] at h1 h2
  simp only [List.length_drop] at h1 h2
  refine ⟨by omega, by simp; have := h.few; omega, ?_⟩
  rw [h.it, prt_cons hne, hd, List.drop_drop]
  simp [its, hx]
theorem ItAt.done {l : List UInt8} {a : Nat} {pre : List Item} (h : ItAt l a pre) (hl : ¬ a < l.length) : pre.map (·.1) = its (prt l) 0 := by
  have e : l.drop a = [] := List.drop_eq_nil_of_le (by omega)
  rw [h.it, e]; simp [prt_nil, its]
theorem its_all : ∀ (ps : List (Int × Nat)) (a : Nat), (its ps a).all (fun p => p.2 != -1) = ps.all (fun p => p.1 != -1)
  | [], _ => rfl
  | p :: t, a => by simp only [its, List.all_cons]; rw [its_all t]
theorem its_map : ∀ (ps : List (Int × Nat)) (a : Nat), (its ps a).map (·.2) = ps.map (·.1)
  | [], _ => rfl
  | p :: t, a => by simp only [its, List.map_cons]; rw [its_map t]
def wrgI : List (Nat × Int) → Int
  | [] => -1
  | p :: t => if p.2 = -1 then (p.1 : Int) else wrgI t
theorem its_wrg : ∀ (ps : List (Int × Nat)) (a : Nat), wrgI (its ps a) = wrg ps a
  | [], _ => rfl
  | p :: t, a => by
    by_cases h : p.1 = -1
    · simp only [its, wrgI]; rw [if_pos h, wrg_bad h]
    · simp only [its, wrgI]; rw [if_neg h, wrg_good h, its_wrg t]
/-- What a round keeps: whatever lay below n₀, and the box of the text. -/
def KpS (n₀ Bs : Nat) (W W' : World) : Prop := Below n₀ W W' ∧ W'.heap[Bs]? = W.heap[Bs]?
theorem KpS.refl (n₀ Bs : Nat) (W : World) : KpS n₀ Bs W W := ⟨Below.refl _ _, rfl⟩
theorem KpS.trans {n₀ Bs : Nat} {A B C : World} (h : KpS n₀ Bs A B) (k : KpS n₀ Bs B C) : KpS n₀ Bs A C := ⟨h.1.trans k.1, k.2.trans h.2⟩
theorem KpS.cell {n₀ Bs : Nat} {A B : World} (h : KpS n₀ Bs A B) : B.cell? ⟨Bs, 0, none⟩ = A.cell? ⟨Bs, 0, none⟩ := World.cell?_of_block h.2
theorem kpS_b {n₀ Bs : Nat} {w : World} (hn : n₀ ≤ w.heap.size) (hB : Bs < w.heap.size) (W : World) (l : Nat) (o o' : Obj) (hl : w.heap.size ≤ l) (h : W.heap[l]? = some o) (h1 : o.isCells = false) (h2 : o.isWalk = false) : KpS n₀ Bs W (W.putObj l o') :=
  ⟨belowK_b hn W l o o' hl h h1 h2, World.putObj_heap_other (by omega)⟩
def encI (x : Item) : Array Value := #[.int .i64 (x.1.1 : Int), .int .i64 x.1.2]
set_option maxRecDepth 100000 in
set_option maxHeartbeats 2000000 in
theorem scalars1_in (n : Nat) (hn : 1 ≤ n) (lp Bs n₀ : Nat) (s : ByteArray) (hs : s.size ≤ 100000) (h2 : 2 < n₀) (J Jx : List Item → World → Prop)
    (hY : ∀ pre x W, J pre W → pre.length < s.size → YieldAt Fence.wide (n - 1) Tryd.prog lp (encI x) W fun e W' =>
      (e = .returned (.bool true) ∧ J (pre ++ [x]) W' ∧ KpS n₀ Bs W W') ∨ (e = .returned (.bool false) ∧ Jx (pre ++ [x]) W'))
    (W : World) (hg : Gl W) (hn0 : n₀ ≤ W.heap.size) (hBs : W.cell? ⟨Bs, 0, none⟩ = some (.string s)) (h0 : J [] W) :
    CallsIn Fence.wide n Tryd.prog 47 #[.func (.yield lp) #[] #[], .pointer (some ⟨Bs, 0, none⟩)] W fun e W' => (∃ v, e = .returned v) ∧
      ((∃ ys : List Item, ys.map (·.1) = its (prt s.data.toList) 0 ∧ J ys W') ∨ (∃ pre : List Item, (∃ t, its (prt s.data.toList) 0 = pre.map (·.1) ++ t) ∧ Jx pre W')) := by
  have hsz : s.data.toList.length = s.size := by simp
  obtain ⟨l, HL⟩ : ∃ l, Hid (s.data.toList = l) := ⟨_, Lib.hid rfl⟩
  have HSZ : Hid (l.length = s.size) := Lib.hid (by rw [← HL.out]; exact hsz)
  rw [HL.out]
  have HG := Lib.hid hg
  clear hsz hg
  refine callsIn_of_wp Tryd.func47 rfl trivial ?_ rfl
  simp only [Tryd.ntmps47, List.size_toArray, List.length_cons, List.length_nil, Nat.reduceAdd, Nat.reduceSub, Array.replicate_succ, Array.replicate_zero, List.push_toArray, List.append_toArray, List.nil_append, List.cons_append]
  gi_wp2
  gi_loopw [3] (fun q3 wr => ∃ (a : Nat) (pre : List Item), q3 = .int .i64 a ∧ Hid (ItAt l a pre) ∧ Hid (J pre wr) ∧ Hid (KpS n₀ Bs W wr))
    (fun q3 _ => s.size - (intOf q3).toNat)
  case atStart => exact ⟨0, [], rfl, Lib.hid (ItAt.start _), Lib.hid h0, Lib.hid (KpS.refl _ _ _)⟩
  case round =>
    obtain ⟨a, pre, rfl, HA, HJ, HB⟩ := hrel
    have hale : a ≤ s.size := by have := HA.out.le; rw [HSZ.out] at this; exact this
    have hcs : wr.cell? ⟨Bs, 0, none⟩ = some (.string s) := HB.out.cell.trans hBs
    have HGr : Hid (Gl wr) := Lib.hid (HG.out.below h2 HB.out.1)
    by_cases hlt : a < s.size
    · obtain ⟨r, n2, hd⟩ : ∃ r n, dec (l.drop a) = (r, n) := ⟨_, _, rfl⟩
      have hrd := read_any s a wr HGr.out hs hlt
      rw [HL.out, hd] at hrd
      have Hrd := Lib.hid hrd
      have hrc : r = -1 ∨ isB r = true := by have := dec_cases (l.drop a); rw [hd] at this; exact this
      obtain ⟨x, hx⟩ : ∃ x : Item, x.1 = (a, r) := ⟨⟨(a, r), by omega, hrc⟩, rfl⟩
      have HS := Lib.hid (HA.out.step (by rw [HSZ.out]; exact hlt) hd x hx)
      have h1 : 1 ≤ n2 := by have := dec_pos (l.drop a); rw [hd] at this; exact this
      have h4 : n2 ≤ 4 := by have := dec_le4 (l.drop a); rw [hd] at this; exact this
      have h3 : a + n2 ≤ s.size := by have := HS.out.le; rw [HSZ.out] at this; exact this
      obtain ⟨fn, tmps, assign, body, hy, hR⟩ := hY _ x wr HJ.out (by have := HA.out.few; omega)
      have he : encI x = #[.int .i64 (a : Int), .int .i64 r] := by unfold encI; rw [hx]
      rw [he] at hy
      have HX := Lib.hid hx
      clear hx hrd hd hrc he
      gi_wp2_with (refine ⟨trivial, ?_⟩; gi_at_call 48; refine (callsIn_wide.2 Hrd.out).mono ?_; rintro e w' ⟨rfl, rfl⟩)
      refine hR.mono ?_
      rintro e W3 (⟨rfl, hJ3, hk3⟩ | ⟨rfl, hJx3⟩)
      · have HJ3 := Lib.hid hJ3
        have HB3 : Hid (KpS n₀ Bs W W3) := Lib.hid (HB.out.trans hk3)
        clear hJ3
        gi_wp2
        go_roundw
        case rel => exact ⟨a + n2, _, by go_num, HS, HJ3, HB3⟩
        case measure => simp [intOf]; omega
      · gi_wp2
        refine bodyPost_ret (results_none rfl _ _ _) rfl ?_
        exact ⟨⟨_, rfl⟩, .inr ⟨_, ⟨_, HS.out.it⟩, hJx3⟩⟩
    · have HE := Lib.hid (HA.out.done (by rw [HSZ.out]; exact hlt))
      gi_wp2
      go_end0
      exact ⟨⟨_, rfl⟩, .inl ⟨_, HE.out, HJ.out⟩⟩
set_option maxHeartbeats 1000000 in
theorem scalars_in (n : Nat) (s : ByteArray) (w : World) :
    CallsIn Fence.wide n Tryd.prog 43 #[.string s] w fun e w' => e = .returned (.func (.func 47) #[] #[.pointer (some ⟨w.heap.size, 0, none⟩)]) ∧ w' = w.alloc (.cells #[.string s] 9) := by
  refine callsIn_of_wp Tryd.func43 rfl trivial ?_ rfl
  simp only [Tryd.ntmps43, List.size_toArray, List.length_cons, List.length_nil, Nat.reduceAdd, Nat.reduceSub, Array.replicate_succ, Array.replicate_zero, List.push_toArray, List.append_toArray, List.nil_append, List.cons_append]
  gi_wp2
  go_ret
  exact ⟨rfl, rfl⟩
theorem scalars_stops (n : Nat) (hn : 1 ≤ n) (Bs n₀ : Nat) (s : ByteArray) (hs : s.size ≤ 100000) (w : World) (hg : Gl w) (h2 : 2 < n₀) (hBs : Bs < w.heap.size) (hn₀ : n₀ ≤ w.heap.size)
    (hc : w.cell? ⟨Bs, 0, none⟩ = some (.string s)) :
    SeqStopsK Fence.wide n Tryd.prog 47 #[.pointer (some ⟨Bs, 0, none⟩)] encI (KpS n₀ Bs) (fun ys : List Item => ys.map (·.1) = its (prt s.data.toList) 0)
      (fun pre : List Item => ∃ t, its (prt s.data.toList) 0 = pre.map (·.1) ++ t) s.size w := fun l J Jx W hW _ _ hY h0 =>
  scalars1_in n hn l Bs n₀ s hs h2 J Jx hY W (hg.below' hW) (Nat.le_trans hn₀ hW.size) ((hW.cell (p := ⟨Bs, 0, none⟩) hBs).trans hc) h0
end Go.Proofs.YtnalnpidmmkfgaaDoor
