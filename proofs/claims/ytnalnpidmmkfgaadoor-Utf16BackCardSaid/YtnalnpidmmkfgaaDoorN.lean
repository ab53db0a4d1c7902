/- The iterator of utf16.scalars: its contract. -/
import Derived.Test.YtnalnpidmmkfgaaDoorV2
import Derived.Test.YtnalnpidmmkfgaaDoorE
import Derived.RangeFuncNested
import Derived.RangeFuncBound
import Derived.RangeFuncCalls
import Derived.RangeFuncLeaves
import Derived.RangeFuncBox
import Derived.Shelf.Abstract
import Derived.Shelf.RegionOpen
import Derived.OwnWalkIn
import Derived.TacticsInMore
import Derived.LoopNIn
import Derived.LoopIn
namespace Go.Proofs.YtnalnpidmmkfgaaDoor
open Go.RowKit Go.Shelf
set_option linter.unusedVariables false
set_option linter.unusedSimpArgs false
attribute [local go_sem] Oper.semAt_some
structure ItU (big : Bool) (l : List UInt8) (a : Nat) (pre : List Item) : Prop where
  le : a ≤ l.length
  few : pre.length ≤ a
  it : its (p16 big l) 0 = pre.map (·.1) ++ its (p16 big (l.drop a)) a
theorem ItU.start (big : Bool) (l : List UInt8) : ItU big l 0 [] := ⟨Nat.zero_le _, Nat.le_refl _, by simp⟩
theorem ItU.step {big : Bool} {l : List UInt8} {a : Nat} {pre : List Item} (h : ItU big l a pre) (hl : a < l.length) {r : Int} {n : Nat} (hd : d16 big (l.drop a) = (r, n)) (x : Item) (hx : x.1 = (a, r)) : ItU big l (a + n) (pre ++ [x]) := by
  have hne := drop_ne hl
  have h1 := (d16_pos big (l.drop a)).1
  have h2 := d16_le big hne
  rw [hd] at h1 h2
  simp only [List.length_drop] at h1 h2
  refine ⟨by omega, by simp; have := h.few; omega, ?_⟩
  rw [h.it, p16_cons big hne, hd, List.drop_drop]
  simp [its, hx]
theorem ItU.done {big : Bool} {l : List UInt8} {a : Nat} {pre : List Item} (h : ItU big l a pre) (hl : ¬ a < l.length) : pre.map (·.1) = its (p16 big l) 0 := by
  have e : l.drop a = [] := List.drop_eq_nil_of_le (by omega)
  rw [h.it, e]; simp [p16_nil, its]
/-- What a round keeps: whatever lay below n₀, and the boxes of the bytes and of their order. -/
def KpU (n₀ Bs Bg : Nat) (W W' : World) : Prop := Below n₀ W W' ∧ W'.heap[Bs]? = W.heap[Bs]? ∧ W'.heap[Bg]? = W.heap[Bg]?
theorem KpU.refl (n₀ Bs Bg : Nat) (W : World) : KpU n₀ Bs Bg W W := ⟨Below.refl _ _, rfl, rfl⟩
theorem KpU.trans {n₀ Bs Bg : Nat} {A B C : World} (h : KpU n₀ Bs Bg A B) (k : KpU n₀ Bs Bg B C) : KpU n₀ Bs Bg A C := ⟨h.1.trans k.1, k.2.1.trans h.2.1, k.2.2.trans h.2.2⟩
theorem KpU.cell {n₀ Bs Bg : Nat} {A B : World} (h : KpU n₀ Bs Bg A B) : B.cell? ⟨Bs, 0, none⟩ = A.cell? ⟨Bs, 0, none⟩ := World.cell?_of_block h.2.1
theorem KpU.cell2 {n₀ Bs Bg : Nat} {A B : World} (h : KpU n₀ Bs Bg A B) : B.cell? ⟨Bg, 0, none⟩ = A.cell? ⟨Bg, 0, none⟩ := World.cell?_of_block h.2.2
theorem KpU.drew {n₀ Bs Bg : Nat} {A B : World} (h : Drew A B) : KpU n₀ Bs Bg A B := ⟨h.below _, by rw [h.heap], by rw [h.heap]⟩
theorem kpU_b {n₀ Bs Bg : Nat} {w : World} (hn : n₀ ≤ w.heap.size) (hB : Bs < w.heap.size) (hB2 : Bg < w.heap.size) (W : World) (l : Nat) (o o' : Obj) (hl : w.heap.size ≤ l) (h : W.heap[l]? = some o) (h1 : o.isCells = false) (h2 : o.isWalk = false) : KpU n₀ Bs Bg W (W.putObj l o') :=
  ⟨belowK_b hn W l o o' hl h h1 h2, World.putObj_heap_other (by omega), World.putObj_heap_other (by omega)⟩
theorem Drew.grown {w w' : World} (h : Drew w w') (row : Option Nat) : w.grownBy w' row := by
  obtain ⟨n, rfl⟩ := h; exact ⟨rfl, rfl, rfl, Nat.le_refl _, fun _ _ _ => rfl⟩
set_option maxRecDepth 100000 in
set_option maxHeartbeats 2000000 in
theorem scalarsU1_in (n : Nat) (hn : 1 ≤ n) (lp Bs Bg n₀ : Nat) (s : ByteArray) (big : Bool) (hs : s.size ≤ 100000) (h2 : 2 < n₀) (J Jx : List Item → World → Prop) (W : World) (hab : AbidesFrom W.heap.size J)
    (hY : ∀ pre x W, J pre W → pre.length < s.size → YieldAt Fence.wide (n - 1) Tryd.prog lp (encI x) W fun e W' =>
      (e = .returned (.bool true) ∧ J (pre ++ [x]) W' ∧ KpU n₀ Bs Bg W W') ∨ (e = .returned (.bool false) ∧ Jx (pre ++ [x]) W'))
    (hn0 : n₀ ≤ W.heap.size) (hBs : W.cell? ⟨Bs, 0, none⟩ = some (.string s)) (hBg : W.cell? ⟨Bg, 0, none⟩ = some (.bool big)) (h0 : J [] W) :
    CallsIn Fence.wide n Tryd.prog 32 #[.func (.yield lp) #[] #[], .pointer (some ⟨Bs, 0, none⟩), .pointer (some ⟨Bg, 0, none⟩)] W fun e W' => (∃ v, e = .returned v) ∧
      ((∃ ys : List Item, ys.map (·.1) = its (p16 big s.data.toList) 0 ∧ J ys W') ∨ (∃ pre : List Item, (∃ t, its (p16 big s.data.toList) 0 = pre.map (·.1) ++ t) ∧ Jx pre W')) := by
  have hsz : s.data.toList.length = s.size := by simp
  obtain ⟨l, HL⟩ : ∃ l, Hid (s.data.toList = l) := ⟨_, Lib.hid rfl⟩
  have HSZ : Hid (l.length = s.size) := Lib.hid (by rw [← HL.out]; exact hsz)
  rw [HL.out]
  have HAB := Lib.hid hab
  clear hsz hab
  refine callsIn_of_wp Tryd.func32 rfl trivial ?_ rfl
  simp only [Tryd.ntmps32, List.size_toArray, List.length_cons, List.length_nil, Nat.reduceAdd, Nat.reduceSub, Array.replicate_succ, Array.replicate_zero, List.push_toArray, List.append_toArray, List.nil_append, List.cons_append]
  gi_wp2
  gi_loopw [4] (fun q4 wr => ∃ (a : Nat) (pre : List Item), q4 = .int .i64 a ∧ Hid (ItU big l a pre) ∧ Hid (J pre wr) ∧ Hid (KpU n₀ Bs Bg W wr))
    (fun q4 _ => s.size - (intOf q4).toNat)
  case atStart => exact ⟨0, [], rfl, Lib.hid (ItU.start _ _), Lib.hid h0, Lib.hid (KpU.refl _ _ _ _)⟩
  case round =>
    obtain ⟨a, pre, rfl, HA, HJ, HB⟩ := hrel
    have hale : a ≤ s.size := by have := HA.out.le; rw [HSZ.out] at this; exact this
    have hcs : wr.cell? ⟨Bs, 0, none⟩ = some (.string s) := HB.out.cell.trans hBs
    have hcg : wr.cell? ⟨Bg, 0, none⟩ = some (.bool big) := HB.out.cell2.trans hBg
    by_cases hlt : a < s.size
    · obtain ⟨r, n2, hd⟩ : ∃ r n, d16 big (l.drop a) = (r, n) := ⟨_, _, rfl⟩
      have hrd := read16_any s a big wr hlt hs
      unfold Rd16S at hrd
      rw [HL.out, hd] at hrd
      have Hrd := Lib.hid hrd
      have hrc : r = -1 ∨ isB r = true := by have := d16_is big (l.drop a); rw [hd] at this; exact this
      obtain ⟨x, hx⟩ : ∃ x : Item, x.1 = (a, r) := ⟨⟨(a, r), by omega, hrc⟩, rfl⟩
      have HS := Lib.hid (HA.out.step (by rw [HSZ.out]; exact hlt) hd x hx)
      have h1 : 1 ≤ n2 := by have := (d16_pos big (l.drop a)).1; rw [hd] at this; exact this
      have h4 : n2 ≤ 4 := by have := (d16_pos big (l.drop a)).2; rw [hd] at this; exact this
      have h3 : a + n2 ≤ s.size := by have := HS.out.le; rw [HSZ.out] at this; exact this
      have he : encI x = #[.int .i64 (a : Int), .int .i64 r] := by unfold encI; rw [hx]
      have hY2 : ∀ w2, Drew wr w2 → YieldAt Fence.wide (n - 1) Tryd.prog lp #[.int .i64 (a : Int), .int .i64 r] w2 fun e W' =>
          (e = .returned (.bool true) ∧ J (pre ++ [x]) W' ∧ KpU n₀ Bs Bg w2 W') ∨ (e = .returned (.bool false) ∧ Jx (pre ++ [x]) W') := fun w2 hd2 => by
        have := hY pre x w2 (HAB.out _ _ _ none HJ.out (hd2.grown none) (fun r e => by cases e)) (by have := HA.out.few; omega)
        rwa [he] at this
      have HY2 := Lib.hid hY2
      clear hx hrd hd hrc he hY2
      gi_wp2_with (refine ⟨trivial, ?_⟩; gi_at_call 33; refine (callsIn_wide.2 Hrd.out).mono ?_; rintro e w2 ⟨rfl, hd2⟩; have HD2 := Lib.hid hd2; obtain ⟨fn, tmps, assign, body, hy, hR⟩ := HY2.out w2 hd2; clear hd2 Hrd)
      refine hR.mono ?_
      rintro e W3 (⟨rfl, hJ3, hk3⟩ | ⟨rfl, hJx3⟩)
      · have HJ3 := Lib.hid hJ3
        have HB3 : Hid (KpU n₀ Bs Bg W W3) := Lib.hid ((HB.out.trans (KpU.drew HD2.out)).trans hk3)
        clear hJ3
        gi_wp2
        go_roundw
        case rel => exact ⟨a + n2, _, by go_num, HS, HJ3, HB3⟩
        case measure => simp [intOf]; omega
      · gi_wp2
        refine bodyPost_ret (results_none rfl _ _ _) rfl ?_
        exact ⟨⟨_, rfl⟩, .inr ⟨_, ⟨_, HS.out.it⟩, hJx3⟩⟩
    · have HE := Lib.hid (HA.out.done (by rw [HSZ.out]; exact hlt))
      gi_wp2
      go_end0
      exact ⟨⟨_, rfl⟩, .inl ⟨_, HE.out, HJ.out⟩⟩
set_option maxHeartbeats 1000000 in
theorem scalarsU_in (n : Nat) (s : ByteArray) (big : Bool) (w : World) :
    CallsIn Fence.wide n Tryd.prog 20 #[.string s, .bool big] w fun e w' => e = .returned (.func (.func 32) #[] #[.pointer (some ⟨w.heap.size, 0, none⟩), .pointer (some ⟨w.heap.size + 1, 0, none⟩)]) ∧ w' = (w.alloc (.cells #[.string s] 9)).alloc (.cells #[.bool big] 4) := by
  refine callsIn_of_wp Tryd.func20 rfl trivial ?_ rfl
  simp only [Tryd.ntmps20, List.size_toArray, List.length_cons, List.length_nil, Nat.reduceAdd, Nat.reduceSub, Array.replicate_succ, Array.replicate_zero, List.push_toArray, List.append_toArray, List.nil_append, List.cons_append]
  gi_wp2
  go_ret
  exact ⟨rfl, rfl⟩
theorem scalarsU_stops (n : Nat) (hn : 1 ≤ n) (Bs Bg n₀ : Nat) (s : ByteArray) (big : Bool) (hs : s.size ≤ 100000) (w : World) (h2 : 2 < n₀) (hBs : Bs < w.heap.size) (hBg : Bg < w.heap.size) (hn₀ : n₀ ≤ w.heap.size)
    (hc : w.cell? ⟨Bs, 0, none⟩ = some (.string s)) (hc2 : w.cell? ⟨Bg, 0, none⟩ = some (.bool big)) :
    SeqStopsK Fence.wide n Tryd.prog 32 #[.pointer (some ⟨Bs, 0, none⟩), .pointer (some ⟨Bg, 0, none⟩)] encI (KpU n₀ Bs Bg) (fun ys : List Item => ys.map (·.1) = its (p16 big s.data.toList) 0)
      (fun pre : List Item => ∃ t, its (p16 big s.data.toList) 0 = pre.map (·.1) ++ t) s.size w := fun l J Jx W hW hab _ hY h0 =>
  scalarsU1_in n hn l Bs Bg n₀ s big hs h2 J Jx W hab hY (Nat.le_trans hn₀ hW.size) ((hW.cell (p := ⟨Bs, 0, none⟩) hBs).trans hc) ((hW.cell (p := ⟨Bg, 0, none⟩) hBg).trans hc2) h0
theorem okU_its (big : Bool) (l : List UInt8) : ok16 big l = (its (p16 big l) 0).all (fun p => p.2 != -1) := by
  unfold ok16; rw [its_all]
theorem sU_its (big : Bool) (l : List UInt8) : s16 big l = (its (p16 big l) 0).map (·.2) := by
  unfold s16; rw [its_map]
theorem okU_of_all {big : Bool} {l : List UInt8} {ys : List Item} (h : ys.map (·.1) = its (p16 big l) 0) (hp : ∀ p ∈ ys, p.1.2 ≠ -1) : ok16 big l = true := by
  rw [okU_its, ← h]
  simp only [List.all_map, List.all_eq_true, Function.comp, bne_iff_ne, ne_eq]
  exact hp
theorem noU_of_one {big : Bool} {l : List UInt8} {pre : List Item} (h : ∃ t, its (p16 big l) 0 = pre.map (·.1) ++ t) {p : Item} (hp : p ∈ pre) (hr : p.1.2 = -1) : ok16 big l = false := by
  obtain ⟨t, ht⟩ := h
  rw [okU_its, ht]
  cases hx : (pre.map (·.1) ++ t).all (fun p => p.2 != -1)
  · rfl
  · rw [List.all_eq_true] at hx
    have := hx p.1 (List.mem_append_left _ (List.mem_map.2 ⟨p, hp, rfl⟩))
    simp [hr] at this
end Go.Proofs.YtnalnpidmmkfgaaDoor
