/- A range over an iterator that keeps what it has not read yet in a box of its own, which it turns between the rounds: the law for its caller; nothing of the program. -/
import Derived.Test.YtdkfbikpadehdaaDoorEPE
import Derived.RangeFuncNested
import Derived.RangeFuncBound
import Derived.RangeFuncCalls
import Derived.RangeFuncLeaves
import Derived.RangeFuncBox
import Derived.RangeFuncWrites
import Derived.Shelf.Abstract
import Derived.Shelf.RegionOpen
import Derived.OwnWalkIn
import Derived.TacticsInMore
import Derived.LoopNIn
import Derived.LoopIn
namespace Go.Proofs.YtdkfbikpadehdaaDoor.Dec
open Go.RowKit
set_option linter.unusedVariables false
set_option linter.unusedSimpArgs false
open Lab (RetS ret_str str str_size str_list str_eta str_inj u8v info5 info_parts)
open Go.Shelf
/-- Block r is a row of cells of type T. -/
def IsT (T : TypeId) (w : World) (r : Nat) : Prop := ∃ xs, Blk w r xs T
/-- J abides new blocks, and the turn of one block of cells of type T that lies from B on. -/
def Abd {β : Type} (T : TypeId) (B : Nat) (J : β → World → Prop) : Prop :=
  ∀ s w w' row, J s w → w.grownBy w' row → (∀ r, row = some r → B ≤ r ∧ IsT T w r) → J s w'
/-- The same, and the turn of one block from B on that is no cells (the loop's own record). -/
def Ind {β : Type} (T : TypeId) (B : Nat) (I : β → World → Prop) : Prop :=
  ∀ s w w' row, I s w → w.grownBy w' row → (∀ r, row = some r → B ≤ r ∧ (IsT T w r ∨ ∃ o : Obj, w.heap[r]? = some o ∧ o.isCells = false)) → I s w'
/-- What a round that goes on keeps: all below n, and each block of cells of type T. -/
structure Kq (T : TypeId) (n : Nat) (w w' : World) : Prop where
  bel : Below n w w'
  box : ∀ r xs, Blk w r xs T → Blk w' r xs T
theorem Kq.refl (T : TypeId) (n : Nat) (w : World) : Kq T n w w := ⟨Below.refl _ _, fun _ _ h => h⟩
theorem Kq.trans {T : TypeId} {n : Nat} {a b c : World} (h : Kq T n a b) (k : Kq T n b c) : Kq T n a c := ⟨h.bel.trans k.bel, fun r xs hr => k.box r xs (h.box r xs hr)⟩
theorem Kq.put {T : TypeId} {n l : Nat} {w : World} {o : Obj} (o' : Obj) (hn : n ≤ l) (h : w.heap[l]? = some o) (hc : o.isCells = false) : Kq T n w (w.putObj l o') :=
  ⟨⟨rfl, rfl, rfl, by simp, fun k hk => World.putObj_heap_other (by omega)⟩, fun r xs hr => by
    have hne : r ≠ l := fun e => by
      subst e
      rw [show w.heap[r]? = _ from hr] at h
      cases h; cases hc
    exact (World.putObj_heap_other hne).trans hr⟩
/-- An iterator that holds its place in a box of type T: what it owes its caller. -/
def SeqBox {α : Type} (n : Nat) (P : Program) (g : Nat) (lb : Array Value) (encs : α → Array Value) (T : TypeId) (n₀ : Nat) (S Sp : List α → Prop) (N : Nat) (w : World) : Prop :=
  ∀ (l : Nat) (J Jx : List α → World → Prop) (W : World), Below w.heap.size w W → Abd T W.heap.size J → Abd T W.heap.size Jx →
    (∀ pre x W1, J pre W1 → pre.length < N → YieldAt Fence.wide (n - 1) P l (encs x) W1 fun e W' =>
      (e = .returned (.bool true) ∧ J (pre ++ [x]) W' ∧ Kq T n₀ W1 W') ∨ (e = .returned (.bool false) ∧ Jx (pre ++ [x]) W')) →
    J [] W →
    CallsIn Fence.wide n P g (#[.func (.yield l) #[] #[]] ++ lb) W fun e W' => (∃ v, e = .returned v) ∧ ((∃ xs, S xs ∧ J xs W') ∨ (∃ pre, Sp pre ∧ Jx pre W'))
/-- How a round's body may be left: off its end, or by a return. -/
def outB {α : Type} (T : TypeId) (n₀ B : Nat) (I Ix : List α → World → Prop) (xs : List α) (W : World) : Exit → Act → World → Prop
  | .normal, _, W' => KeepsFrom B W W' ∧ Kq T n₀ W W' ∧ I xs W'
  | .ret, _, W' => KeepsFrom B W W' ∧ Ix xs W'
  | _, _, _ => False
/-- The loop's record r lies at s + 1, the block for deferred calls at s, empty. -/
def Led (s : Nat) (r : Loop) (W : World) : Prop := W.heap[s + 1]? = some (.loop r) ∧ W.heap[s]? = some (.deferred (some []))
theorem led_step {s B : Nat} {T : TypeId} {r : Loop} {w w' : World} {row : Option Nat} (h : Led s r w) (hg : w.grownBy w' row) (hr : ∀ q, row = some q → B ≤ q ∧ IsT T w q) : Led s r w' := by
  have hne : ∀ (k : Nat) (o : Obj), w.heap[k]? = some o → o.isCells = false → w'.heap[k]? = some o := fun k o hk hc => by
    refine (hg.block k (Array.getElem?_eq_some_iff.1 hk).1 (fun e => ?_)).trans hk
    obtain ⟨_, xs, hx⟩ := hr k e.symm
    rw [show w.heap[k]? = _ from hx] at hk
    cases hk; cases hc
  exact ⟨hne _ _ h.1 rfl, hne _ _ h.2 rfl⟩
theorem led_put {s : Nat} {r r' : Loop} {W : World} (h : Led s r W) : Led s r' (W.putObj (s + 1) (.loop r')) :=
  ⟨World.putObj_heap_same (Array.getElem?_eq_some_iff.1 h.1).1, (World.putObj_heap_other (by omega)).trans h.2⟩
theorem led_keep {s : Nat} {r : Loop} {W W' : World} (h : Led s r W) (hk : KeepsFrom s W W') : Led s r W' := ⟨hk.same _ _ (by omega) h.1 rfl, hk.same _ _ (Nat.le_refl _) h.2 rfl⟩
theorem Ind.put {α : Type} {T : TypeId} {s : Nat} {I : List α → World → Prop} (hI : Ind T s I) {r r' : Loop} {pre : List α} {W : World} (h : Led s r W) (hi : I pre W) : I pre (W.putObj (s + 1) (.loop r')) :=
  hI pre W _ (some (s + 1)) hi (grownBy_putObj' W _ _) fun q e => by cases e; exact ⟨by omega, .inr ⟨_, h.1, rfl⟩⟩
theorem Ind.abd {α : Type} {T : TypeId} {s B : Nat} {I : List α → World → Prop} (hI : Ind T s I) (hB : s ≤ B) : Abd T B I := fun p w w' row hi hg hr => hI p w w' row hi hg fun q e => ⟨Nat.le_trans hB (hr q e).1, .inl (hr q e).2⟩
/-- The law. -/
theorem range_box {α : Type} {g : Operand} {ps : Array Tmp} {assign body : Code} {Q : Exit → Act → World → Prop} {a : Act} {w : World} {n : Nat} {P : Program} (h1 : 1 ≤ n)
    {gf : Nat} {lb : Array Value} (hg : a.eval g = .func (.func gf) #[] lb) (eg : ∀ args w, (callFunc gf args).run P w = .ok (.enter gf args) w)
    {encs : α → Array Value} {T : TypeId} {n₀ : Nat} {S Sp : List α → Prop} {N : Nat} (hseq : SeqBox (n - 1) P gf lb encs T n₀ S Sp N w) (hn0 : n₀ ≤ w.heap.size) (hps : ∀ x, (encs x).size = ps.size)
    (I Ix : List α → World → Prop) (hI : Ind T w.heap.size I) (hIx : Ind T w.heap.size Ix) (h0 : I [] w) (a₁ : α → Act)
    (hassign : ∀ (l : Nat) (x : α) (W : World) (K : Act → World → Prop), K (a₁ x) W →
      assign.wpIn (Fence.wide.inRound l) (n - 1 - 1) P (Exit.then K (fun _ _ _ => False)) { tmps := (ps.zip (encs x)).foldl (fun t (p, v) => t.setIfInBounds p v) a.tmps, defers := [] } W)
    (hbody : ∀ (l : Nat) (pre : List α) (x : α) (W : World), I pre W → pre.length < N → body.wpIn (Fence.wide.inRound l) (n - 1 - 1) P (outB T n₀ w.heap.size I Ix (pre ++ [x]) W) (a₁ x) W)
    (hdone : ∀ (D : Nat) (xs : List α) (W : World), w.heap.size ≤ D → S xs → I xs W → W.heap[D]? = some (.deferred (some [])) → Q .normal { a with defers := { target := .collected D, args := #[] } :: a.defers } W)
    (hstop : ∀ (D : Nat) (pre : List α) (W : World), w.heap.size ≤ D → Sp pre → Ix pre W → W.heap[D]? = some (.deferred (some [])) → Code.ret.wpIn Fence.wide n P Q { a with defers := { target := .collected D, args := #[] } :: a.defers } W) :
    (Code.rangeFunc g ps assign body).wpIn Fence.wide n P Q a w := by
  refine wpIn_rangeFunc fun fn hfn => ?_
  let rc : LoopState → Option Code → Loop := fun st pe => { state := st, pending := pe, fn, tmps := a.tmps, params := ps, assign, body, defers := w.heap.size }
  let W0 := (w.alloc (.deferred (some []))).alloc (.loop (rc .ready none))
  have hsz : W0.heap.size = w.heap.size + 2 := by simp [W0]
  have led0 : Led w.heap.size (rc .ready none) W0 := by
    refine ⟨?_, (Below.heap_alloc _ _ _ (by simp)).trans (World.alloc_heap_new w _)⟩
    have := World.alloc_heap_new (w.alloc (.deferred (some []))) (.loop (rc .ready none))
    rwa [World.size_alloc] at this
  have i0 : I [] W0 := hI _ _ _ none (hI _ _ _ none h0 (World.grownBy_alloc w _ none) (fun _ e => by cases e)) (World.grownBy_alloc _ _ none) (fun _ e => by cases e)
  have b0 : Below w.heap.size w W0 := ((Below.refl _ w).alloc (Nat.le_refl _) _).alloc (by simp) _
  refine ⟨w.heap.size + 1, [{ target := .collected w.heap.size, args := #[] }], W0, { target := .fn (.func gf) lb, args := #[.func (.yield (w.heap.size + 1)) #[] #[]] }, W0, gf,
    #[.func (.yield (w.heap.size + 1)) #[] #[]] ++ lb, W0, run_enterLoop_outer _ _ _ _ _, by simp only [resolve, hg]; simp [go_sem], fun _ _ => trivial, by simp [invoke, go_sem, eg], fun _ => h1, ?_⟩
  refine (hseq (w.heap.size + 1) (fun pre W => I pre W ∧ Led w.heap.size (rc .ready none) W) (fun pre W => Ix pre W ∧ Led w.heap.size (rc .done (some .ret)) W) W0 b0
    (fun p A B row hp hgr hr => ⟨hI.abd (by omega) p A B row hp.1 hgr hr, led_step hp.2 hgr hr⟩) (fun p A B row hp hgr hr => ⟨hIx.abd (by omega) p A B row hp.1 hgr hr, led_step hp.2 hgr hr⟩) ?_ ⟨i0, led0⟩).mono ?_
  · rintro pre x W ⟨hi, hled⟩ hlen
    refine ⟨fn, _, assign, body, run_yield hled.1 (hps x), roundIn_of_wpIn hfn (hassign _ x W _ ⟨_, run_beginRound hled.1 rfl, ?_⟩)⟩
    have hled1 : Led w.heap.size (rc .busy none) (W.putObj (w.heap.size + 1) (.loop (rc .busy none))) := led_put hled
    have kq1 : Kq T n₀ W (W.putObj (w.heap.size + 1) (.loop (rc .busy none))) := Kq.put _ (by omega) hled.1 rfl
    refine wpIn_mono (hbody _ pre x _ (hI.put hled hi) hlen) ?_
    rintro e a3 W3 hp
    cases e with
    | normal =>
      obtain ⟨hk, hq, hi3⟩ := hp
      have hled3 := led_keep hled1 hk
      exact ⟨_, _, run_endRound none hled3.1, .inl ⟨rfl, ⟨hI.put hled3 hi3, led_put hled3⟩, (kq1.trans hq).trans (Kq.put _ (by omega) hled3.1 rfl)⟩⟩
    | ret =>
      obtain ⟨hk, hi3⟩ := hp
      have hled3 := led_keep hled1 hk
      exact ⟨_, _, run_endRound (some .ret) hled3.1, .inr ⟨rfl, hIx.put hled3 hi3, led_put hled3⟩⟩
    | exit id => exact hp.elim
    | goto t => exact hp.elim
    | panic ch => exact hp.elim
    | outgrown => exact hp.elim
  · rintro e W2 ⟨⟨v, rfl⟩, ⟨xs, hS, hi, hled⟩ | ⟨pre, hSp, hi, hled⟩⟩
    · exact ⟨none, _, run_endLoop hled.1 (by intro h; cases h), hdone _ xs _ (Nat.le_refl _) hS (hI.put hled hi) (led_put (r' := rc .exhausted none) hled).2⟩
    · exact ⟨some .ret, _, run_endLoop hled.1 (by intro h; cases h), hstop _ pre _ (Nat.le_refl _) hSp (hIx.put hled hi) (led_put (r' := rc .exhausted (some .ret)) hled).2⟩
/-! What a caller's invariant may say. -/
theorem Ind.and {β : Type} {T : TypeId} {B : Nat} {I I' : β → World → Prop} (h : Ind T B I) (h' : Ind T B I') : Ind T B (fun s w => I s w ∧ I' s w) := fun s w w' row hi hg hr => ⟨h s w w' row hi.1 hg hr, h' s w w' row hi.2 hg hr⟩
theorem ind_pure {β : Type} (T : TypeId) (B : Nat) (p : β → Prop) : Ind T B (fun s (_ : World) => p s) := fun _ _ _ _ h _ _ => h
theorem ind_below {β : Type} (T : TypeId) {n B : Nat} {w : World} (hn : n ≤ B) (hw : n ≤ w.heap.size) : Ind T B (fun (_ : β) W => Below n w W) := fun _ A C _ h hg hr =>
  h.trans ⟨hg.os, hg.tape, hg.output, hg.size, fun k hk => hg.block k (by have := h.size; omega) (fun e => by have := (hr k e.symm).1; omega)⟩
end Go.Proofs.YtdkfbikpadehdaaDoor.Dec
