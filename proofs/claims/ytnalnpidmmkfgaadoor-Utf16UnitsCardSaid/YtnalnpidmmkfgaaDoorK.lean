/- The contracts of utf16.Valid and Decode: ranges over the iterator. -/
import Derived.Test.YtnalnpidmmkfgaaDoorN
import Derived.RangeFuncNested
import Derived.RangeFuncBound
import Derived.RangeFuncCalls
import Derived.RangeFuncLeaves
import Derived.RangeFuncBox
import Derived.Shelf.Abstract
import Derived.Shelf.RegionOpen
import Derived.OwnWalkIn
import Derived.TacticsInMore
import Derived.LoopNIn
import Derived.LoopIn
import Derived.Deep.AppendLies
namespace Go.Proofs.YtnalnpidmmkfgaaDoor
open Go.RowKit Go.Shelf
set_option linter.unusedVariables false
set_option linter.unusedSimpArgs false
attribute [local go_sem] Oper.semAt_some
theorem wpListIn_append_lies {F : Fence} {n : Nat} {P : Program} (w : World) {ops : Array Oper} {rest : List Oper} {o : Oper} {a : Act} {Q : Exit → Act → World → Prop}
    (hg : o.guard = none) (s x : Operand) (t : TypeId) (hop : o.op = Op.call { callee := Callee.builtin Builtin.append, args := #[s, x], argTypes := #[t, t] })
    (base : Nat) (e : TypeId) (i : TypeInfo) (z : Value) (size bytes : Nat) (h1 : P.underlying t = some (.slice e)) (h2 : P.info? e = some i) (h3 : i.zero = some z) (h4 : i.size = size) (h5 : i.bytes = bytes) (h6 : z.cells.size = size) (h7 : 0 < size)
    (v : Value) (k : Nat) (xs : List Value) (hs : a.eval s = v) (hown : w.ownsRow base e size v k xs) (ad : Addr) (m c : Nat) (news : List Value) (hx : a.eval x = .slice (some ad) m c) (hn : news.length = m * size)
    (hc : ∀ j u, news[j]? = some u → w.cell? (ad.add j) = some u) (h1c : ∀ u ∈ news, u.oneCell' = true) (b0 : 0 < m) (b1 : k + m ≤ maxLen) (b2 : (k + m) * bytes ≤ 140737488355328) (b3 : base ≤ w.heap.size) (H : Nat) (hH : w.heap.size = H)
    (hK : ∀ g cap w', w'.ownsRow base e size (.slice (some ⟨g, 0, none⟩) (k + m) cap) (k + m) (xs ++ news) → w.grownBy w' v.ownBlock → (v.ownBlock = some g ∨ g = H) → g < w'.heap.size → wpListIn F n P ops Q rest (a.put o.dst (.slice (some ⟨g, 0, none⟩) (k + m) cap)) w') :
    wpListIn F n P ops Q (o :: rest) a w := by
  refine wpListIn_plain hg fun K hK' => ?_
  obtain ⟨g, cap, w', hrun, r1, r2, r3, r4⟩ := run_append_lies (P := P) w t o.type base e i z size bytes h1 h2 h3 h4 h5 h6 h7 v k xs hown ad m c news hn hc h1c b0 b1 b2 b3 H hH
  unfold Oper.wpIn
  refine ⟨?_, ?_⟩
  · simp [Oper.about, hop, resolve, Target.leads, Sem.run_pure]
  · rw [Oper.semAt_plain F _ _ (by rw [hop]; intro c hc'; cases hc')]
    simp [execOp, hop, resolve, invoke, builtin, hs, hx, hrun, Result.andThen]
    exact hK' _ _ (hK g cap w' r1 r2 r3 r4)
/-- Two variables' boxes, each holding a slice of numbers of its own. -/
structure TwoRows (W : World) (n₀ A B : Nat) (xs ys : List Int) (u v : Value) : Prop where
  ba : Boxed W A 23 u
  bb : Boxed W B 23 v
  ra : W.ownsRow n₀ 3 1 u xs.length (xs.map (Value.int .i64))
  rb : W.ownsRow n₀ 3 1 v ys.length (ys.map (Value.int .i64))
  ne : ∀ g, u.ownBlock = some g → v.ownBlock ≠ some g
theorem TwoRows.symm {W : World} {n₀ A B : Nat} {xs ys : List Int} {u v : Value} (h : TwoRows W n₀ A B xs ys u v) : TwoRows W n₀ B A ys xs v u :=
  ⟨h.bb, h.ba, h.rb, h.ra, fun g e e2 => h.ne g e2 e⟩
theorem TwoRows.app {W w1 : World} {n₀ A B : Nat} {xs ys : List Int} {u v : Value} (h : TwoRows W n₀ A B xs ys u v) (hn₀ : n₀ ≤ W.heap.size) (hB : n₀ ≤ B) (hAB : A ≠ B) {tmp : Obj} {g cap : Nat} {y : Int}
    (hown : w1.ownsRow n₀ 3 1 (.slice (some ⟨g, 0, none⟩) (ys.length + 1) cap) (ys.length + 1) (ys.map (Value.int .i64) ++ [.int .i64 y]))
    (hgrow : (W.alloc tmp).grownBy w1 v.ownBlock) (hat : v.ownBlock = some g ∨ g = W.heap.size + 1) :
    (w1.cell? ⟨B, 0, none⟩ = some v ∧ w1.frozen? ⟨B, 0, none⟩ = false) ∧ TwoRows (w1.setCell ⟨B, 0, none⟩ (.slice (some ⟨g, 0, none⟩) (ys.length + 1) cap)) n₀ A B xs (ys ++ [y]) u (.slice (some ⟨g, 0, none⟩) (ys.length + 1) cap) ∧
      KeepsOthers W (w1.setCell ⟨B, 0, none⟩ (.slice (some ⟨g, 0, none⟩) (ys.length + 1) cap)) ∧ Below n₀ W (w1.setCell ⟨B, 0, none⟩ (.slice (some ⟨g, 0, none⟩) (ys.length + 1) cap)) ∧
      ∀ (C : Nat) (t : TypeId) (z : Value), t ≠ 3 → C ≠ B → Boxed W C t z → Boxed (w1.setCell ⟨B, 0, none⟩ (.slice (some ⟨g, 0, none⟩) (ys.length + 1) cap)) C t z := by
  obtain ⟨b1, b2, b3, b4, b5⟩ := h.bb.appended (by decide) h.rb hn₀ hB hown hgrow
  have hoth : ∀ (C : Nat) (t : TypeId) (z : Value), t ≠ 3 → C ≠ B → Boxed W C t z → Boxed (w1.setCell ⟨B, 0, none⟩ (.slice (some ⟨g, 0, none⟩) (ys.length + 1) cap)) C t z := fun C t z ht hC hz =>
    ((hz.alloc tmp).kept hgrow (hz.not_row ht h.rb)).other hC _
  refine ⟨⟨b1.cell, b1.frozen⟩, ⟨hoth A 23 u (by decide) hAB h.ba, b2, ?_, ?_, ?_⟩, b4, b5, hoth⟩
  · refine ownsRow_setCell ((h.ra.alloc tmp).kept hgrow ?_) b1 (by decide) _
    cases hu : u.ownBlock with
    | none => exact .inl rfl
    | some k => exact .inr (fun e => h.ne k hu e.symm)
  · rw [List.length_append, List.map_append]; exact b3
  · intro k hk e
    have : g = k := by simpa [Value.ownBlock] using e
    subst this
    rcases hat with h1 | h1
    · exact h.ne g hk h1
    · have := (World.ownsRow.lt h.ra g hk).2
      omega
theorem TwoRows.grown {X Y : World} {row : Option Nat} {n₀ A B : Nat} {xs ys : List Int} {u v : Value} (h : TwoRows X n₀ A B xs ys u v) (hg : X.grownBy Y row) (hrow : ∀ r, row = some r → ∃ o : Obj, X.heap[r]? = some o ∧ o.isCells = false) : TwoRows Y n₀ A B xs ys u v := by
  have hb : ∀ {C : Nat} {t : TypeId} {z : Value}, Boxed X C t z → Boxed Y C t z := fun {C t z} hv => hv.kept hg (fun e' => by
    obtain ⟨o, ho, hc⟩ := hrow C e'.symm
    rw [show X.heap[C]? = _ from hv] at ho; cases ho; cases hc)
  have hr : ∀ {z : Value} {k : Nat} {zs : List Value}, X.ownsRow n₀ 3 1 z k zs → Y.ownsRow n₀ 3 1 z k zs := fun {z k zs} hz => hz.kept hg (by
    rcases hz.2 with ⟨rfl, _⟩ | ⟨g, cap, cur, rfl, _, hgb, _⟩
    · exact .inl rfl
    · refine .inr fun e' => ?_
      obtain ⟨o, ho, hc⟩ := hrow g (by simpa [Value.ownBlock] using e'.symm)
      rw [hgb] at ho; cases ho; cases hc)
  exact ⟨hb h.ba, hb h.bb, hr h.ra, hr h.rb, h.ne⟩
theorem two_own {β : Type} (n₀ A B : Nat) (f g : β → List Int) : Own (fun s W => ∃ u v, TwoRows W n₀ A B (f s) (g s) u v) := by
  rintro s X Y row ⟨u, v, h⟩ hg hrow
  exact ⟨u, v, h.grown hg hrow⟩
def badI (pre : List Item) : List Int := (pre.filter fun x => x.1.2 == -1).map fun x => (x.1.1 : Int)
def fixI (pre : List Item) : List Int := pre.map fun x => fixR x.1.2
theorem badI_bad (pre : List Item) (x : Item) (h : x.1.2 = -1) : badI (pre ++ [x]) = badI pre ++ [(x.1.1 : Int)] := by
  unfold badI; rw [List.filter_append, List.map_append]; simp [h]
theorem badI_good (pre : List Item) (x : Item) (h : ¬ x.1.2 = -1) : badI (pre ++ [x]) = badI pre := by
  unfold badI; rw [List.filter_append, List.map_append]; simp [h]
theorem fixI_snoc (pre : List Item) (x : Item) : fixI (pre ++ [x]) = fixI pre ++ [fixR x.1.2] := by unfold fixI; simp
theorem badI_len (pre : List Item) : (badI pre).length ≤ pre.length := by
  unfold badI; rw [List.length_map]; exact List.length_filter_le _ _
theorem fixI_len (pre : List Item) : (fixI pre).length = pre.length := by unfold fixI; simp
theorem its_bds : ∀ (ps : List (Int × Nat)) (a : Nat), ((its ps a).filter fun p => p.2 == -1).map (fun p => (p.1 : Int)) = bds ps a
  | [], _ => rfl
  | p :: t, a => by
    by_cases h : p.1 = -1
    · rw [bds_bad h]; simp only [its]; rw [List.filter_cons_of_pos (by simp [h]), List.map_cons, its_bds t]
    · rw [bds_good h]; simp only [its]; rw [List.filter_cons_of_neg (by simp [h]), its_bds t]
theorem bad_items {big : Bool} {l : List UInt8} {ys : List Item} (h : ys.map (·.1) = its (p16 big l) 0) : badI ys = b16 big l := by
  unfold b16; rw [← its_bds, ← h, List.filter_map, List.map_map]; rfl
theorem fix_items {big : Bool} {l : List UInt8} {ys : List Item} (h : ys.map (·.1) = its (p16 big l) 0) : fixI ys = x16 big l := by
  unfold x16; rw [sU_its, ← h, List.map_map, List.map_map]; rfl
set_option maxRecDepth 100000 in
set_option maxHeartbeats 2000000 in
theorem valid16_any (s : ByteArray) (big : Bool) (w : World) (hg : Gl w) (hs : s.size ≤ 100000) : Calls Tryd.prog 14 #[.string s, .bool big] w fun e w' => RetB (ok16 big s.data.toList) w e w' := by
  refine (callsIn_wide (n := 5)).1 ?_
  have h2 := hg.size
  refine callsIn_of_wp_marks Tryd.func14 rfl trivial ?_ rfl
  simp only [Tryd.ntmps14, List.size_toArray, List.length_cons, List.length_nil, Nat.reduceAdd, Nat.reduceSub, Array.replicate_succ, Array.replicate_zero, List.push_toArray, List.append_toArray, List.nil_append, List.cons_append]
  gi_wp2_with (refine ⟨trivial, ?_⟩; gi_at_call 20; refine (scalarsU_in _ s big _).mono ?_; rintro e w' ⟨rfl, rfl⟩)
  have bR := Boxed.new w 4 (.bool false)
  have bN := Boxed.new (w.alloc (.cells #[.bool false] 4)) 9 (.string s)
  rw [World.size_alloc] at bN
  have bG := Boxed.new ((w.alloc (.cells #[.bool false] 4)).alloc (.cells #[.string s] 9)) 4 (.bool big)
  rw [World.size_alloc, World.size_alloc] at bG
  have hB0 : Below w.heap.size w (((w.alloc (.cells #[.bool false] 4)).alloc (.cells #[.string s] 9)).alloc (.cells #[.bool big] 4)) := (((Below.refl _ w).alloc (Nat.le_refl _) _).alloc (by simp) _).alloc (by simp; omega) _
  refine wpIn_rangeFunc_ownG rfl (by omega) (gf := 32) (lb := #[.pointer (some ⟨w.heap.size + 1, 0, none⟩), .pointer (some ⟨w.heap.size + 1 + 1, 0, none⟩)]) rfl trivial (enters_of Tryd.func32 (by kernel_rfl) rfl)
    (scalarsU_stops 4 (by omega) (w.heap.size + 1) (w.heap.size + 1 + 1) w.heap.size s big hs _ (by omega) (by first | (simp; done) | (simp; omega)) (by simp) (by first | (simp; done) | (simp; omega)) (bN.alloc _).cell bG.cell) KpU.trans (kpU_b (by first | (simp; done) | (simp; omega)) (by first | (simp; done) | (simp; omega)) (by simp)) (Below.refl _ _) (fun _ => rfl)
    (fun pre W => ((∀ p ∈ pre, p.1.2 ≠ -1) ∧ W.cell? ⟨w.heap.size, 0, none⟩ = some (.bool false) ∧ W.frozen? ⟨w.heap.size, 0, none⟩ = false) ∧ Below w.heap.size w W)
    (fun c pre W => (c = .ret ∧ (∃ p ∈ pre, p.1.2 = -1) ∧ W.cell? ⟨w.heap.size, 0, none⟩ = some (.bool false)) ∧ Below w.heap.size w W)
    (OwnFrom.and (Own.from (fun s A B row hs hg hr => ⟨hs.1, cell_kept hs.2.1 hg hr, (frozen_kept hs.2.1 hg hr).trans hs.2.2⟩) _) (ownFrom_below (Nat.le_refl _) (by simp; omega)))
    (fun c => OwnFrom.and (Own.from (fun s A B row hs hg hr => by obtain ⟨hc, e1, e4⟩ := hs; exact ⟨hc, e1, cell_kept e4 hg hr⟩) _) (ownFrom_below (Nat.le_refl _) (by simp; omega)))
    ⟨⟨by simp, ((bR.alloc _).alloc _).cell, ((bR.alloc _).alloc _).frozen⟩, hB0⟩
    (fun x => { tmps := #[.string s, .bool big, undef, undef, .pointer (some ⟨w.heap.size, 0, none⟩), undef, .int .i64 x.1.2, .string s, .bool big, .func (.func 32) #[] #[.pointer (some ⟨w.heap.size + 1, 0, none⟩), .pointer (some ⟨w.heap.size + 1 + 1, 0, none⟩)], .int .i64 (x.1.1 : Int), .int .i64 x.1.2, undef, undef], defers := [] }) ?assign ?body ?done ?stop
  case assign =>
    intro l x W K hK
    simp only [encI]
    gi_wp2
    exact hK
  case body =>
    rintro l pre x W ⟨⟨hp, hcr, hfr⟩, hB⟩ _
    have HP := Lib.hid hp
    have HB := Lib.hid hB
    clear hp hB
    by_cases hx : x.1.2 = -1
    · have hxb : (x.1.2 == -1) = true := by simpa using hx
      have HX := Lib.hid hx
      clear hx
      gi_wp2
      exact ⟨(KeepsOthers.setCell _ _ _).from _, ⟨rfl, ⟨x, by simp, HX.out⟩, World.cell?_setCell_same' _ _ _ (by rw [hcr]; rfl)⟩, HB.out.setCell (p := ⟨w.heap.size, 0, none⟩) (Nat.le_refl _) _⟩
    · have hxb : (x.1.2 == -1) = false := by simpa using hx
      have HX := Lib.hid hx
      clear hx
      gi_wp2
      exact ⟨KeepsFrom.refl _ _, KpU.refl _ _ _ _, ⟨fun p hp' => (List.mem_append.1 hp').elim (HP.out p) (fun e => by simp at e; subst e; exact HX.out), hcr, hfr⟩, HB.out⟩
  case done =>
    rintro D ys W hD hy ⟨⟨hne, hcr, hfr⟩, hB⟩ hK
    have HOK := Lib.hid (okU_of_all hy hne)
    have HB := Lib.hid hB
    clear hy hne hB
    gi_wp2
    have hK' := (KeepsOthers.setCell W ⟨w.heap.size, 0, none⟩ (.bool true)).same D _ hK rfl
    refine ⟨by simp, .inl ⟨_, _, rfl, run_takeDeferred hK', ?_⟩⟩
    have hc5 := cell_kept (World.cell?_setCell_same' W ⟨w.heap.size, 0, none⟩ (.bool true) (by rw [hcr]; rfl)) (grownBy_putObj' _ D (.deferred none)) (fun r e => by cases e; exact ⟨_, hK', rfl⟩)
    refine ⟨.bool true, ?_, by rw [HOK.out], (HB.out.setCell (p := ⟨w.heap.size, 0, none⟩) (Nat.le_refl _) _).trans (belowK_b (w := w) (Nat.le_refl _) _ D _ _ (by simp at hD; omega) hK' rfl rfl)⟩
    simp [results, Tryd.f14, go_sem, hc5]
  case stop =>
    rintro D c pre W hD hsp ⟨⟨rfl, ⟨p, hp, hr⟩, hcr⟩, hB⟩ hK
    have HOK := Lib.hid (noU_of_one hsp hp hr)
    have HB := Lib.hid hB
    clear hsp hp hr hB
    gi_wp2
    refine ⟨by simp, .inl ⟨_, _, rfl, run_takeDeferred hK, ?_⟩⟩
    have hc5 := cell_kept hcr (grownBy_putObj' _ D (.deferred none)) (fun r e => by cases e; exact ⟨_, hK, rfl⟩)
    refine ⟨.bool false, ?_, by rw [HOK.out], HB.out.trans (belowK_b (w := w) (Nat.le_refl _) W D _ _ (by simp at hD; omega) hK rfl rfl)⟩
    simp [results, Tryd.f14, go_sem, hc5]
end Go.Proofs.YtnalnpidmmkfgaaDoor
