/- The contracts of pairs and Pairs, the program's. -/
import Derived.Test.YtdifocahmephjaaTG
import Derived.Test.YtdifocahmephjaaTSS
import Derived.Laws.OwnMore
namespace Go.Proofs.Ytdifocahmephjaa.Tab
open Go.RowKit Go.Maps
open Go.Sort (grow HoldsK putRowK putRow flatK SWO PermIn SortedIn putCells mapBlock onCells)
set_option linter.unusedVariables false
set_option linter.unusedSimpArgs false
set_option maxRecDepth 100000
theorem lt_whole (x y : Pr) : ltOf (fun x y : Pr => Lib.compareInt x.1 y.1) x y = decide (x.1 < y.1) := by
  unfold ltOf Lib.compareInt
  by_cases h1 : x.1 < y.1
  · simp [h1]
  · by_cases h2 : y.1 < x.1 <;> simp [h1, h2]
theorem swo_whole : SWO (ltOf fun x y : Pr => Lib.compareInt x.1 y.1) where
  irrefl x := by rw [lt_whole]; simp
  trans x y z h1 h2 := by rw [lt_whole] at *; simp at *; omega
  ntrans x y z h1 h2 := by rw [lt_whole] at *; simp at *; omega
set_option maxHeartbeats 1000000 in
theorem closure_any (x y : Pr) (W : World) : Calls Try.prog 39 #[.agg #[.int .i64 x.1, .int .i64 x.2.1, .int .i64 x.2.2], .agg #[.int .i64 y.1, .int .i64 y.2.1, .int .i64 y.2.2]] W fun e w' => e = .returned (.int .i64 (Lib.compareInt x.1 y.1)) ∧ ∃ q os', w' = grow (W.drewN q) os' := by
  have hcon := fun W' => AnyG.cmp_Compare_int Try.cmpInt x.1 y.1 W'
  change ∀ W', Calls Try.prog 40 _ _ _ at hcon
  generalize Lib.compareInt x.1 y.1 = r at hcon ⊢
  obtain ⟨a, b, c⟩ := x
  obtain ⟨a2, b2, c2⟩ := y
  go_enter Try.func39, Try.ntmps39
  go_wp2_with (go_at_call 40; refine (hcon _).mono ?_; rintro e w' ⟨rfl, rfl⟩)
  go_ret
  exact ⟨rfl, 0, _, by rw [Sort.alloc_eq_grow, Sort.alloc_eq_grow, Sort.grow_grow]; rfl⟩
theorem cmpLays_any (blk off size : Nat) (w : World) : CmpLays Try.prog 39 #[] encP 3 (fun x y => Lib.compareInt x.1 y.1) blk off size w :=
  fun _ _ _ _ x y => closure_any x y _
theorem flat_cells (d : Array Pr) : flatK encP 3 d = (cells3 d.toList).toArray := by
  apply Array.ext
  · simp [cells3_len]
  · intro t h1 h2
    have h1' : t < d.size * 3 := by simpa using h1
    have hi : t / 3 < d.toList.length := by simp; omega
    have hc := cells3_at d.toList (t / 3) hi
    have hg := Sort.get_flatK encP 3 d t h1'
    rw [getElem!_pos _ t h1] at hg
    rw [hg, getElem!_pos d (t / 3) (by simpa using hi)]
    have ht : t % 3 < 3 := Nat.mod_lt _ (by omega)
    have e0 : t = t / 3 * 3 + t % 3 := by omega
    rw [List.getElem_toArray]
    rw [List.getElem?_eq_some_iff, List.getElem?_eq_some_iff, List.getElem?_eq_some_iff] at hc
    obtain ⟨⟨_, c0⟩, ⟨_, c1⟩, ⟨_, c2⟩⟩ := hc
    simp only [Array.getElem_toList] at c0 c1 c2
    generalize hq : t / 3 = q at *
    rcases (show t % 3 = 0 ∨ t % 3 = 1 ∨ t % 3 = 2 by omega) with h | h | h
    · rw [h] at e0 ⊢; subst e0; simpa [encP] using c0.symm
    · rw [h] at e0 ⊢; subst e0; simpa [encP] using c1.symm
    · rw [h] at e0 ⊢; subst e0; simpa [encP] using c2.symm
theorem holds_own {w : World} {base g n cap : Nat} {e : TypeId} {l : List Pr} (h : w.ownsRow base e 3 (.slice (some ⟨g, 0, none⟩) n cap) n (cells3 l)) (hn : l.length = n) : HoldsK encP 3 w g 0 l.toArray ∧ g < w.heap.size := by
  rcases h.2 with ⟨h0, _⟩ | ⟨g', cap', cur, h0, hb, hg, hcap, hm, hcs, htake⟩
  · cases h0
  · cases h0
    refine ⟨fun j hj => ?_, (Array.getElem?_eq_some_iff.1 hg).1⟩
    have hj' : j < n * 3 := by rw [flat_cells] at hj; simpa [cells3_len, hn] using hj
    have hB : Blk w g cur e := hg
    rw [flat_cells, Nat.zero_add]
    refine ⟨?_, hB.froz j⟩
    rw [hB.cell, ← htake]
    have hjc : j < cur.size := by rw [hcs]; have := Nat.mul_le_mul_right 3 hcap; omega
    have hjt : j < (cur.toList.take (n * 3)).length := by simp; omega
    simp [hjc, hj']
theorem heap_sort {w : World} {g m : Nat} {d : Array Pr} {os : Array Obj} {cur : Array Value} {e : TypeId} {fr : Nat × Nat} (hg : w.heap[g]? = some (.cells cur e fr)) : (sortWorldK encP 3 w g 0 m d os).heap[g]? = some (.cells (putCells id 0 (flatK encP 3 d) cur) e fr) := by
  have hl : g < w.heap.size := (Array.getElem?_eq_some_iff.1 hg).1
  show ((w.heap.modify g (onCells (putCells id 0 (flatK encP 3 d)))) ++ os)[g]? = _
  rw [Array.getElem?_append_left (by simpa using hl), Array.getElem?_modify, if_pos rfl, hg]
  rfl
theorem heap_sort_other {w : World} {g m : Nat} {d : Array Pr} {os : Array Obj} {k : Nat} (hk : k < w.heap.size) (hne : k ≠ g) : (sortWorldK encP 3 w g 0 m d os).heap[k]? = w.heap[k]? := by
  show ((w.heap.modify g (onCells (putCells id 0 (flatK encP 3 d)))) ++ os)[k]? = _
  rw [Array.getElem?_append_left (by simpa using hk), Array.getElem?_modify, if_neg (fun e => hne e.symm)]
theorem own_sorted {w : World} {base g n cap m : Nat} {e : TypeId} {l : List Pr} {d : Array Pr} {os : Array Obj} (h : w.ownsRow base e 3 (.slice (some ⟨g, 0, none⟩) n cap) n (cells3 l)) (hd : d.size = n) :
    (sortWorldK encP 3 w g 0 m d os).ownsRow base e 3 (.slice (some ⟨g, 0, none⟩) n cap) n (cells3 d.toList) ∧ Below base w (sortWorldK encP 3 w g 0 m d os) := by
  rcases h.2 with ⟨h0, _⟩ | ⟨g', cap', cur, h0, hb, hg, hcap, hm, hcs, htake⟩
  · cases h0
  · cases h0
    have hsz : n * 3 ≤ cur.size := by rw [hcs]; exact Nat.mul_le_mul_right 3 hcap
    have hF : (flatK encP 3 d).size = n * 3 := by simp [hd]
    refine ⟨⟨by rw [cells3_len]; simp [hd], .inr ⟨g, cap, putCells id 0 (flatK encP 3 d) cur, rfl, hb, heap_sort hg, hcap, hm, by simp [putCells, hcs], ?_⟩⟩, ⟨rfl, rfl, rfl, by show _ ≤ ((w.heap.modify g _) ++ os).size; simp, fun k hk => heap_sort_other (Nat.lt_of_lt_of_le hk (Nat.le_trans hb (Nat.le_of_lt (Array.getElem?_eq_some_iff.1 hg).1))) (by omega)⟩⟩
    apply List.ext_getElem?
    intro j
    by_cases hj : j < n * 3
    · have hjc : j < cur.size := by omega
      have hjf : j < (flatK encP 3 d).size := by omega
      have hjl : j < (cells3 d.toList).length := by rw [cells3_len]; simpa [hd] using hj
      rw [List.getElem?_take_of_lt hj]
      simp only [putCells, Array.getElem?_toList, Array.getElem?_mapIdx, Array.getElem?_eq_getElem hjc, Option.map_some, Nat.zero_le, true_and, Nat.zero_add, Nat.sub_zero, id]
      rw [if_pos hjf, getElem!_pos _ j hjf, List.getElem?_eq_getElem hjl]
      congr 1
      have := flat_cells d
      simp only [this, List.getElem_toArray]
    · rw [List.getElem?_eq_none (by simp; omega), List.getElem?_eq_none (by rw [cells3_len]; simp [hd]; omega)]
theorem sorted_is {l S : List Pr} {d : Array Pr} {n : Nat} (hn : l.length = n) (hp : S.Perm l) (hs : S.Pairwise (fun p q => p.1 < q.1)) (h1 : PermIn 0 n l.toArray d) (h2 : SortedIn (ltOf fun x y : Pr => Lib.compareInt x.1 y.1) 0 n d) : d.toList = S := by
  obtain ⟨hsz, _, hperm⟩ := h1
  have hds : d.size = n := by rw [hsz]; simpa using hn
  rw [show d.extract 0 n = d by rw [← hds]; simp, show l.toArray.extract 0 n = l.toArray by rw [← hn]; simp] at hperm
  have hdS : d.toList.Perm S := hperm.trans hp.symm
  refine List.Perm.eq_of_pairwise (le := fun p q : Pr => p.1 ≤ q.1) (fun a b ha hb hab hba => ?_) ?_ (hs.imp (fun h => by omega)) hdS
  · have haS : a ∈ S := hdS.mem_iff.1 ha
    have he : a.1 = b.1 := by omega
    rcases List.getElem_of_mem haS with ⟨i, hi, rfl⟩
    rcases List.getElem_of_mem hb with ⟨j, hj, rfl⟩
    rw [List.pairwise_iff_getElem] at hs
    rcases Nat.lt_trichotomy i j with h | h | h
    · have := hs i j hi hj h; omega
    · subst h; rfl
    · have := hs j i hj hi h; omega
  · rw [List.pairwise_iff_getElem]
    intro i j hi hj hij
    have := h2 i j (Nat.zero_le _) hij (by simpa [hds] using hj)
    rw [lt_whole, decide_eq_false_iff_not] at this
    have e1 : d[i]! = d.toList[i] := by rw [getElem!_pos d i (by simpa using hi)]; simp
    have e2 : d[j]! = d.toList[j] := by rw [getElem!_pos d j (by simpa using hj)]; simp
    rw [e1, e2] at this
    omega
theorem infoQ : (Try.prog.info? 33).map (fun i => (i.zero, i.size, i.bytes)) = some (some (.agg #[.int .i64 0, .int .i64 0, .int .i64 0]), 3, 24) := by kernel_rfl
theorem make_pairs (n : Nat) (h7 : n ≤ 1000) (w : World) : (Instr.makeSlice 30 (.int .i64 0) (.int .i64 (n : Int))).run Try.prog w = .ok (.slice (some ⟨w.heap.size, 0, none⟩) 0 n) (w.alloc (.cells (madeCells #[.int .i64 0, .int .i64 0, .int .i64 0] (n * 3)) 33)) := by
  obtain ⟨i0, hi, hz0, hz1, hz2⟩ := info_rows infoQ
  have := run_makeSlice (P := Try.prog) w 30 33 i0 _ Try.underlying30 hi hz0 .i64 .i64 0 (n : Int) (by omega) (by omega) (by rw [hz1]; simp; omega) (by rw [hz2]; omega) (by omega)
  rw [hz1] at this
  simp only [Int.toNat_natCast, Int.toNat_zero] at this
  exact this
theorem own_made {w : World} {n : Nat} {e : TypeId} (h7 : n ≤ 1000) (z : Array Value) : (w.alloc (.cells (madeCells z (n * 3)) e)).ownsRow w.heap.size e 3 (.slice (some ⟨w.heap.size, 0, none⟩) 0 n) 0 (cells3 []) :=
  World.ownsRow_made w _ n (Nat.le_refl _) (by unfold maxLen; omega) (size_madeCells _ _)
theorem appR {W w1 : World} {n₀ n : Nat} {v : Value} {xs : List Value} {e : TypeId} {tmp : Obj} (hn : n₀ ≤ W.heap.size) (own : W.ownsRow n₀ e 3 v n xs) (hg : (W.alloc tmp).grownBy w1 v.ownBlock) : Below n₀ W w1 :=
  ((Below.refl n₀ W).alloc hn tmp).grown hg (by simp; omega) (fun k e => (World.ownsRow.lt own k e).1)
set_option maxHeartbeats 8000000 in
theorem pairs_any (l S : List Pr) (n : Nat) (hn : l.length = n) (h1 : 0 < n) (h7 : n ≤ 1000) (hp : S.Perm l) (hs : S.Pairwise (fun p q => p.1 < q.1)) (u : Value) (w : World) (hu : Tri w u l) :
    Calls Try.prog 25 #[u] w fun e w' => ∃ g cap, e = .returned (.slice (some ⟨g, 0, none⟩) n cap) ∧ w'.ownsRow w.heap.size 33 3 (.slice (some ⟨g, 0, none⟩) n cap) n (cells3 S) ∧ Below w.heap.size w w' := by
  obtain ⟨b, cap0, rfl, hb, hc⟩ := hu
  obtain ⟨i0, hi, hz0, hz1, hz2⟩ := info_rows infoQ
  have HC := Lib.hid hc
  have HN := Lib.hid hn
  have HS : Hid (∀ (d : Array Pr), PermIn 0 n l.toArray d → SortedIn (ltOf fun x y : Pr => Lib.compareInt x.1 y.1) 0 n d → d.toList = S ∧ d.size = n) := Lib.hid fun d h1 h2 => ⟨sorted_is hn hp hs h1 h2, by rw [h1.1]; simpa using hn⟩
  rw [hn]
  clear hc hn hp hs
  have hmk := make_pairs n h7
  have HM0 := Lib.hid (own_made (w := w) (e := 33) h7 #[.int .i64 0, .int .i64 0, .int .i64 0])
  have HB0 := Lib.hid ((Below.refl w.heap.size w).alloc (Nat.le_refl _) (.cells (madeCells #[.int .i64 0, .int .i64 0, .int .i64 0] (n * 3)) 33))
  go_enter Try.func25, Try.ntmps25
  go_wp2_with fail
  clear hmk
  go_loopg [3, 11] (n + 1) (fun gh q3 q11 wr => ∃ (k : Nat) (v : Value), k + gh = n + 1 ∧ v = q3 ∧ q11 = .int .i64 k ∧ k ≤ n ∧ Hid (wr.ownsRow w.heap.size 33 3 v k (cells3 (l.take k))) ∧ Hid (Below w.heap.size w wr))
  case atStart => exact ⟨0, _, by omega, rfl, rfl, by omega, HM0, HB0⟩
  case round =>
    obtain ⟨k, v, hkg, rfl, rfl, hkn, HO, HB⟩ := hrel
    by_cases hk : k < n
    · have hkl : k < l.length := by rw [HN.out]; exact hk
      obtain ⟨hc0, hc1, hc2⟩ := HC.out k hkl
      have hc0 := (HB.out.cell (p := ⟨b, k * 3, none⟩) hb).trans hc0
      have hc1 := (HB.out.cell (p := ⟨b, k * 3 + 1, none⟩) hb).trans hc1
      have hc2 := (HB.out.cell (p := ⟨b, k * 3 + 2, none⟩) hb).trans hc2
      have HT : Hid (l.take (k + 1) = l.take k ++ [l[k]]) := Lib.hid (List.take_succ_eq_append_getElem hkl)
      obtain ⟨p, hp⟩ : ∃ p, l[k] = p := ⟨_, rfl⟩
      rw [hp] at hc0 hc1 hc2 HT
      clear hp
      obtain ⟨pa, pb, pc⟩ := p
      simp only at hc0 hc1 hc2
      have hki : (k : Int) < (n : Int) := by omega
      have hwz := HB.out.size
      have O1 := Lib.hid (HO.out.alloc (.cells #[.int .i64 pa, .int .i64 pb, .int .i64 pc] 40))
      have B1 := Lib.hid (HB.out.alloc HB.out.size (.cells #[.int .i64 pa, .int .i64 pb, .int .i64 pc] 40))
      go_wp2_with (at_builtin; refine wpList_append_lies _ rfl _ _ _ rfl w.heap.size 33 i0 _ 3 24 Try.underlying30 hi hz0 hz1 hz2 rfl (by omega) v k (cells3 (l.take k)) rfl (World.ownsRow.alloc O1.out _) ⟨wr.heap.size + 1, 0, none⟩ 1 1 [.int .i64 pa, .int .i64 pb, .int .i64 pc] rfl rfl (by have := World.news_of_block (t := 33) (fr := (0, 0)) (heap_alloc_new (wr.alloc (.cells #[.int .i64 pa, .int .i64 pb, .int .i64 pc] 40)) (.cells #[.int .i64 pa, .int .i64 pb, .int .i64 pc] 33)); simpa using this) (by simp [Value.oneCell']) (by omega) (by unfold maxLen; omega) (by omega) (by simp; omega) (wr.heap.size + 1 + 1) (by simp) ?_; intro g3 cap3 w3 hown3 hgrow3 hat3 hlt3
                   have B3 := Lib.hid (B1.out.trans (appR B1.out.size O1.out hgrow3))
                   have O3 : Hid (w3.ownsRow w.heap.size 33 3 (.slice (some ⟨g3, 0, none⟩) (k + 1) cap3) (k + 1) (cells3 (l.take (k + 1)))) := Lib.hid (by rw [HT.out, cells3_app]; exact hown3)
                   clear hown3 hgrow3 hat3 hlt3)
      go_roundg (gk - 1)
      case measure => omega
      case rel => exact ⟨k + 1, _, by omega, rfl, by simp, by omega, O3, B3⟩
    · have hkk : k = n := by omega
      subst hkk
      have HE : Hid (l.take k = l) := Lib.hid (List.take_of_length_le (by rw [HN.out]; omega))
      obtain ⟨g, cap, rfl, hown⟩ : ∃ g cap, v = .slice (some ⟨g, 0, none⟩) k cap ∧ wr.ownsRow w.heap.size 33 3 v k (cells3 l) := by
        have ho := HO.out
        rw [HE.out] at ho
        rcases ho.2 with ⟨_, h0⟩ | ⟨g, cap, cur, rfl, _⟩
        · omega
        · exact ⟨g, cap, rfl, ho⟩
      have HH := holds_own hown HN.out
      have eg : ∀ args w, (callFunc 39 args).run Try.prog w = .ok (.enter 39 args) w := enters_of Try.func39 (by kernel_rfl) rfl
      have hlen : l.toArray.size = k := by simpa using HN.out
      have hcon := AnyQ.slices_SortFunc Try.sortPair 3 Try.isAgg33 Try.sizeOf33 encP (fun _ => rfl) (fun x v hv => by simp [encP] at hv; rcases hv with rfl | rfl | rfl <;> rfl) (fun x y => Lib.compareInt x.1 y.1) swo_whole 39 #[] g 0 cap l.toArray wr eg (cmpLays_any g 0 l.toArray.size wr) HH.1 HH.2 (by omega)
      rw [hlen] at hcon
      have HCN : Hid (Calls Try.prog 38 #[.slice (some ⟨g, 0, none⟩) k cap, .func (.func 39) #[] #[]] wr fun e w' => e = .returned (.tuple #[]) ∧ w'.ownsRow w.heap.size 33 3 (.slice (some ⟨g, 0, none⟩) k cap) k (cells3 S) ∧ Below w.heap.size wr w') := Lib.hid (by
        refine Calls.mono hcon ?_
        rintro e w' ⟨he, d', m, os, h2, h3, rfl⟩
        obtain ⟨e1, e2⟩ := HS.out d' h2 h3
        have := own_sorted (m := m) (os := os) hown e2
        rw [e1] at this
        exact ⟨he, this.1, this.2⟩)
      clear hcon HH eg hlen hown HO
      go_wp2_with (go_at_call 38; refine (HCN.out).mono ?_; rintro e w4 ⟨rfl, ho4, hb4⟩; have HO4 := Lib.hid ho4; have HB4 := Lib.hid hb4; clear ho4 hb4)
      go_ret
      exact ⟨g, cap, rfl, HO4.out, HB.out.trans HB4.out⟩
end Go.Proofs.Ytdifocahmephjaa.Tab
