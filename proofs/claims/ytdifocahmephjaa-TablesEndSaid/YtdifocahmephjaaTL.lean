/- The contract of the document's own put. -/
import Derived.Test.YtdifocahmephjaaTK
import Derived.Laws.AppendOwnNone
namespace Go.Proofs.Ytdifocahmephjaa.Tab
open Go.RowKit Go.Maps
set_option linter.unusedVariables false
set_option linter.unusedSimpArgs false
set_option maxRecDepth 100000
theorem slice_from (g n cap k : Nat) (hk : k ≤ n) (hn : n ≤ cap) : ∃ a, (k < n → a = (⟨g, k * 3, none⟩ : Addr)) ∧ ∀ w, (Instr.slice 30 (.slice (some ⟨g, 0, none⟩) n cap) (some (.int .i64 (k : Int))) none none).run Try.prog w = .ok (.slice (some a) (n - k) (cap - k)) w := by
  have h0 : (0 : Int) ≤ (k : Int) := by omega
  have h1 : (k : Int) ≤ (n : Int) := by omega
  obtain ⟨i0, hi, hz0, hz1, hz2⟩ := info_rows infoQ
  refine ⟨if cap = k then ⟨g, 0, none⟩ else ⟨g, k * 3, none⟩, fun h => if_neg (by omega), fun w => ?_⟩
  by_cases hc : cap = k
  · simp [Instr.slice, Instr.sliceBounds, run_underlying Try.underlying30, sizeOf, typeInfo, hi, hz1, run_sliceBound, h0, h1, hc]
  · simp [Instr.slice, Instr.sliceBounds, run_underlying Try.underlying30, sizeOf, typeInfo, hi, hz1, run_sliceBound, h0, h1, hc, Addr.add_lit]
/-- A slice cut from a place on, at the operation. -/
theorem wpList_slice_to {P : Program} (w : World) {ops : Array Oper} {rest : List Oper} {o : Oper} {a : Act} {Q : Exit → Act → World → Prop}
    (hg : o.guard = none) (T : TypeId) (x lo : Operand) (hop : o.op = Op.slice T x (some lo) none none) (hT : P.underlying T = some (.slice (P.elem T))) (X L v : Value) (hrun : ∀ w, (Instr.slice T X (some L) none none).run P w = .ok v w) (hx : a.eval x = X) (hl : a.eval lo = L)
    (hK : wpList P ops Q rest (a.put o.dst v) w) : wpList P ops Q (o :: rest) a w := by
  refine wpList_plain hg fun K' hK' => ?_
  have h : (Instr.sliceAt T X (some L) none none).run P w = .ok v w := by rw [← hrun w]; simp [Instr.sliceAt, run_underlying hT]
  unfold Oper.wp
  simp only [execOp, hop, Option.map_some, Option.map_none, hx, hl, h, Sem.run_bind, Sem.run_pure, Result.andThen_ok]
  exact hK' _ _ hK
theorem take_while_is {acc : List Pr} {p : Pr} {k : Nat} (h : ∀ i (hi : i < acc.length), i < k → acc[i].1 < p.1) (hk : k = acc.length ∨ ∃ hk : k < acc.length, ¬ acc[k].1 < p.1) : putP acc p = acc.take k ++ p :: acc.drop k := by
  have h2 : acc.takeWhile (fun q => decide (q.1 < p.1)) = acc.take k ∧ acc.dropWhile (fun q => decide (q.1 < p.1)) = acc.drop k := by
    induction acc generalizing k with
    | nil => simp
    | cons a t ih =>
      cases k with
      | zero =>
        rcases hk with e | ⟨_, e⟩
        · simp at e
        · simp only [List.getElem_cons_zero] at e
          simp [e]
      | succ m =>
        have h0 := h 0 (by simp) (by omega)
        simp only [List.getElem_cons_zero] at h0
        have := ih (k := m) (fun i hi him => by have := h (i + 1) (by simpa using hi) (by omega); simpa using this) (by
          rcases hk with e | ⟨e1, e2⟩
          · left; simpa using e
          · right; exact ⟨by simpa using e1, by simpa using e2⟩)
        simp [h0, this.1, this.2]
  unfold putP
  rw [h2.1, h2.2]
theorem cells3_drop (acc : List Pr) (k : Nat) (hk : k ≤ acc.length) (j : Nat) : (cells3 acc)[k * 3 + j]? = (cells3 (acc.drop k))[j]? := by
  have h := cells3_app (acc.take k) (acc.drop k)
  rw [List.take_append_drop] at h
  rw [h, List.getElem?_append_right (by rw [cells3_len, List.length_take]; omega)]
  congr 1
  rw [cells3_len, List.length_take, Nat.min_eq_left hk]
  omega
theorem own_drawn {w : World} {base e size n : Nat} {v : Value} {xs : List Value} (h : w.ownsRow base e size v n xs) (q : Nat) : (w.drewN q).ownsRow base e size v n xs := h
def PutS (acc : List Pr) (p : Pr) (w : World) (e : Ending) (w' : World) : Prop := ∃ v, e = .returned v ∧ w'.ownsRow w.heap.size 33 3 v (acc.length + 1) (cells3 (putP acc p)) ∧ Below w.heap.size w w'
set_option maxHeartbeats 4000000 in
theorem put_nil (p : Pr) (w : World) : Calls Try.prog 29 #[.slice none 0 0, .agg #[.int .i64 p.1, .int .i64 p.2.1, .int .i64 p.2.2]] w fun e w' => PutS [] p w e w' := by
  obtain ⟨pa, pb, pc⟩ := p
  obtain ⟨i0, hi, hz0, hz1, hz2⟩ := info_rows infoQ
  have HE : Hid (putP [] (pa, pb, pc) = [(pa, pb, pc)]) := Lib.hid rfl
  obtain ⟨wr, hwr⟩ : ∃ wr, w.alloc (.cells #[.int .i64 pa, .int .i64 pb, .int .i64 pc] 33) = wr := ⟨_, rfl⟩
  have hk := Blk.new w #[.int .i64 pa, .int .i64 pb, .int .i64 pc] 33
  have HB := Lib.hid ((Below.refl (w.heap.size + 1) wr))
  have HB0 : Hid (Below w.heap.size w wr) := Lib.hid (by rw [← hwr]; exact (Below.refl _ _).alloc (Nat.le_refl _) _)
  have hwz : w.heap.size + 1 ≤ wr.heap.size := by rw [← hwr]; simp
  have HO := Lib.hid (World.ownsRow_nil wr (w.heap.size + 1) 33 3)
  rw [hwr] at hk
  have hc0 : wr.cell? ⟨w.heap.size, 0, none⟩ = some (.int .i64 pa) := by rw [hk.cell]; rfl
  have hc1 : wr.cell? ⟨w.heap.size, 1, none⟩ = some (.int .i64 pb) := by rw [hk.cell]; rfl
  have hc2 : wr.cell? ⟨w.heap.size, 2, none⟩ = some (.int .i64 pc) := by rw [hk.cell]; rfl
  clear hk
  unfold PutS
  go_enter Try.func29, Try.ntmps29
  go_wp2_with fail
  clear hwr
  go_loopg [5, 6] 1 (fun gh q5 q6 w2 => gh = 1 ∧ q5 = .slice none 0 0 ∧ q6 = .int .i64 0 ∧ w2 = wr)
  case atStart => exact ⟨rfl, rfl, rfl, rfl⟩
  case round =>
    obtain ⟨_, rfl, rfl, rfl⟩ := hrel
    go_wp2_with fail
    go_quiet (fail)
    have HOq := Lib.hid (own_drawn HO.out nq)
    have HBq := Lib.hid (below_draws HB.out nq)
    have hd0 : (wr.drewN nq).cell? ⟨w.heap.size, 0, none⟩ = some (.int .i64 pa) := hc0
    have hd1 : (wr.drewN nq).cell? ⟨w.heap.size, 1, none⟩ = some (.int .i64 pb) := hc1
    have hd2 : (wr.drewN nq).cell? ⟨w.heap.size, 2, none⟩ = some (.int .i64 pc) := hc2
    have hwq : w.heap.size + 1 ≤ (wr.drewN nq).heap.size := hwz
    generalize hwqq : wr.drewN nq = wq at HOq HBq hd0 hd1 hd2 hwq ⊢
    clear hwqq hc0 hc1 hc2 HO HB
    go_wp2_with (first
      | (at_builtin; refine wpList_append_lies _ rfl _ _ _ rfl (w.heap.size + 1) 33 i0 _ 3 24 Try.underlying30 hi hz0 hz1 hz2 rfl (by omega) (.slice none 0 0) 0 ([]) rfl (World.ownsRow.alloc HOq.out _) ⟨wq.heap.size, 0, none⟩ 1 1 [.int .i64 pa, .int .i64 pb, .int .i64 pc] rfl rfl (by have := World.news_of_block (t := 33) (fr := (0, 0)) (heap_alloc_new wq (.cells #[.int .i64 pa, .int .i64 pb, .int .i64 pc] 33)); simpa using this) (by simp [Value.oneCell']) (by omega) (by unfold maxLen; omega) (by omega) (by simp; omega) (wq.heap.size + 1) (by simp) ?_; intro g3 cap3 w3 hown3 hgrow3 hat3 hlt3
         have B3 := Lib.hid (HBq.out.trans (appR hwq HOq.out hgrow3))
         have hw3 := B3.out.size
         have O3 := Lib.hid hown3
         clear hown3 hgrow3 hat3 hlt3 HOq)
      | (at_builtin; refine wpList_append_own_none rfl _ _ _ rfl (w.heap.size + 1) 33 i0 3 Try.underlying30 hi (.slice (some ⟨g3, 0, none⟩) (0 + 1) cap3) (0 + 1) ([] ++ [.int .i64 pa, .int .i64 pb, .int .i64 pc]) rfl O3.out rfl ?_))
    go_ret
    refine ⟨_, rfl, ?_, HB0.out.trans (B3.out.mono (by omega))⟩
    rw [HE.out]
    exact own_base O3.out (by omega)
set_option maxHeartbeats 8000000 in
theorem put_some (acc : List Pr) (n g cap base : Nat) (hn : acc.length = n) (h7 : n ≤ 1000) (p : Pr) (w : World) (hu : w.ownsRow base 33 3 (.slice (some ⟨g, 0, none⟩) n cap) n (cells3 acc)) : Calls Try.prog 29 #[.slice (some ⟨g, 0, none⟩) n cap, .agg #[.int .i64 p.1, .int .i64 p.2.1, .int .i64 p.2.2]] w fun e w' => PutS acc p w e w' := by
  obtain ⟨pa, pb, pc⟩ := p
  obtain ⟨i0, hi, hz0, hz1, hz2⟩ := info_rows infoQ
  obtain ⟨hgl, hcap⟩ : g < w.heap.size ∧ n ≤ cap := by
    rcases hu.2 with ⟨h0, _⟩ | ⟨g', cap', cur, h0, hb, hg, hc, _⟩
    · cases h0
    · cases h0
      exact ⟨(Array.getElem?_eq_some_iff.1 hg).1, hc⟩
  have HC : Hid (∀ i (h : i < acc.length), w.cell? ⟨g, i * 3, none⟩ = some (.int .i64 acc[i].1) ∧ w.cell? ⟨g, i * 3 + 1, none⟩ = some (.int .i64 acc[i].2.1) ∧ w.cell? ⟨g, i * 3 + 2, none⟩ = some (.int .i64 acc[i].2.2)) := Lib.hid fun i hi => by
    have h1 := hu.cellAt (i * 3) (by omega)
    have h2 := hu.cellAt (i * 3 + 1) (by omega)
    have h3 := hu.cellAt (i * 3 + 2) (by omega)
    have h4 := cells3_at acc i hi
    exact ⟨h1.trans h4.1, h2.trans h4.2.1, h3.trans h4.2.2⟩
  have HCS := Lib.hid (World.ownsRow.cells hu (g := g) rfl)
  have HN := Lib.hid hn
  obtain ⟨w1, hwr⟩ : ∃ w1, w.alloc (.cells #[.int .i64 pa, .int .i64 pb, .int .i64 pc] 33) = w1 := ⟨_, rfl⟩
  have hk := Blk.new w #[.int .i64 pa, .int .i64 pb, .int .i64 pc] 33
  have HB0 : Hid (Below w.heap.size w w1) := Lib.hid (by rw [← hwr]; exact (Below.refl _ _).alloc (Nat.le_refl _) _)
  have hwz1 : w.heap.size + 1 ≤ w1.heap.size := by rw [← hwr]; simp
  have HO := Lib.hid (World.ownsRow_nil w1 (w.heap.size + 1) 33 3)
  rw [hwr] at hk
  have HK0 : Hid (∀ W, Below (w.heap.size + 1) w1 W → W.cell? ⟨w.heap.size, 0, none⟩ = some (.int .i64 pa) ∧ W.cell? ⟨w.heap.size, 1, none⟩ = some (.int .i64 pb) ∧ W.cell? ⟨w.heap.size, 2, none⟩ = some (.int .i64 pc)) := Lib.hid fun W hb => by
    have h2 : Blk W w.heap.size #[.int .i64 pa, .int .i64 pb, .int .i64 pc] 33 := (hb.block _ (by omega)).trans hk
    exact ⟨by rw [h2.cell]; rfl, by rw [h2.cell]; rfl, by rw [h2.cell]; rfl⟩
  clear hk hu
  have hnn : acc.length = n := hn
  unfold PutS
  rw [hn]
  clear hn hnn
  go_enter Try.func29, Try.ntmps29
  go_wp2_with fail
  clear hwr
  go_loopg [5, 6] (n + 1) (fun gh q5 q6 wr => ∃ (k : Nat) (v : Value), k + gh = n + 1 ∧ v = q5 ∧ q6 = .int .i64 k ∧ k ≤ n ∧ Hid (wr.ownsRow (w.heap.size + 1) 33 3 v k (cells3 (acc.take k))) ∧ Hid (Below (w.heap.size + 1) w1 wr) ∧ Hid (∀ i (h : i < acc.length), i < k → acc[i].1 < pa))
  case atStart => exact ⟨0, _, by omega, rfl, rfl, by omega, HO, Lib.hid (Below.refl _ _), Lib.hid (fun i _ h => by omega)⟩
  case round =>
    clear HO
    obtain ⟨k, v, hkg, rfl, rfl, hkn, HO, HB, HL⟩ := hrel
    have hwz : w.heap.size + 1 ≤ wr.heap.size := Nat.le_trans hwz1 HB.out.size
    obtain ⟨hc0, hc1, hc2⟩ := HK0.out _ HB.out
    have HBW := Lib.hid (HB0.out.trans (HB.out.mono (Nat.le_succ _)))
    have HLT : Hid ((cells3 (acc.take k)).length = k * 3 ∧ (cells3 (acc.drop k)).length = (n - k) * 3 ∧ ∀ u ∈ cells3 (acc.drop k), u.oneCell' = true) := Lib.hid ⟨by rw [cells3_len, List.length_take, HN.out, Nat.min_eq_left hkn], by rw [cells3_len, List.length_drop, HN.out], cells3_one _⟩
    have h0k : (0 : Int) ≤ (k : Int) := by omega
    by_cases hk : k < n
    · have hkl : k < acc.length := by rw [HN.out]; exact hk
      obtain ⟨ha0, ha1, ha2⟩ := HC.out k hkl
      have ha0 := (HBW.out.cell (p := ⟨g, k * 3, none⟩) hgl).trans ha0
      have ha1 := (HBW.out.cell (p := ⟨g, k * 3 + 1, none⟩) hgl).trans ha1
      have ha2 := (HBW.out.cell (p := ⟨g, k * 3 + 2, none⟩) hgl).trans ha2
      have HT : Hid (acc.take (k + 1) = acc.take k ++ [acc[k]]) := Lib.hid (List.take_succ_eq_append_getElem hkl)
      have hki : (k : Int) < (n : Int) := by omega
      by_cases hlt : acc[k].1 < pa
      · have HL2 : Hid (∀ i (h : i < acc.length), i < k + 1 → acc[i].1 < pa) := Lib.hid fun i h hi => by
          rcases Nat.lt_or_ge i k with h1 | h1
          · exact HL.out i h h1
          · have : i = k := by omega
            subst this; exact hlt
        obtain ⟨q, hq⟩ : ∃ q, acc[k] = q := ⟨_, rfl⟩
        rw [hq] at ha0 ha1 ha2 HT hlt
        clear hq
        obtain ⟨qa, qb, qc⟩ := q
        simp only at ha0 ha1 ha2 hlt
        have hd : decide (qa < pa) = true := by simpa using hlt
        clear hlt
        go_wp2_with fail
        go_quiet (fail)
        have O1 := Lib.hid (own_drawn HO.out nq)
        have B1 := Lib.hid (below_draws HB.out nq)
        have hd0 : (wr.drewN nq).cell? ⟨g, k * 3, none⟩ = some (.int .i64 qa) := ha0
        have hd1 : (wr.drewN nq).cell? ⟨g, k * 3 + 1, none⟩ = some (.int .i64 qb) := ha1
        have hd2 : (wr.drewN nq).cell? ⟨g, k * 3 + 2, none⟩ = some (.int .i64 qc) := ha2
        have hwq : w.heap.size + 1 ≤ (wr.drewN nq).heap.size := hwz
        generalize hwqq : wr.drewN nq = wq at O1 B1 hd0 hd1 hd2 hwq ⊢
        clear hwqq hc0 hc1 hc2 ha0 ha1 ha2 HO HB HBW
        go_wp2_with (at_builtin; refine wpList_append_lies _ rfl _ _ _ rfl (w.heap.size + 1) 33 i0 _ 3 24 Try.underlying30 hi hz0 hz1 hz2 rfl (by omega) v k (cells3 (acc.take k)) rfl (World.ownsRow.alloc O1.out _) ⟨wq.heap.size, 0, none⟩ 1 1 [.int .i64 qa, .int .i64 qb, .int .i64 qc] rfl rfl (by have := World.news_of_block (t := 33) (fr := (0, 0)) (heap_alloc_new wq (.cells #[.int .i64 qa, .int .i64 qb, .int .i64 qc] 33)); simpa using this) (by simp [Value.oneCell']) (by omega) (by unfold maxLen; omega) (by omega) (by simp; omega) (wq.heap.size + 1) (by simp) ?_; intro g3 cap3 w3 hown3 hgrow3 hat3 hlt3
                     have B3 := Lib.hid (B1.out.trans (appR hwq O1.out hgrow3))
                     have O3 : Hid (w3.ownsRow (w.heap.size + 1) 33 3 (.slice (some ⟨g3, 0, none⟩) (k + 1) cap3) (k + 1) (cells3 (acc.take (k + 1)))) := Lib.hid (by rw [HT.out, cells3_app]; exact hown3)
                     clear hown3 hgrow3 hat3 hlt3)
        go_roundg (gk - 1)
        case measure => omega
        case rel => exact ⟨k + 1, _, by omega, rfl, by simp, by omega, O3, B3, HL2⟩
      · have HP : Hid (putP acc (pa, pb, pc) = acc.take k ++ (pa, pb, pc) :: acc.drop k) := Lib.hid (take_while_is HL.out (.inr ⟨hkl, hlt⟩))
        obtain ⟨q, hq⟩ : ∃ q, acc[k] = q := ⟨_, rfl⟩
        rw [hq] at ha0 ha1 ha2 hlt
        clear hq
        obtain ⟨qa, qb, qc⟩ := q
        simp only at ha0 ha1 ha2 hlt
        have hd : decide (qa < pa) = false := by simpa using hlt
        clear hlt HT ha1 ha2
        obtain ⟨ad, had, hsl⟩ := slice_from g n cap k hkn hcap
        have HSL := Lib.hid hsl
        have HNW : Hid (∀ W, Below w.heap.size w W → ∀ j u, (cells3 (acc.drop k))[j]? = some u → W.cell? (ad.add j) = some u) := Lib.hid fun W hb j u hj => by
          have hkl2 : k < n := by
            rcases Nat.lt_or_ge k n with h | h
            · exact h
            · rw [List.drop_of_length_le (by rw [HN.out]; exact h)] at hj
              simp [cells3] at hj
          rw [had hkl2]
          have e : (cells3 acc)[k * 3 + j]? = some u := by
            rw [cells3_drop acc k (by rw [HN.out]; exact hkn) j]; exact hj
          have h2 := HCS.out _ _ e
          rw [Addr.add_lit] at h2
          rw [Addr.add_lit]
          rw [Nat.zero_add] at h2
          exact (hb.cell (p := ⟨g, k * 3 + j, none⟩) hgl).trans h2
        clear had hsl
        go_wp2_with fail
        go_quiet (fail)
        have HOq := Lib.hid (own_drawn HO.out nq)
        have HBq := Lib.hid (below_draws HB.out nq)
        have hd0 : (wr.drewN nq).cell? ⟨w.heap.size, 0, none⟩ = some (.int .i64 pa) := hc0
        have hd1 : (wr.drewN nq).cell? ⟨w.heap.size, 1, none⟩ = some (.int .i64 pb) := hc1
        have hd2 : (wr.drewN nq).cell? ⟨w.heap.size, 2, none⟩ = some (.int .i64 pc) := hc2
        have hwq : w.heap.size + 1 ≤ (wr.drewN nq).heap.size := hwz
        generalize hwqq : wr.drewN nq = wq at HOq HBq hd0 hd1 hd2 hwq ⊢
        clear hwqq hc0 hc1 hc2 HO HB ha0
        go_wp2_with (first
          | (at_builtin; refine wpList_append_lies _ rfl _ _ _ rfl (w.heap.size + 1) 33 i0 _ 3 24 Try.underlying30 hi hz0 hz1 hz2 rfl (by omega) v k (cells3 (acc.take k)) rfl (World.ownsRow.alloc HOq.out _) ⟨wq.heap.size, 0, none⟩ 1 1 [.int .i64 pa, .int .i64 pb, .int .i64 pc] rfl rfl (by have := World.news_of_block (t := 33) (fr := (0, 0)) (heap_alloc_new wq (.cells #[.int .i64 pa, .int .i64 pb, .int .i64 pc] 33)); simpa using this) (by simp [Value.oneCell']) (by omega) (by unfold maxLen; omega) (by omega) (by simp; omega) (wq.heap.size + 1) (by simp) ?_; intro g3 cap3 w3 hown3 hgrow3 hat3 hlt3
             have B3 := Lib.hid (HBq.out.trans (appR hwq HOq.out hgrow3))
             have hw3 := B3.out.size
             have O3 := Lib.hid hown3
             clear hown3 hgrow3 hat3 hlt3 HOq)
          | (refine wpList_slice_to _ rfl 30 _ _ rfl Try.underlying30 (.slice (some ⟨g, 0, none⟩) n cap) (.int .i64 (k : Int)) _ HSL.out rfl rfl ?_)
          | (at_builtin; refine wpList_append_own _ rfl _ _ _ rfl (w.heap.size + 1) 33 i0 _ 3 24 Try.underlying30 hi hz0 hz1 hz2 rfl (by omega) (.slice (some ⟨g3, 0, none⟩) (k + 1) cap3) (k + 1) _ rfl O3.out ad (n - k) (cap - k) (cells3 (acc.drop k)) rfl HLT.out.2.1 (HNW.out _ (HB0.out.trans (B3.out.mono (Nat.le_succ _)))) HLT.out.2.2 (by unfold maxLen; omega) (by omega) (by omega) ?_; intro v4 w4 hown4 hgrow4 hnone4
             have B4 : Hid (Below (w.heap.size + 1) w1 w4) := Lib.hid (B3.out.grown hgrow4 (by omega) (fun k e => (World.ownsRow.lt O3.out k e).1))
             have O4 := Lib.hid hown4
             clear hown4 hgrow4 hnone4))
        go_ret
        refine ⟨v4, rfl, ?_, HB0.out.trans (B4.out.mono (Nat.le_succ _))⟩
        have h := O4.out
        rw [show k + 1 + (n - k) = n + 1 by omega] at h
        rw [HP.out, show acc.take k ++ (pa, pb, pc) :: acc.drop k = (acc.take k ++ [(pa, pb, pc)]) ++ acc.drop k by simp, cells3_app, cells3_app]
        exact own_base h (Nat.le_succ _)
    · have HP : Hid (putP acc (pa, pb, pc) = acc.take k ++ (pa, pb, pc) :: acc.drop k) := Lib.hid (take_while_is HL.out (.inl (by rw [HN.out]; omega)))
      have hki : ¬ (k : Int) < (n : Int) := by omega
      obtain ⟨ad, had, hsl⟩ := slice_from g n cap k hkn hcap
      have HSL := Lib.hid hsl
      have HNW : Hid (∀ W, Below w.heap.size w W → ∀ j u, (cells3 (acc.drop k))[j]? = some u → W.cell? (ad.add j) = some u) := Lib.hid fun W hb j u hj => by
        have hkl2 : k < n := by
          rcases Nat.lt_or_ge k n with h | h
          · exact h
          · rw [List.drop_of_length_le (by rw [HN.out]; exact h)] at hj
            simp [cells3] at hj
        rw [had hkl2]
        have e : (cells3 acc)[k * 3 + j]? = some u := by
          rw [cells3_drop acc k (by rw [HN.out]; exact hkn) j]; exact hj
        have h2 := HCS.out _ _ e
        rw [Addr.add_lit] at h2
        rw [Addr.add_lit]
        rw [Nat.zero_add] at h2
        exact (hb.cell (p := ⟨g, k * 3 + j, none⟩) hgl).trans h2
      clear had hsl
      go_wp2_with fail
      go_quiet (fail)
      have HOq := Lib.hid (own_drawn HO.out nq)
      have HBq := Lib.hid (below_draws HB.out nq)
      have hd0 : (wr.drewN nq).cell? ⟨w.heap.size, 0, none⟩ = some (.int .i64 pa) := hc0
      have hd1 : (wr.drewN nq).cell? ⟨w.heap.size, 1, none⟩ = some (.int .i64 pb) := hc1
      have hd2 : (wr.drewN nq).cell? ⟨w.heap.size, 2, none⟩ = some (.int .i64 pc) := hc2
      have hwq : w.heap.size + 1 ≤ (wr.drewN nq).heap.size := hwz
      generalize hwqq : wr.drewN nq = wq at HOq HBq hd0 hd1 hd2 hwq ⊢
      clear hwqq hc0 hc1 hc2 HO HB
      go_wp2_with (first
        | (at_builtin; refine wpList_append_lies _ rfl _ _ _ rfl (w.heap.size + 1) 33 i0 _ 3 24 Try.underlying30 hi hz0 hz1 hz2 rfl (by omega) v k (cells3 (acc.take k)) rfl (World.ownsRow.alloc HOq.out _) ⟨wq.heap.size, 0, none⟩ 1 1 [.int .i64 pa, .int .i64 pb, .int .i64 pc] rfl rfl (by have := World.news_of_block (t := 33) (fr := (0, 0)) (heap_alloc_new wq (.cells #[.int .i64 pa, .int .i64 pb, .int .i64 pc] 33)); simpa using this) (by simp [Value.oneCell']) (by omega) (by unfold maxLen; omega) (by omega) (by simp; omega) (wq.heap.size + 1) (by simp) ?_; intro g3 cap3 w3 hown3 hgrow3 hat3 hlt3
           have B3 := Lib.hid (HBq.out.trans (appR hwq HOq.out hgrow3))
           have hw3 := B3.out.size
           have O3 := Lib.hid hown3
           clear hown3 hgrow3 hat3 hlt3 HOq)
        | (refine wpList_slice_to _ rfl 30 _ _ rfl Try.underlying30 (.slice (some ⟨g, 0, none⟩) n cap) (.int .i64 (k : Int)) _ HSL.out rfl rfl ?_)
        | (at_builtin; refine wpList_append_own _ rfl _ _ _ rfl (w.heap.size + 1) 33 i0 _ 3 24 Try.underlying30 hi hz0 hz1 hz2 rfl (by omega) (.slice (some ⟨g3, 0, none⟩) (k + 1) cap3) (k + 1) _ rfl O3.out ad (n - k) (cap - k) (cells3 (acc.drop k)) rfl HLT.out.2.1 (HNW.out _ (HB0.out.trans (B3.out.mono (Nat.le_succ _)))) HLT.out.2.2 (by unfold maxLen; omega) (by omega) (by omega) ?_; intro v4 w4 hown4 hgrow4 hnone4
           have B4 : Hid (Below (w.heap.size + 1) w1 w4) := Lib.hid (B3.out.grown hgrow4 (by omega) (fun k e => (World.ownsRow.lt O3.out k e).1))
           have O4 := Lib.hid hown4
           clear hown4 hgrow4 hnone4))
      go_ret
      refine ⟨v4, rfl, ?_, HB0.out.trans (B4.out.mono (Nat.le_succ _))⟩
      have h := O4.out
      rw [show k + 1 + (n - k) = n + 1 by omega] at h
      rw [HP.out, show acc.take k ++ (pa, pb, pc) :: acc.drop k = (acc.take k ++ [(pa, pb, pc)]) ++ acc.drop k by simp, cells3_app, cells3_app]
      exact own_base h (Nat.le_succ _)
end Go.Proofs.Ytdifocahmephjaa.Tab
