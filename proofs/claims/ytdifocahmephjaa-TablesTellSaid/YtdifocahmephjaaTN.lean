/- The contract of the document's own Pairs. -/
import Derived.Test.YtdifocahmephjaaTM
namespace Go.Proofs.Ytdifocahmephjaa.Tab
open Go.RowKit Go.Maps
set_option linter.unusedVariables false
set_option linter.unusedSimpArgs false
set_option maxRecDepth 100000
theorem putP_len (l : List Pr) (p : Pr) : (putP l p).length = l.length + 1 := by
  unfold putP
  have := congrArg List.length (List.takeWhile_append_dropWhile (p := fun q : Pr => decide (q.1 < p.1)) (l := l))
  rw [List.length_append] at this
  rw [List.length_append, List.length_cons]
  omega
theorem rowP_len (m : Int) : ∀ (l : List Int) (acc : List Pr), acc.length ≤ (rowP m l acc).length
  | [], acc => Nat.le_refl _
  | [_], acc => Nat.le_refl _
  | a :: b :: t, acc => by
    have := rowP_len m t (putP acc (b, a, m))
    rw [putP_len] at this
    show _ ≤ (rowP m t (putP acc (b, a, m))).length
    omega
def foldT (rs : List (Int × List Int)) (acc : List Pr) : List Pr := rs.foldl (fun acc r => rowP r.1 r.2 acc) acc
theorem foldT_len : ∀ (rs : List (Int × List Int)) (acc : List Pr), acc.length ≤ (foldT rs acc).length
  | [], acc => Nat.le_refl _
  | r :: t, acc => Nat.le_trans (rowP_len r.1 r.2 acc) (foldT_len t (rowP r.1 r.2 acc))
theorem foldT_is : foldT rowsT [] = prsA := by decide +kernel
theorem dblP_is : prsA ++ dblP dbls = prs := by decide +kernel
theorem prsA_len : prsA.length = 68 := by decide +kernel
theorem foldT_step {i : Nat} (h : i < rowsT.length) (acc : List Pr) : foldT (rowsT.drop i) acc = foldT (rowsT.drop (i + 1)) (rowP rowsT[i].1 rowsT[i].2 acc) := by
  rw [List.drop_eq_getElem_cons h]; rfl
theorem rowP_step {m : Int} {l : List Int} {k : Nat} (h : k + 1 < l.length) (acc : List Pr) : rowP m (l.drop k) acc = rowP m (l.drop (k + 2)) (putP acc (l[k + 1], l[k], m)) := by
  rw [List.drop_eq_getElem_cons (by omega : k < l.length), List.drop_eq_getElem_cons h]; rfl
theorem rowP_end {m : Int} {l : List Int} {k : Nat} (h : l.length ≤ k) (acc : List Pr) : rowP m (l.drop k) acc = acc := by
  rw [List.drop_of_length_le h]; rfl
theorem dblP_step {l : List Int} {k : Nat} (h : k + 1 < l.length) : dblP (l.drop k) = (l[k], l[k + 1], 0) :: dblP (l.drop (k + 2)) := by
  rw [List.drop_eq_getElem_cons (by omega : k < l.length), List.drop_eq_getElem_cons h]; rfl
theorem not_row {w : World} {b : Nat} {C : Array Value} {T e : TypeId} (hb : Blk w b C T) (hT : T ≠ e) {base size n : Nat} {v : Value} {xs : List Value} (h : w.ownsRow base e size v n xs) : some b ≠ v.ownBlock := by
  rcases h.2 with ⟨rfl, _⟩ | ⟨g, cap, cur, rfl, _, hg, _⟩
  · simp [Value.ownBlock]
  · intro e'
    have : b = g := by simpa [Value.ownBlock] using e'
    subst this
    unfold Blk at hb
    rw [hb] at hg
    cases hg
    exact hT rfl
theorem blk_grown {w w3 : World} {b : Nat} {C : Array Value} {T : TypeId} {o : Obj} {row : Option Nat} (h : Blk w b C T) (hg : ((w.alloc o).drew).grownBy w3 row) (hne : some b ≠ row) : Blk w3 b C T := by
  have hl := h.lt
  have h1 := hg.block b (by show b < (w.alloc o).heap.size; simp; omega) hne
  exact h1.trans ((Below.heap_alloc w o b hl).trans h)
theorem appR_drew {W w1 : World} {n₀ n : Nat} {v : Value} {xs : List Value} {e : TypeId} {tmp : Obj} (hn : n₀ ≤ W.heap.size) (own : W.ownsRow n₀ e 3 v n xs) (hg : ((W.alloc tmp).drew).grownBy w1 v.ownBlock) : Below n₀ W w1 :=
  (((Below.refl n₀ W).alloc hn tmp).drew).grown hg (by show n₀ ≤ (W.alloc tmp).heap.size; simp; omega) (fun k e => (World.ownsRow.lt own k e).1)
theorem dbl_end {k : Nat} (h : ¬ k < 10) : dbls.length ≤ k := by
  have : dbls.length = 10 := by decide
  omega
theorem own_drew {w : World} {base e size n : Nat} {v : Value} {xs : List Value} (h : w.ownsRow base e size v n xs) : w.drew.ownsRow base e size v n xs := h
theorem cell_on {W w3 : World} {b o : Nat} {v : Value} (hb : Below W.heap.size W w3) (h : W.cell? ⟨b, o, none⟩ = some v) : w3.cell? ⟨b, o, none⟩ = some v := (hb.cell (p := ⟨b, o, none⟩) (World.block_lt_of_cell? W _ h)).trans h
theorem rows_even : ∀ i (h : i < rowsT.length), rowsT[i].2.length % 2 = 0 ∧ rowsT[i].2.length ≤ 28 := by decide +kernel
set_option maxHeartbeats 8000000 in
theorem rpairs_any (w : World) : Calls Try.prog 19 #[] w fun e w' => PairsS w e w' := by
  obtain ⟨i0, hi, hz0, hz1, hz2⟩ := info_rows infoQ
  have HT := Lib.hid (rtable_any w)
  have HTB := Lib.hid (tabS_objs w)
  have HB1 := Lib.hid (allocs_below (objsT w.heap.size) w w.heap.size (Nat.le_refl _))
  have HD := Lib.hid fun W => rdoubles_any W
  generalize allocs w (objsT w.heap.size) = w1 at HT HTB HB1
  generalize w.heap.size + 11 = B at HT HTB
  have HPUT : Hid (∀ (acc : List Pr) (p : Pr) (v : Value) (W : World), acc.length ≤ 68 → W.ownsRow w.heap.size 33 3 v acc.length (cells3 acc) → Calls Try.prog 29 #[v, .agg #[.int .i64 p.1, .int .i64 p.2.1, .int .i64 p.2.2]] W fun e w' => ∃ v3, e = .returned v3 ∧ Hid (w'.ownsRow W.heap.size 33 3 v3 (putP acc p).length (cells3 (putP acc p))) ∧ Hid (Below W.heap.size W w')) := Lib.hid fun acc p v W h7 ho => by
    refine (put_any acc p v _ W (by omega) ho).mono ?_
    rintro e w' ⟨v3, rfl, h1, h2⟩
    exact ⟨v3, rfl, Lib.hid (by rw [putP_len]; exact h1), Lib.hid h2⟩
  unfold PairsS
  go_enter Try.func19, Try.ntmps19
  go_wp2_with (go_at_call 28; refine (HT.out).mono ?_; rintro _ w9 ⟨rfl, hw9⟩; subst w9)
  clear HT
  go_loopg [1, 3] 12 (fun gh q1 q3 wr => ∃ (i : Nat) (v : Value) (acc : List Pr), i + gh = 12 ∧ v = q1 ∧ q3 = .int .i64 i ∧ i ≤ 11 ∧ Hid (wr.ownsRow w.heap.size 33 3 v acc.length (cells3 acc)) ∧ Hid (Below w1.heap.size w1 wr) ∧ Hid (foldT (rowsT.drop i) acc = prsA))
  case atStart => exact ⟨0, _, [], by omega, rfl, rfl, by omega, Lib.hid (World.ownsRow_nil _ _ _ _), Lib.hid (Below.refl _ _), Lib.hid foldT_is⟩
  case round =>
    obtain ⟨i, v, acc0, hig, rfl, rfl, hi11, HO, HB, HF⟩ := hrel
    have HTr := Lib.hid (HTB.out.below HB.out)
    by_cases hii : i < 11
    · have hil : i < rowsT.length := by rw [rowsT_len]; exact hii
      obtain ⟨m, hm⟩ : ∃ m, rowsT[i].1 = m := ⟨_, rfl⟩
      obtain ⟨l, hl⟩ : ∃ l, rowsT[i].2 = l := ⟨_, rfl⟩
      obtain ⟨hev, hle⟩ := rows_even i hil
      have HF2 : Hid (foldT (rowsT.drop (i + 1)) (rowP m l acc0) = prsA) := Lib.hid (by rw [← hm, ← hl, ← foldT_step hil]; exact HF.out)
      obtain ⟨c0, g, hg, c1, cj⟩ := HTB.out.2 i hil
      have hBl := HTB.out.1
      simp only [hl] at c1 cj hev hle
      rw [hm] at c0
      have HC : Hid (∀ W, Below w1.heap.size w1 W → W.cell? ⟨B, i * 2, none⟩ = some (.int .i64 m) ∧ W.cell? ⟨B, i * 2 + 1, none⟩ = some (.slice (some ⟨g, 0, none⟩) l.length l.length) ∧ ∀ j (hj : j < l.length), W.cell? ⟨g, j, none⟩ = some (.int .i64 l[j])) := Lib.hid fun W hb =>
        ⟨(hb.cell (p := ⟨B, i * 2, none⟩) hBl).trans c0, (hb.cell (p := ⟨B, i * 2 + 1, none⟩) hBl).trans c1, fun j hj => (hb.cell (p := ⟨g, j, none⟩) hg).trans (cj j hj)⟩
      obtain ⟨X, hX⟩ : ∃ X, rowP m l acc0 = X := ⟨_, rfl⟩
      rw [hX] at HF2
      have HX := Lib.hid hX
      obtain ⟨L, hL⟩ : ∃ L, l.length = L := ⟨_, rfl⟩
      have HLL := Lib.hid hL
      rw [hL] at hev hle
      clear c0 c1 cj hm hl hX hL hBl HF HTr
      have hiI : (i : Int) < 11 := by omega
      have hi0 : (0 : Int) ≤ (i : Int) := by omega
      go_wp2_with fail
      obtain ⟨hh, HHH⟩ : ∃ hh, Hid (L = 2 * hh) := ⟨L / 2, Lib.hid (by omega)⟩
      go_loopg [1, 4] (hh + 1) (fun gh q1 q4 wr2 => ∃ (k : Nat) (v : Value) (acc : List Pr), k + 2 * gh = L + 2 ∧ v = q1 ∧ q4 = .int .i64 k ∧ k ≤ L ∧ Hid (wr2.ownsRow w.heap.size 33 3 v acc.length (cells3 acc)) ∧ Hid (Below w1.heap.size w1 wr2) ∧ Hid (rowP m (l.drop k) acc = X))
      case atStart => exact ⟨0, _, acc0, by have := HHH.out; omega, rfl, rfl, by omega, HO, HB, HX⟩
      case round =>
        clear HO HB HX
        obtain ⟨k, v, acc, hkg, rfl, rfl, hkL, HO, HB, HX⟩ := hrel
        obtain ⟨c0, c1, cj⟩ := HC.out _ HB.out
        rw [HLL.out] at c1
        have hk0 : (0 : Int) ≤ (k : Int) := by omega
        by_cases hk : k < L
        · have hk1 : k + 1 < l.length := by have := HHH.out; rw [HLL.out]; omega
          have d0 := cj k (by omega)
          have d1 := cj (k + 1) hk1
          have HX2 : Hid (rowP m (l.drop (k + 2)) (putP acc (l[k + 1], l[k], m)) = X) := Lib.hid (by rw [← rowP_step hk1]; exact HX.out)
          obtain ⟨a, ha⟩ : ∃ a, l[k]'(by omega) = a := ⟨_, rfl⟩
          obtain ⟨b, hb⟩ : ∃ b, l[k + 1] = b := ⟨_, rfl⟩
          rw [ha] at d0
          rw [hb] at d1
          rw [ha, hb] at HX2
          have HLEN : Hid (acc.length ≤ 68) := Lib.hid (by
            have h1 := rowP_len m (l.drop k) acc
            have h2 := foldT_len (rowsT.drop (i + 1)) X
            rw [HF2.out, prsA_len] at h2
            rw [HX.out] at h1
            omega)
          clear ha hb cj HX hk1
          have hkI : (k : Int) < (L : Int) := by omega
          have hkI1 : (k : Int) + 1 < (L : Int) := by have := HHH.out; omega
          have hk01 : (0 : Int) ≤ (k : Int) + 1 := by omega
          have hw1 : IntKind.i64.wrap ((k : Int) + 1) = (k : Int) + 1 := by rw [IntKind.wrap_i64]; omega
          have hn1 : ((k : Int) + 1).toNat = k + 1 := by omega
          go_wp2_with fail
          go_region_held3 (fun wx => wx.cell? ⟨B, i * 2, none⟩ = some (.int .i64 m) ∧ wx.cell? ⟨B, i * 2 + 1, none⟩ = some (.slice (some ⟨g, 0, none⟩) L L) ∧ wx.cell? ⟨g, k, none⟩ = some (.int .i64 a) ∧ wx.cell? ⟨g, k + 1, none⟩ = some (.int .i64 b))
            (first
              | go_keep
              | exact HS3.out)
            (first
              | (go_at_call 29; refine (HPUT.out acc (b, a, m) v wr.drew HLEN.out (own_drew HO.out)).mono ?_; rintro _ w3 ⟨v3, rfl, HO3, HB3⟩
                 have HO4 := Lib.hid (own_base HO3.out (Nat.le_trans HB1.out.size HB.out.size))
                 have HB4 : Hid (Below w1.heap.size w1 w3) := Lib.hid (HB.out.drew.trans (HB3.out.mono HB.out.drew.size))
                 have HS3 : Hid (w3.cell? ⟨B, i * 2, none⟩ = some (.int .i64 m) ∧ w3.cell? ⟨B, i * 2 + 1, none⟩ = some (.slice (some ⟨g, 0, none⟩) L L) ∧ w3.cell? ⟨g, k, none⟩ = some (.int .i64 a) ∧ w3.cell? ⟨g, k + 1, none⟩ = some (.int .i64 b)) := Lib.hid ⟨cell_on HB3.out c0, cell_on HB3.out c1, cell_on HB3.out d0, cell_on HB3.out d1⟩
                 clear HO3 HB3))
          go_wp2_with fail
          go_roundg (gk - 1)
          case measure => omega
          case rel => exact ⟨k + 2, _, putP acc (b, a, m), by omega, rfl, by simp, by have := HHH.out; omega, HO4, HB4, HX2⟩
        · have hXX : Hid (acc = X) := Lib.hid (by rw [← HX.out, rowP_end (by rw [HLL.out]; omega)])
          have hkI : ¬ (k : Int) < (L : Int) := by omega
          clear cj
          go_wp2_with fail
          go_roundg (11 - i)
          case measure => omega
          case rel => exact ⟨i + 1, _, acc, by omega, rfl, by simp, by omega, HO, HB, Lib.hid (by rw [hXX.out]; exact HF2.out)⟩
    · have hi12 : i = 11 := by omega
      subst hi12
      have HA : Hid (acc0 = prsA) := Lib.hid (by rw [← HF.out, List.drop_of_length_le (by rw [rowsT_len]; exact Nat.le_refl _)]; rfl)
      have hiI : ¬ (11 : Int) < 11 := by omega
      have HK := Lib.hid (Blk.new wr (dbls.map (Value.int .i64)).toArray 3)
      have HO1 := Lib.hid (HO.out.alloc (.cells (dbls.map (Value.int .i64)).toArray 3))
      have HB2 : Hid (Below w.heap.size w (wr.alloc (.cells (dbls.map (Value.int .i64)).toArray 3))) := Lib.hid ((HB1.out.trans (HB.out.mono HB1.out.size)).alloc (Nat.le_trans HB1.out.size HB.out.size) _)
      have HD2 := Lib.hid (HD.out wr)
      have HDS : Hid (wr.heap.size < (wr.alloc (.cells (dbls.map (Value.int .i64)).toArray 3)).heap.size) := Lib.hid (by simp)
      obtain ⟨Db, hDb⟩ : ∃ Db, wr.heap.size = Db := ⟨_, rfl⟩
      rw [hDb] at HK HD2 HDS
      obtain ⟨wd, hwd⟩ : ∃ wd, wr.alloc (.cells (dbls.map (Value.int .i64)).toArray 3) = wd := ⟨_, rfl⟩
      rw [hwd] at HK HO1 HB2 HD2 HDS
      have HCD : Hid (∀ W, Blk W Db (dbls.map (Value.int .i64)).toArray 3 → ∀ j (hj : j < dbls.length), W.cell? ⟨Db, j, none⟩ = some (.int .i64 dbls[j])) := Lib.hid fun W hk2 j hj => by
        rw [hk2.cell]
        simp [hj]
      clear hDb hwd HDS HTr HF
      go_wp2_with (go_at_call 30; refine (HD2.out).mono ?_; rintro _ w9 ⟨rfl, hw9⟩; subst w9)
      clear HD2 HD
      obtain ⟨DA, hDA⟩ : ∃ DA, (dbls.map (Value.int .i64)).toArray = DA := ⟨_, rfl⟩
      rw [hDA] at HK HCD
      clear hDA
      go_loopg [1, 6] 6 (fun gh q1 q6 wx => ∃ (k : Nat) (v : Value) (acc : List Pr), k + 2 * gh = 12 ∧ v = q1 ∧ q6 = .int .i64 k ∧ k ≤ 10 ∧ Hid (wx.ownsRow w.heap.size 33 3 v acc.length (cells3 acc)) ∧ Hid (Below w.heap.size w wx) ∧ Hid (Blk wx Db DA 3) ∧ Hid (acc ++ dblP (dbls.drop k) = prs))
      case atStart => exact ⟨0, _, acc0, by omega, rfl, rfl, by omega, HO1, HB2, HK, Lib.hid (by rw [HA.out]; exact dblP_is)⟩
      case round =>
        clear HO HB HO1 HB2 HK HA
        obtain ⟨k, v, acc, hkg, rfl, rfl, hk10, HO, HB, HK, HX⟩ := hrel
        have cj := HCD.out _ HK.out
        by_cases hk : k < 10
        · have hdl : dbls.length = 10 := by decide
          have hk1 : k + 1 < dbls.length := by omega
          have d0 := cj k (by omega)
          have d1 := cj (k + 1) hk1
          have HD0 := Lib.hid fun (W : World) (h : Blk W Db DA 3) => HCD.out W h k (by omega)
          have HD1 := Lib.hid fun (W : World) (h : Blk W Db DA 3) => HCD.out W h (k + 1) hk1
          have HX2 : Hid ((acc ++ [(dbls[k]'(by omega), dbls[k + 1], 0)]) ++ dblP (dbls.drop (k + 2)) = prs) := Lib.hid (by rw [← HX.out, dblP_step hk1]; simp)
          obtain ⟨a, ha⟩ : ∃ a, dbls[k]'(by omega) = a := ⟨_, rfl⟩
          obtain ⟨b, hb⟩ : ∃ b, dbls[k + 1] = b := ⟨_, rfl⟩
          rw [ha] at d0 HD0
          rw [hb] at d1 HD1
          rw [ha, hb] at HX2
          have hlen : acc.length ≤ 73 := by
            have h := congrArg List.length HX.out
            rw [List.length_append, prs_len] at h
            omega
          have HCE : Hid (cells3 acc ++ [.int .i64 a, .int .i64 b, .int .i64 0] = cells3 (acc ++ [(a, b, 0)]) ∧ (acc ++ [(a, b, 0)]).length = acc.length + 1) := Lib.hid ⟨by rw [cells3_app]; rfl, by simp⟩
          obtain ⟨n, hn⟩ : ∃ n, acc.length = n := ⟨_, rfl⟩
          rw [hn] at HO hlen HCE
          have hkI : (k : Int) < 10 := by omega
          have hkI1 : (k : Int) + 1 < 10 := by omega
          have hk0 : (0 : Int) ≤ (k : Int) := by omega
          have hk01 : (0 : Int) ≤ (k : Int) + 1 := by omega
          have hw1 : IntKind.i64.wrap ((k : Int) + 1) = (k : Int) + 1 := by rw [IntKind.wrap_i64]; omega
          have hn1 : ((k : Int) + 1).toNat = k + 1 := by omega
          have hwz := HB.out.size
          have HNR := Lib.hid (not_row HK.out (show (3 : TypeId) ≠ 33 by decide) HO.out)
          have hne0 := World.new_ne wr _ d0
          have hne1 := World.new_ne wr _ d1
          clear ha hb cj HX hk1 hdl hn
          go_wp2_with fail
          go_region_held3 (fun wx => wx.cell? ⟨Db, k, none⟩ = some (.int .i64 a) ∧ wx.cell? ⟨Db, k + 1, none⟩ = some (.int .i64 b))
            (first
              | go_keep
              | exact ⟨HD0.out _ HK3.out, HD1.out _ HK3.out⟩)
            ((refine step_append_lies _ (by rfl) _ _ _ (by rfl) w.heap.size 33 i0 _ 3 24 Try.underlying30 hi hz0 hz1 hz2 rfl (by omega) v n (cells3 acc) (by rfl) ((World.ownsRow.alloc HO.out _).drew)
                ⟨wr.heap.size, 0, none⟩ 1 1 [.int .i64 a, .int .i64 b, .int .i64 0] (by rfl) (by rfl) (World.news_of_block (t := 33) (fr := (0, 0)) (heap_alloc_new wr _)) (by simp [Value.oneCell'])
                (by omega) (by unfold maxLen; omega) (by omega) (by simp; omega) (wr.heap.size + 1) (by simp) ?_; intro g3 cap3 w3 hown3 hgrow3 hat3 hlt3
              have HK3 : Hid (Blk w3 Db DA 3) := Lib.hid (blk_grown HK.out hgrow3 HNR.out)
              have HB3 : Hid (Below w.heap.size w w3) := Lib.hid (HB.out.trans (appR_drew hwz HO.out hgrow3))
              have HO3 := Lib.hid hown3
              clear hown3 hgrow3 hat3 hlt3))
          go_wp2_with fail
          go_roundg (gk - 1)
          case measure => omega
          case rel => exact ⟨k + 2, _, acc ++ [(a, b, 0)], by omega, rfl, by simp, by omega, Lib.hid (by rw [HCE.out.2, ← HCE.out.1]; exact HO3.out), HB3, HK3, HX2⟩
        · have HP : Hid (acc = prs) := Lib.hid (by rw [← HX.out, List.drop_of_length_le (dbl_end hk)]; simp [dblP])
          have hkI : ¬ (k : Int) < 10 := by omega
          clear cj
          obtain ⟨g, cap, rfl, ho⟩ : ∃ g cap, v = .slice (some ⟨g, 0, none⟩) 73 cap ∧ wr.ownsRow w.heap.size 33 3 v 73 (cells3 prs) := by
            have ho := HO.out
            rw [HP.out, prs_len] at ho
            rcases ho.2 with ⟨_, h0⟩ | ⟨g, cap, cur, rfl, _⟩
            · omega
            · exact ⟨g, cap, rfl, ho⟩
          have HT := Lib.hid (tri_own (l := prs) (u := .slice (some ⟨g, 0, none⟩) 73 cap) (by rw [prs_len]; exact ho) (by decide))
          clear ho
          go_wp2_with fail
          go_ret
          exact ⟨g, cap, rfl, HT.out, HB.out⟩
end Go.Proofs.Ytdifocahmephjaa.Tab
