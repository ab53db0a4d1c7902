/- The contract of the document's own Parse. -/
import Derived.Test.YtgadpoahjlnheaaPM
import Derived.Deep.AppendLies
namespace Go.Proofs.Ytgadpoahjlnheaa.Med
open Go.RowKit
set_option linter.unusedVariables false
set_option linter.unusedSimpArgs false
open Lab (RetS ret_str str str_size str_list str_eta str_inj u8v st_ixb info5 info_parts)
/-- m.Params = append(m.Params, p): what it leaves. -/
theorem appM {W w1 : World} {n₀ M n : Nat} {T v v1 : Value} {xs ys : List Value} {tmp : Obj} (kb : Blk W M #[T, v] 25) (hM : n₀ ≤ M) (hn : n₀ ≤ W.heap.size) (own : W.ownsRow n₀ 48 2 v n xs)
    (hown : w1.ownsRow n₀ 48 2 v1 (n + 1) ys) (hg : (W.alloc tmp).grownBy w1 v.ownBlock) :
    (w1.cell? ⟨M, 1, none⟩ = some v ∧ w1.frozen? ⟨M, 1, none⟩ = false) ∧ Blk (w1.setCell ⟨M, 1, none⟩ v1) M #[T, v1] 25 ∧ (w1.setCell ⟨M, 1, none⟩ v1).ownsRow n₀ 48 2 v1 (n + 1) ys ∧ Below n₀ W (w1.setCell ⟨M, 1, none⟩ v1) ∧
      ∀ j C Tj, Tj ≠ 48 → j ≠ M → Blk W j C Tj → Blk (w1.setCell ⟨M, 1, none⟩ v1) j C Tj := by
  have b1 : Blk w1 M #[T, v] 25 := blk_kept (kb.alloc tmp) hg (not_row (kb.alloc tmp) (by decide) (own.alloc tmp))
  refine ⟨⟨by rw [b1.cell]; rfl, b1.froz 1⟩, b1.set rfl, own_set hown b1 (by decide) _ _, ?_, fun j C Tj hT hj hb => ?_⟩
  · exact (((Below.refl n₀ W).alloc hn tmp).grown hg (by simp; omega) (fun k e => (World.ownsRow.lt own k e).1)).setCell hM _
  · exact Blk.set' (blk_kept (hb.alloc tmp) hg (not_row (hb.alloc tmp) hT (own.alloc tmp))) (by simpa using hj)
theorem pe_no {r : Option Med} {w w' : World} (h : r = none) (hb : Below w.heap.size w w') : ParseE r w (.returned (.tuple #[.agg #[.string ⟨#[]⟩, .slice none 0 0], .int .i64 70])) w' := by
  subst h; exact ⟨.slice none 0 0, rfl, prs_nil _, hb⟩
theorem pe_yes {r : Option Med} {w w' : World} {ty : List UInt8} {ps : List Par} {u : Value} (h : r = some (ty, ps)) (hp : Prs w' u ps) (hb : Below w.heap.size w w') : ParseE r w (.returned (.tuple #[.agg #[.string (str ty), u], .int .i64 0])) w' := by
  subst h; exact ⟨u, rfl, hp, hb⟩
set_option maxRecDepth 100000 in
set_option maxHeartbeats 8000000 in
theorem rparse_any (l : List UInt8) (w : World) (hs : l.length ≤ 100000) : Calls Try.prog 9 #[.string (str l)] w fun e w' => ParseE (parse l) w e w' := by
  have HT : Hid (∀ (a : Nat) (w : World), a ≤ l.length → Calls Try.prog 24 #[.string (str l), .int .i64 (a : Int)] w fun e w' => e = .returned (.int .i64 (endW sgn l a : Int)) ∧ w' = w) := Lib.hid fun a w h => token_str l a w (by unfold maxLen; omega) h
  have HK : Hid (∀ (a : Nat) (w : World), a ≤ l.length → Calls Try.prog 23 #[.string (str l), .int .i64 (a : Int)] w fun e w' => e = .returned (.int .i64 (endW blk l a : Int)) ∧ w' = w) := Lib.hid fun a w h => blanks_str l a w (by unfold maxLen; omega) h
  have HPM : Hid (∀ (a : Nat) (w : World), a ≤ l.length → Calls Try.prog 25 #[.string (str l), .int .i64 (a : Int)] w fun e w' => PmR l (prm (l.drop a)) w e w') := Lib.hid fun a w h => param_any l a w hs h
  have HLW : Hid (∀ (x : List UInt8) (w : World), x.length ≤ l.length → Calls Try.prog 16 #[.string (str x)] w fun e w' => RetS (lwr x) w e w') := Lib.hid fun x w h => rlower_str x w (by unfold maxLen; omega)
  have HSL : Hid (∀ (x y : Nat), x ≤ y → y ≤ l.length → ∀ w0 : World, (Instr.slice 9 (.string (str l)) (some (.int .i64 (x : Int))) (some (.int .i64 (y : Int))) none).run Try.prog w0 = .ok (.string (str ((l.drop x).take (y - x)))) w0) := Lib.hid fun x y h1 h2 w0 => slice_law (str l) x y h1 (by rw [str_size]; exact h2) (str_list l) rfl w0
  have HBa := Lib.hid fun w => HK.out 0 w (Nat.zero_le _)
  have ht1 := endW_le (p := blk) (Nat.zero_le l.length)
  obtain ⟨t, ht⟩ : ∃ t, endW blk l 0 = t := ⟨_, rfl⟩
  rw [ht] at HBa ht1
  have HTa := Lib.hid fun w => HT.out t w ht1
  have ha1 := endW_ge sgn l t
  have ha2 := endW_le (p := sgn) ht1
  obtain ⟨a, ha⟩ : ∃ a, endW sgn l t = a := ⟨_, rfl⟩
  rw [ha] at HTa ha1 ha2
  obtain ⟨b, hb⟩ : ∃ b, endW sgn l (a + 1) = b := ⟨_, rfl⟩
  have HPI := Lib.hid (parse_idx ht ha hb)
  obtain ⟨r, hr⟩ : ∃ r, parse l = r := ⟨_, rfl⟩
  rw [hr] at HPI
  rw [hr]
  have HBE := Lib.hid hb
  clear hr ht ha hb
  obtain ⟨s, hs'⟩ : ∃ s, str l = s := ⟨_, rfl⟩
  have hsz : s.size = l.length := by rw [← hs', str_size]
  have HL : Hid (s.data.toList = l) := Lib.hid (by rw [← hs', str_list])
  have HSZ := Lib.hid hsz
  have hs6 : s.size ≤ 100000 := by omega
  have hts : t ≤ s.size := by omega
  have has : a ≤ s.size := by omega
  have HEL : Hid (∀ (k : Nat) (h : k < s.size), (l.drop k).head? = some s[k]) := Lib.hid (by
    intro k h
    have hk : k < l.length := by omega
    rw [head_at hk]
    have e := HL.out
    subst e
    rfl)
  rw [hs'] at HT HTa HK HBa HPM HSL ⊢
  have HB0 : Hid (Below w.heap.size w (w.alloc (.cells #[.string ⟨#[]⟩, .slice none 0 0] 25))) := Lib.hid ((Below.refl _ w).alloc (Nat.le_refl _) _)
  have hk0 := Lib.hid (Blk.new w #[.string ⟨#[]⟩, .slice none 0 0] 25)
  clear hs' hsz hs ht1 ha2
  by_cases h1 : a = t
  · have HN : Hid (r = none) := Lib.hid (by rw [HPI.out, if_pos h1])
    have d1 : ((a : Int) == (t : Int)) = true := by rw [h1]; simp
    clear h1 HPI
    go_enter Try.func9, Try.ntmps9
    go_wp2_with (first
      | (go_at_call 23; refine (HBa.out _).mono ?_; rintro _ w9 ⟨rfl, hw9⟩; subst w9; clear HBa)
      | (go_at_call 24; refine (HTa.out _).mono ?_; rintro _ w9 ⟨rfl, hw9⟩; subst w9; clear HTa))
    refine bodyPost_ret (v := .tuple #[.agg #[.string ⟨#[]⟩, .slice none 0 0], .int .i64 70]) ?_ rfl (pe_no HN.out HB0.out)
    rw [results_cell_tmp (p := 2) (u := 3) (ty := 25) rfl]
    have hl := load25 hk0.out
    simp [asAddr, hl]
  have HP2 := Lib.hid (HPI.out.trans (if_neg h1))
  have d1 : ((a : Int) == (t : Int)) = false := by
    have : ¬ (a : Int) = (t : Int) := by omega
    simpa using this
  clear HPI
  by_cases h2 : a < s.size
  · have d2 : decide ((s.size : Int) ≤ (a : Int)) = false := by simp; omega
    have he0 : (0 : Int) ≤ (a : Int) := by omega
    have he3 : (a : Int) < (s.size : Int) := by omega
    have hhd := HEL.out a h2
    obtain ⟨c, hc⟩ : ∃ c, s[a] = c := ⟨_, rfl⟩
    rw [hc] at hhd
    by_cases h47 : c = 47
    · have d3 : ((c.toNat : Int) != 47) = false := by subst h47; decide
      have HP3 := Lib.hid (HP2.out.trans (if_pos (by rw [hhd, h47])))
      have hal : a + 1 ≤ l.length := by have := HSZ.out; omega
      have HTb : Hid (∀ w, Calls Try.prog 24 #[.string s, .int .i64 ((a : Int) + 1)] w fun e w' => e = .returned (.int .i64 (b : Int)) ∧ w' = w) := Lib.hid fun w => by
        have := HT.out (a + 1) w hal
        rwa [HBE.out] at this
      have hb1 : a + 1 ≤ b := by rw [← HBE.out]; exact endW_ge _ _ _
      have hb2 : b ≤ l.length := by rw [← HBE.out]; exact endW_le hal
      clear h47 hhd HP2 hal
      by_cases h4 : b = a + 1
      · have HN : Hid (r = none) := Lib.hid (by rw [HP3.out, if_pos h4])
        have d4 : ((b : Int) == (a : Int) + 1) = true := by rw [h4]; simp
        clear HP3 h4
        go_enter Try.func9, Try.ntmps9
        go_wp2_with (first
          | (go_at_call 23; refine (HBa.out _).mono ?_; rintro _ w9 ⟨rfl, hw9⟩; subst w9; clear HBa)
          | (go_at_call 24; refine (HTa.out _).mono ?_; rintro _ w9 ⟨rfl, hw9⟩; subst w9; clear HTa)
          | (go_at_call 24; refine (HTb.out _).mono ?_; rintro _ w9 ⟨rfl, hw9⟩; subst w9; clear HTb))
        refine bodyPost_ret (v := .tuple #[.agg #[.string ⟨#[]⟩, .slice none 0 0], .int .i64 70]) ?_ rfl (pe_no HN.out HB0.out)
        rw [results_cell_tmp (p := 2) (u := 3) (ty := 25) rfl]
        have hl := load25 hk0.out
        simp [asAddr, hl]
      · have HP4 := Lib.hid (HP3.out.trans (if_neg h4))
        have d4 : ((b : Int) == (a : Int) + 1) = false := by
          have : ¬ (b : Int) = (a : Int) + 1 := by omega
          simpa using this
        have hsl1 := HSL.out t b (by omega) hb2
        obtain ⟨X, hX⟩ : ∃ X, (l.drop t).take (b - t) = X := ⟨_, rfl⟩
        have hXl : X.length ≤ l.length := by rw [← hX, List.length_take, List.length_drop]; omega
        have HL1 := Lib.hid fun w => HLW.out X w hXl
        rw [hX] at hsl1 HP4
        obtain ⟨ty, hty⟩ : ∃ ty, lwr X = ty := ⟨_, rfl⟩
        rw [hty] at HL1 HP4
        have HKb := Lib.hid fun w => HK.out b w hb2
        have hk1 := endW_le (p := blk) hb2
        obtain ⟨k0, hk0'⟩ : ∃ k0, endW blk l b = k0 := ⟨_, rfl⟩
        rw [hk0'] at HKb HP4 hk1
        have hks : k0 ≤ s.size := by have := HSZ.out; omega
        clear hX hXl hty hk0' h4 HP3 HLW HSL HBE hk1 hb2
        go_enter Try.func9, Try.ntmps9
        go_wp2_with (first
          | (go_at_call 23; refine (HBa.out _).mono ?_; rintro _ w9 ⟨rfl, hw9⟩; subst w9; clear HBa)
          | (go_at_call 24; refine (HTa.out _).mono ?_; rintro _ w9 ⟨rfl, hw9⟩; subst w9; clear HTa)
          | (go_at_call 24; refine (HTb.out _).mono ?_; rintro _ w9 ⟨rfl, hw9⟩; subst w9; clear HTb)
          | (go_at_call 16; refine (HL1.out _).mono ?_; rintro _ w1 ⟨rfl, hb1'⟩; clear HL1
             have K1 := Lib.hid (hk0.out.below hb1')
             have B1 := Lib.hid (below_call HB0.out hb1'))
          | (go_at_call 23; refine (HKb.out _).mono ?_; rintro _ w9 ⟨rfl, hw9⟩; subst w9; clear HKb))
        go_loopg [4] (s.size + 1 - k0) (fun g q4 wr => ∃ (k n : Nat) (v : Value) (acc : List Par), k + g = s.size + 1 ∧ q4 = .int .i64 (k : Int) ∧ k ≤ s.size ∧ n ≤ k ∧ Hid (acc.length = n) ∧ Hid (r = (rst (l.drop k)).map fun q => (ty, acc ++ q)) ∧ Hid (Blk wr w1.heap.size #[.string (str ty), v] 25) ∧ Hid (wr.ownsRow w.heap.size 48 2 v n (cellsP acc)) ∧ Hid (Blk wr w.heap.size #[.string ⟨#[]⟩, .slice none 0 0] 25) ∧ Hid (Below w.heap.size w wr))
        case atStart =>
          exact ⟨k0, 0, .slice none 0 0, [], by omega, rfl, hks, by omega, Lib.hid rfl, Lib.hid (by rw [HP4.out]; cases rst (l.drop k0) <;> simp), Lib.hid (Blk.new w1 _ 25), Lib.hid (World.ownsRow_nil _ _ _ _), Lib.hid (K1.out.alloc _), Lib.hid (B1.out.alloc B1.out.size _)⟩
        case round =>
          obtain ⟨k, n, v, acc, hkg, rfl, hk7, hnk, HN, HR, HM, HO, HKR, HB⟩ := hrel
          have hMR : w.heap.size < w1.heap.size := K1.out.lt
          obtain ⟨i0, hi, hz0, hz1, hz2⟩ := info_parts info48
          by_cases hlt : k < s.size
          · have hk0 : (0 : Int) ≤ (k : Int) := by omega
            have hk3 : (k : Int) < (s.size : Int) := by omega
            have hhd := HEL.out k hlt
            obtain ⟨c, hc⟩ : ∃ c, s[k] = c := ⟨_, rfl⟩
            rw [hc] at hhd
            have hdr : l.drop k = c :: l.drop (k + 1) := by
              cases hx : l.drop k with
              | nil => rw [hx] at hhd; cases hhd
              | cons c' u =>
                rw [hx] at hhd
                cases hhd
                have : l.drop (k + 1) = (l.drop k).tail := by rw [List.tail_drop]
                rw [this, hx]; rfl
            rw [hdr] at HR
            clear hdr hhd
            by_cases h59 : c = 59
            · have d1 : ((c.toNat : Int) != 59) = false := by subst h59; decide
              rw [h59] at HR
              have hkl : k + 1 ≤ l.length := by have := HSZ.out; omega
              have HKc : Hid (∀ w, Calls Try.prog 23 #[.string s, .int .i64 ((k : Int) + 1)] w fun e w' => e = .returned (.int .i64 (endW blk l (k + 1) : Int)) ∧ w' = w) := Lib.hid fun w => HK.out (k + 1) w hkl
              have hg1 := endW_ge blk l (k + 1)
              have hg2 := endW_le (p := blk) hkl
              have HDE := Lib.hid (drop_end blk l (k + 1))
              obtain ⟨k2, hk2⟩ : ∃ k2, endW blk l (k + 1) = k2 := ⟨_, rfl⟩
              rw [hk2] at HKc hg1 hg2 HDE
              have hk2s : k2 ≤ s.size := by have := HSZ.out; omega
              clear h59 hk2 hkl
              by_cases h2s : k2 < s.size
              · have hj0 : (0 : Int) ≤ (k2 : Int) := by omega
                have hj3 : (k2 : Int) < (s.size : Int) := by omega
                have hj4 : decide ((k2 : Int) < (s.size : Int)) = true := by simp; omega
                have hhd2 := HEL.out k2 h2s
                obtain ⟨d, hd⟩ : ∃ d, s[k2] = d := ⟨_, rfl⟩
                rw [hd] at hhd2
                by_cases hd59 : d = 59
                · have d2 : ((d.toNat : Int) != 59) = false := by subst hd59; decide
                  have HR2 : Hid (r = (rst (l.drop k2)).map fun q => (ty, acc ++ q)) := Lib.hid (by
                    rw [HR.out, rst_empty (.inr (by rw [← HDE.out, hhd2, hd59])), ← HDE.out])
                  clear hd59 hhd2 HR HDE
                  go_wp2_with (first
                    | (go_at_call 23; refine (HKc.out _).mono ?_; rintro _ w9 ⟨rfl, hw9⟩; subst w9; clear HKc))
                  go_roundg (s.size + 1 - k2)
                  case measure => omega
                  case rel => exact ⟨k2, n, v, acc, by omega, rfl, hk2s, by omega, HN, HR2, HM, HO, HKR, HB⟩
                · have d2 : ((d.toNat : Int) != 59) = true := by
                    have : ¬ (d.toNat : Int) = 59 := fun h => hd59 (u8_lit.1 h)
                    simpa using this
                  have hno : ¬ (((l.drop (k + 1)).dropWhile blk).head? = none ∨ ((l.drop (k + 1)).dropWhile blk).head? = some 59) := by
                    rw [← HDE.out, hhd2]
                    rintro (h | h)
                    · cases h
                    · cases h; exact hd59 rfl
                  have HPq := Lib.hid fun w => HPM.out k2 w hg2
                  obtain ⟨r2, hr2⟩ : ∃ r2, prm (l.drop k2) = r2 := ⟨_, rfl⟩
                  rw [hr2] at HPq
                  cases r2 with
                  | none =>
                    have HN2 : Hid (r = none) := Lib.hid (by
                      rw [HR.out, rst_bad hno (by rw [← HDE.out]; exact hr2)]; rfl)
                    have HPq2 : Hid (∀ w, Calls Try.prog 25 #[.string s, .int .i64 (k2 : Int)] w fun e w' => (∃ (x y : ByteArray) (i : Int), e = .returned (.tuple #[.agg #[.string x, .string y], .int .i64 i, .bool false])) ∧ Below w.heap.size w w') := HPq
                    clear hd59 hhd2 HR HDE hno hr2 HPq HN
                    go_wp2_with (first
                      | (go_at_call 23; refine (HKc.out _).mono ?_; rintro _ w9 ⟨rfl, hw9⟩; subst w9; clear HKc)
                      | (go_at_call 25; refine (HPq2.out _).mono ?_; rintro _ w2 ⟨⟨x, y, i, rfl⟩, hb2⟩; clear HPq2
                         have K2 := Lib.hid (HKR.out.below hb2)
                         have B2 := Lib.hid (below_call HB.out hb2)
                         obtain ⟨z0, z1, z2, z3⟩ := blk2 K2.out
                         have hne2 := K2.out.lt
                         have B3 := Lib.hid ((((B2.out.setCell (p := ⟨w.heap.size, 0, none⟩) (Nat.le_refl _) (.string ⟨#[]⟩)).setCell (p := ⟨w.heap.size, 1, none⟩) (Nat.le_refl _) (.slice none 0 0)).alloc (by simpa [World.setCell] using B2.out.size) (.cells #[.string x, .string y] 48)))))
                    have HN := HN2
                    refine bodyPost_ret (v := .tuple #[.agg #[.string ⟨#[]⟩, .slice none 0 0], .int .i64 70]) ?_ rfl (pe_no HN.out B3.out)
                    rw [results_cell_tmp (p := 2) (u := 3) (ty := 25) rfl]
                    have hl := load25 (((K2.out.set (o := 0) (v := .string ⟨#[]⟩) rfl).set (o := 1) (v := .slice none 0 0) rfl).alloc (.cells #[.string x, .string y] 48))
                    simp [asAddr, hl]
                  | some q =>
                    obtain ⟨⟨pn, pv⟩, Rr⟩ := q
                    obtain ⟨x, hx⟩ := prm_suf hr2
                    obtain ⟨hsuf, hsl⟩ := suf_at hx
                    have hlen := prm_len hr2
                    simp only [List.length_drop] at hlen
                    simp only at hsuf hsl hlen
                    obtain ⟨n2, hn2⟩ : ∃ n2 : Nat, l.length - Rr.length = n2 := ⟨_, rfl⟩
                    have hn2l : n2 ≤ l.length := by omega
                    have hn2k : k2 < n2 := by omega
                    have HPq2 : Hid (∀ w, Calls Try.prog 25 #[.string s, .int .i64 (k2 : Int)] w fun e w' => e = .returned (.tuple #[.agg #[.string (str pn), .string (str pv)], .int .i64 (n2 : Int), .bool true]) ∧ Below w.heap.size w w') := Lib.hid fun w => by
                      have := HPq.out w
                      unfold PmR at this
                      simp only [hn2] at this
                      exact this
                    rw [hn2] at hsuf
                    have HKd := Lib.hid fun w => HK.out n2 w hn2l
                    have hg3 := endW_ge blk l n2
                    have hg4 := endW_le (p := blk) hn2l
                    have HR3 : Hid (r = (rst (l.drop (endW blk l n2))).map fun q => (ty, (acc ++ [(pn, pv)]) ++ q)) := Lib.hid (by
                      rw [HR.out, rst_par (q := ((pn, pv), Rr)) hno (by rw [← HDE.out]; exact hr2), drop_end, hsuf, Option.map_map]
                      congr 1
                      funext q
                      simp)
                    obtain ⟨k3, hk3'⟩ : ∃ k3, endW blk l n2 = k3 := ⟨_, rfl⟩
                    rw [hk3'] at HKd hg3 hg4 HR3
                    have hk3s : k3 ≤ s.size := by have := HSZ.out; omega
                    have hn63 : n + 1 ≤ 200000 := by omega
                    have HN2 : Hid ((acc ++ [(pn, pv)]).length = n + 1) := Lib.hid (by rw [List.length_append, HN.out]; rfl)
                    have HCP : Hid (cellsP acc ++ [.string (str pn), .string (str pv)] = cellsP (acc ++ [(pn, pv)])) := Lib.hid (by rw [cellsP_app]; rfl)
                    clear hd59 hhd2 HR HDE hno hr2 HPq hx hsuf hsl hlen hn2 hk3' hg4 hn2l
                    go_wp2_with (first
                      | (go_at_call 23; refine (HKc.out _).mono ?_; rintro _ w9 ⟨rfl, hw9⟩; subst w9; clear HKc)
                      | (go_at_call 25; refine (HPq2.out _).mono ?_; rintro _ w2 ⟨rfl, hb2⟩; clear HPq2
                         have K2 := Lib.hid ((HKR.out.below hb2).alloc (.cells #[.string (str pn), .string (str pv)] 48))
                         have M2 := Lib.hid ((HM.out.below hb2).alloc (.cells #[.string (str pn), .string (str pv)] 48))
                         have O2 := Lib.hid ((own_below (m := 0) HO.out hb2).alloc (.cells #[.string (str pn), .string (str pv)] 48))
                         have B2 := Lib.hid ((below_call HB.out hb2).alloc (below_call HB.out hb2).size (.cells #[.string (str pn), .string (str pv)] 48))
                         obtain ⟨x0, x1, x2, x3⟩ := blk2 M2.out
                         have hz2' := B2.out.size)
                      | (at_builtin; refine wpList_append_lies _ rfl _ _ _ rfl w.heap.size 48 i0 _ 2 32 Try.underlying23 hi hz0 hz1 hz2 rfl (by omega) v n (cellsP acc) rfl (World.ownsRow.alloc O2.out _) ⟨w2.heap.size + 1, 0, none⟩ 1 1 [.string (str pn), .string (str pv)] rfl rfl (by have := World.news_of_block (t := 48) (fr := (0, 0)) (heap_alloc_new (w2.alloc (.cells #[.string (str pn), .string (str pv)] 48)) (.cells #[.string (str pn), .string (str pv)] 48)); simpa using this) (by simp [Value.oneCell']) (by omega) (by unfold maxLen; omega) (by omega) (by simp at hz2' ⊢; omega) (w2.heap.size + 1 + 1) (by simp) ?_; intro g3 cap3 w3 hown3 hgrow3 hat3 hlt3
                         have H := Lib.hid (appM M2.out (Nat.le_of_lt hMR) hz2' O2.out hown3 hgrow3)
                         have c3 := H.out.1.1
                         have f3 := H.out.1.2
                         clear hown3 hgrow3 hat3 hlt3)
                      | (go_at_call 23; refine (HKd.out _).mono ?_; rintro _ w9 ⟨rfl, hw9⟩; subst w9; clear HKd))
                    go_roundg (s.size + 1 - k3)
                    case measure => omega
                    case rel => exact ⟨k3, n + 1, _, acc ++ [(pn, pv)], by omega, rfl, hk3s, by omega, HN2, HR3, Lib.hid H.out.2.1, Lib.hid (by rw [← HCP.out]; exact H.out.2.2.1), Lib.hid (H.out.2.2.2.2 _ _ _ (by decide) (Nat.ne_of_lt hMR) K2.out), Lib.hid (B2.out.trans H.out.2.2.2.1)⟩
              · have hj4 : decide ((k2 : Int) < (s.size : Int)) = false := by simp; omega
                have HR2 : Hid (r = (rst (l.drop k2)).map fun q => (ty, acc ++ q)) := Lib.hid (by
                  rw [HR.out, rst_empty (.inl (by rw [← HDE.out, head_out (by have := HSZ.out; omega)])), ← HDE.out])
                clear HR HDE
                go_wp2_with (first
                  | (go_at_call 23; refine (HKc.out _).mono ?_; rintro _ w9 ⟨rfl, hw9⟩; subst w9; clear HKc))
                go_roundg (s.size + 1 - k2)
                case measure => omega
                case rel => exact ⟨k2, n, v, acc, by omega, rfl, hk2s, by omega, HN, HR2, HM, HO, HKR, HB⟩
            · have d1 : ((c.toNat : Int) != 59) = true := by
                have : ¬ (c.toNat : Int) = 59 := fun h => h59 (u8_lit.1 h)
                simpa using this
              have HN2 : Hid (r = none) := Lib.hid (by rw [HR.out, rst_other h59]; rfl)
              obtain ⟨z0, z1, z2, z3⟩ := blk2 HKR.out
              clear HR h59 HN
              have HN := HN2
              go_wp2_with fail
              refine bodyPost_ret (v := .tuple #[.agg #[.string ⟨#[]⟩, .slice none 0 0], .int .i64 70]) ?_ rfl (pe_no HN.out ((HB.out.setCell (p := ⟨w.heap.size, 0, none⟩) (Nat.le_refl _) _).setCell (p := ⟨w.heap.size, 1, none⟩) (Nat.le_refl _) _))
              rw [results_cell_tmp (p := 2) (u := 3) (ty := 25) rfl]
              have hl := load25 ((HKR.out.set (o := 0) (v := .string ⟨#[]⟩) rfl).set (o := 1) (v := .slice none 0 0) rfl)
              simp [asAddr, hl]
          · have HR2 : Hid (r = some (ty, acc)) := Lib.hid (by
              rw [HR.out, List.drop_eq_nil_of_le (by have := HSZ.out; omega), rst_nil]; simp)
            obtain ⟨p2, cap2, hv⟩ : ∃ p cap, v = .slice p n cap := by
              rcases HO.out.2 with ⟨e, h0⟩ | ⟨g, cap, cur, e, _⟩
              · exact ⟨none, 0, by rw [e, h0]⟩
              · exact ⟨_, cap, e⟩
            rw [hv] at HM HO
            obtain ⟨x0, x1, x2, x3⟩ := blk2 HM.out
            obtain ⟨z0, z1, z2, z3⟩ := blk2 HKR.out
            clear HR hv
            go_wp2_with fail
            refine bodyPost_ret (v := .tuple #[.agg #[.string (str ty), .slice p2 n cap2], .int .i64 0]) ?_ rfl (pe_yes HR2.out (prs_own (base := w.heap.size) (own_set (own_set (by rw [HN.out]; exact HO.out) HKR.out (by decide) 0 _) (HKR.out.set rfl) (by decide) 1 _)) ((HB.out.setCell (p := ⟨w.heap.size, 0, none⟩) (Nat.le_refl _) _).setCell (p := ⟨w.heap.size, 1, none⟩) (Nat.le_refl _) _))
            rw [results_cell_tmp (p := 2) (u := 3) (ty := 25) rfl]
            have hl := load25 ((HKR.out.set (o := 0) (v := .string (str ty)) rfl).set (o := 1) (v := .slice p2 n cap2) rfl)
            simp [asAddr, hl]
    · have d3 : ((c.toNat : Int) != 47) = true := by
        have : ¬ (c.toNat : Int) = 47 := fun h => h47 (u8_lit.1 h)
        simpa using this
      have HN : Hid (r = none) := Lib.hid (by rw [HP2.out, hhd, if_neg (by simpa using h47)])
      clear h47 HP2 hhd
      go_enter Try.func9, Try.ntmps9
      go_wp2_with (first
        | (go_at_call 23; refine (HBa.out _).mono ?_; rintro _ w9 ⟨rfl, hw9⟩; subst w9; clear HBa)
        | (go_at_call 24; refine (HTa.out _).mono ?_; rintro _ w9 ⟨rfl, hw9⟩; subst w9; clear HTa))
      refine bodyPost_ret (v := .tuple #[.agg #[.string ⟨#[]⟩, .slice none 0 0], .int .i64 70]) ?_ rfl (pe_no HN.out HB0.out)
      rw [results_cell_tmp (p := 2) (u := 3) (ty := 25) rfl]
      have hl := load25 hk0.out
      simp [asAddr, hl]
  · have d2 : decide ((s.size : Int) ≤ (a : Int)) = true := by simp; omega
    have HN : Hid (r = none) := Lib.hid (by rw [HP2.out, head_out (by have := HSZ.out; omega), if_neg (by simp)])
    clear HP2
    go_enter Try.func9, Try.ntmps9
    go_wp2_with (first
      | (go_at_call 23; refine (HBa.out _).mono ?_; rintro _ w9 ⟨rfl, hw9⟩; subst w9; clear HBa)
      | (go_at_call 24; refine (HTa.out _).mono ?_; rintro _ w9 ⟨rfl, hw9⟩; subst w9; clear HTa))
    refine bodyPost_ret (v := .tuple #[.agg #[.string ⟨#[]⟩, .slice none 0 0], .int .i64 70]) ?_ rfl (pe_no HN.out HB0.out)
    rw [results_cell_tmp (p := 2) (u := 3) (ty := 25) rfl]
    have hl := load25 hk0.out
    simp [asAddr, hl]

end Go.Proofs.Ytgadpoahjlnheaa.Med
