/- The contract of written: a value as it is, or as a quoted text. -/
import Derived.Test.YtgadpoahjlnheaaYC
namespace Go.Proofs.Ytgadpoahjlnheaa.Med
open Go.RowKit
set_option linter.unusedVariables false
set_option linter.unusedSimpArgs false
open Lab (RetS ret_str str str_size str_list str_eta str_inj u8v st_ixb sl_ixb info5 info_parts BW bw_new wpList_append_bw Own8 conv_own)
theorem quo_snoc (l : List UInt8) (c : UInt8) : quo (l ++ [c]) = quo l ++ (if c = 34 ∨ c = 92 then [92, c] else [c]) := by
  unfold quo; rw [List.flatMap_append]; simp
theorem take_snoc {l : List UInt8} {k : Nat} (h : k < l.length) : l.take (k + 1) = l.take k ++ [l[k]] := by
  rw [List.take_add_one, List.getElem?_eq_getElem h]; rfl
theorem own_lit34 (w : World) : (w.alloc (.cells #[.int .u8 34] 5)).ownsRow w.heap.size 5 1 (.slice (some ⟨w.heap.size, 0, none⟩) 1 1) 1 ([34].map u8v) :=
  World.ownsRow_lit w #[.int .u8 34] 1 (Nat.le_refl _) (by unfold maxLen; decide) rfl
set_option maxRecDepth 100000 in
set_option maxHeartbeats 4000000 in
theorem written_any (x : List UInt8) (w : World) (hs : x.length ≤ 10000) : Calls Try.prog 31 #[.string (str x)] w fun e w' => RetS (wval x) w e w' := by
  have HW : Hid (∀ w, Calls Try.prog 29 #[.string (str x), .int .i64 12] w fun e w' => e = .returned (.bool (tok x)) ∧ w' = w) := Lib.hid fun w => by
    have := isWord_any 12 (by decide) x w (by unfold maxLen; omega)
    rwa [wrd12] at this
  have HV : Hid (wval x = if tok x = true then x else 34 :: (quo x ++ [34])) := Lib.hid rfl
  obtain ⟨b, hb⟩ : ∃ b, tok x = b := ⟨_, rfl⟩
  rw [hb] at HW HV
  clear hb
  obtain ⟨s, hs'⟩ : ∃ s, str x = s := ⟨_, rfl⟩
  have hsz : s.size = x.length := by rw [← hs', str_size]
  have HL : Hid (s.data.toList = x) := Lib.hid (by rw [← hs', str_list])
  cases b with
  | true =>
    have HV2 : Hid (wval x = x) := Lib.hid (by rw [HV.out]; rfl)
    have HS := Lib.hid hs'
    rw [hs'] at HW ⊢
    clear hs' HL hsz HV
    go_enter Try.func31, Try.ntmps31
    go_wp2_with (go_at_call 29; refine (HW.out _).mono ?_; rintro _ w9 ⟨rfl, hw9⟩; subst w9)
    go_ret
    exact ⟨by rw [HV2.out, HS.out]; rfl, Below.refl _ _⟩
  | false =>
    have HV2 : Hid (wval x = 34 :: (quo x ++ [34])) := Lib.hid (by rw [HV.out]; rfl)
    have HI := Lib.hid fun c w => isIn_16 (some c) w
    rw [hs'] at HW ⊢
    have hs6 : s.size ≤ 10000 := by omega
    have HSZ := Lib.hid hsz
    obtain ⟨i0, hi, hz0, hz1, hz2⟩ := info_parts info5
    clear hs' HV hsz hs
    have HO0 := Lib.hid (own_lit34 w)
    have HB0 : Hid (Below w.heap.size w (w.alloc (.cells #[.int .u8 34] 5))) := Lib.hid ((Below.refl _ _).alloc (Nat.le_refl _) _)
    go_enter Try.func31, Try.ntmps31
    go_wp2_with (go_at_call 29; refine (HW.out _).mono ?_; rintro _ w9 ⟨rfl, hw9⟩; subst w9; clear HW)
    go_loopg [3, 11] (s.size + 1) (fun g q3 q11 wr => ∃ (k n cap G : Nat), k + g = s.size + 1 ∧ q3 = .slice (some ⟨G, 0, none⟩) n cap ∧ q11 = .int .i64 k ∧ k ≤ s.size ∧ n ≤ 2 * k + 1 ∧ Hid (wr.ownsRow w.heap.size 5 1 (.slice (some ⟨G, 0, none⟩) n cap) n ((34 :: quo (x.take k)).map u8v)) ∧ Hid (Below w.heap.size w wr))
    case atStart => exact ⟨0, 1, 1, w.heap.size, by omega, rfl, rfl, by omega, by omega, HO0, HB0⟩
    case round =>
      obtain ⟨k, n, cap, G, hkg, rfl, rfl, hk7, hnk, HO, HB⟩ := hrel
      have hwz := HB.out.size
      by_cases hlt : k < s.size
      · have hkl : k < x.length := by have := HSZ.out; omega
        have hk0 : (0 : Int) ≤ (k : Int) := by omega
        have hk3 : (k : Int) < (s.size : Int) := by omega
        have hel : x[k] = s[k] := by
          have e := HL.out
          subst e
          rfl
        have hw64 : wrap64 (s[k].toNat : Int) = (s[k].toNat : Int) := by
          have := s[k].toNat_lt
          unfold wrap64; omega
        have HC : Hid (∀ w, Calls Try.prog 50 #[.int .i64 (s[k].toNat : Int), .int .i64 16] w fun e w' => e = .returned (.bool (s[k] == 34 || s[k] == 92)) ∧ w' = w) := Lib.hid fun w => by
          have := HI.out s[k] w
          rwa [in16] at this
        have HQ := Lib.hid (quo_snoc (x.take k) x[k])
        rw [← take_snoc hkl, hel] at HQ
        obtain ⟨c, hc⟩ : ∃ c, s[k] = c := ⟨_, rfl⟩
        rw [hc] at HC HQ
        by_cases he : c = 34 ∨ c = 92
        · have hb : (c == 34 || c == 92) = true := by rcases he with h | h <;> simp [h]
          rw [hb] at HC
          have HN : Hid ((34 :: quo (x.take (k + 1))).map u8v = (34 :: quo (x.take k)).map u8v ++ [.int .u8 92] ++ [.int .u8 (c.toNat : Int)]) := Lib.hid (by rw [HQ.out, if_pos he]; simp [u8v])
          clear he hb HQ hel hkl
          rw [hc] at hw64
          go_wp2_with (first
            | (go_at_call 50; refine (HC.out _).mono ?_; rintro _ w9 ⟨rfl, hw9⟩; subst w9)
            | (at_builtin; refine wpList_append_lies _ rfl _ _ _ rfl w.heap.size 5 i0 _ 1 1 Try.underlying40 hi hz0 hz1 hz2 rfl (by omega) _ n _ rfl (World.ownsRow.alloc HO.out _) ⟨wr.heap.size, 0, none⟩ 1 1 [_] rfl rfl (cell_one_new _ _ _) (by simp [Value.oneCell']) (by omega) (by unfold maxLen; omega) (by omega) (by simp; omega) (wr.heap.size + 1) (by simp) ?_; intro g1 cap1 w1 hown1 hgrow1 hat1 hlt1
               have HO1 := Lib.hid hown1
               have HB1 : Hid (Below w.heap.size w w1) := Lib.hid ((HB.out.alloc hwz _).grown hgrow1 (by simp; omega) (fun k e => (World.ownsRow.lt HO.out k e).1))
               have hwz1 := HB1.out.size
               clear hown1 hgrow1 hat1 hlt1 HO)
            | (at_builtin; refine wpList_append_lies _ rfl _ _ _ rfl w.heap.size 5 i0 _ 1 1 Try.underlying40 hi hz0 hz1 hz2 rfl (by omega) _ (n + 1) _ rfl (World.ownsRow.alloc HO1.out _) ⟨w1.heap.size, 0, none⟩ 1 1 [_] rfl rfl (cell_one_new _ _ _) (by simp [Value.oneCell']) (by omega) (by unfold maxLen; omega) (by omega) (by simp; omega) (w1.heap.size + 1) (by simp) ?_; intro g2 cap2 w2 hown2 hgrow2 hat2 hlt2
               have HB2 : Hid (Below w.heap.size w w2) := Lib.hid ((HB1.out.alloc hwz1 _).grown hgrow2 (by simp; omega) (fun k e => (World.ownsRow.lt HO1.out k e).1))
               have HO2 := Lib.hid hown2
               clear hown2 hgrow2 hat2 hlt2 HO1))
          go_roundg (gk - 1)
          case measure => omega
          case rel => exact ⟨k + 1, n + 1 + 1, cap2, g2, by omega, rfl, by go_num, by omega, by omega, Lib.hid (by rw [HN.out]; exact HO2.out), HB2⟩
        · have hb : (c == 34 || c == 92) = false := by simpa using he
          rw [hb] at HC
          have HN : Hid ((34 :: quo (x.take (k + 1))).map u8v = (34 :: quo (x.take k)).map u8v ++ [.int .u8 (c.toNat : Int)]) := Lib.hid (by rw [HQ.out, if_neg he]; simp [u8v])
          clear he hb HQ hel hkl
          rw [hc] at hw64
          go_wp2_with (first
            | (go_at_call 50; refine (HC.out _).mono ?_; rintro _ w9 ⟨rfl, hw9⟩; subst w9)
            | (at_builtin; refine wpList_append_lies _ rfl _ _ _ rfl w.heap.size 5 i0 _ 1 1 Try.underlying40 hi hz0 hz1 hz2 rfl (by omega) _ n _ rfl (World.ownsRow.alloc HO.out _) ⟨wr.heap.size, 0, none⟩ 1 1 [_] rfl rfl (cell_one_new _ _ _) (by simp [Value.oneCell']) (by omega) (by unfold maxLen; omega) (by omega) (by simp; omega) (wr.heap.size + 1) (by simp) ?_; intro g1 cap1 w1 hown1 hgrow1 hat1 hlt1
               have HO1 := Lib.hid hown1
               have HB1 : Hid (Below w.heap.size w w1) := Lib.hid ((HB.out.alloc hwz _).grown hgrow1 (by simp; omega) (fun k e => (World.ownsRow.lt HO.out k e).1))
               clear hown1 hgrow1 hat1 hlt1 HO))
          go_roundg (gk - 1)
          case measure => omega
          case rel => exact ⟨k + 1, n + 1, cap1, g1, by omega, rfl, by go_num, by omega, by omega, Lib.hid (by rw [HN.out]; exact HO1.out), HB1⟩
      · have HE : Hid ((34 :: quo (x.take k)).map u8v ++ [.int .u8 34] = (34 :: (quo x ++ [34])).map u8v) := Lib.hid (by
          rw [List.take_of_length_le (by have := HSZ.out; omega)]; simp [u8v])
        go_wp2_with (first
            | (at_builtin; refine wpList_append_lies _ rfl _ _ _ rfl w.heap.size 5 i0 _ 1 1 Try.underlying40 hi hz0 hz1 hz2 rfl (by omega) _ n _ rfl (World.ownsRow.alloc HO.out _) ⟨wr.heap.size, 0, none⟩ 1 1 [_] rfl rfl (cell_one_new _ _ _) (by simp [Value.oneCell']) (by omega) (by unfold maxLen; omega) (by omega) (by simp; omega) (wr.heap.size + 1) (by simp) ?_; intro g1 cap1 w1 hown1 hgrow1 hat1 hlt1
               have HB1 : Hid (Below w.heap.size w w1) := Lib.hid ((HB.out.alloc hwz _).grown hgrow1 (by simp; omega) (fun k e => (World.ownsRow.lt HO.out k e).1))
               have hcv : (convert 40 9 (.slice (some ⟨g1, 0, none⟩) (n + 1) cap1)).run Try.prog w1 = .ok (.string (str (wval x))) w1 := by
                 have hl : n + 1 = (34 :: (quo x ++ [34])).length := by
                   have := hown1.1
                   rw [HE.out] at this
                   simpa using this.symm
                 rw [HE.out, hl] at hown1
                 have := conv_own (base := w.heap.size) (xs := 34 :: (quo x ++ [34])) hown1
                 rw [hl, HV2.out]; exact this
               clear hown1 hgrow1 hat1 hlt1 HO))
        go_ret
        exact ⟨rfl, HB1.out⟩
end Go.Proofs.Ytgadpoahjlnheaa.Med
