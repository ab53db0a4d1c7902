/- The contract of the document's own quoted. -/
import Derived.Test.YtgadpoahjlnheaaLO
import Derived.Test.YtgadpoahjlnheaaLF
import Derived.OwnWalk
namespace Go.Proofs.Ytgadpoahjlnheaa.Med
open Go.RowKit
set_option linter.unusedVariables false
set_option linter.unusedSimpArgs false
open Lab (RetS ret_str str str_size str_list str_eta str_inj u8v st_ixb info5 info_parts Own8 own_nil conv_own)
theorem qtd_suf : ∀ (n : Nat) {l : List UInt8} {q : List UInt8 × List UInt8}, l.length ≤ n → qtd l = some q → ∃ x, l = x ++ q.2
  | _, [], q, _, h => by unfold qtd at h; cases h
  | 0, c :: t, q, hn, h => by simp at hn
  | n + 1, c :: t, q, hn, h => by
    simp only [List.length_cons] at hn
    by_cases h34 : c = 34
    · subst h34; rw [qtd_34] at h; cases h; exact ⟨[34], rfl⟩
    by_cases h92 : c = 92
    · subst h92
      cases t with
      | nil => rw [qtd_bs0] at h; cases h
      | cons d u =>
        simp only [List.length_cons] at hn
        rw [qtd_bs] at h
        split at h
        · cases hq : qtd u with
          | none => rw [hq] at h; cases h
          | some q2 =>
            rw [hq] at h; cases h
            obtain ⟨x, hx⟩ := qtd_suf n (by omega) hq
            exact ⟨92 :: d :: x, by rw [hx]; rfl⟩
        · cases h
    · rw [qtd_c h34 h92] at h
      split at h
      · cases hq : qtd t with
        | none => rw [hq] at h; cases h
        | some q2 =>
          rw [hq] at h; cases h
          obtain ⟨x, hx⟩ := qtd_suf n (by omega) hq
          exact ⟨c :: x, by rw [hx]; rfl⟩
      · cases h
theorem suf_drop {l R x : List UInt8} (h : l = x ++ R) : l.drop (l.length - R.length) = R := by
  subst h
  rw [List.length_append, Nat.add_sub_cancel, List.drop_left]
/-- What quoted tells of what stands behind a quote. -/
def QR (l : List UInt8) (r : Option (List UInt8 × List UInt8)) (w : World) (e : Ending) (w' : World) : Prop :=
  (match r with
    | none => e = .returned (.tuple #[.string (str []), .int .i64 0, .bool false])
    | some q => e = .returned (.tuple #[.string (str q.1), .int .i64 ((l.length - q.2.length : Nat) : Int), .bool true])) ∧ Below w.heap.size w w'
theorem qr_no {l : List UInt8} {r : Option (List UInt8 × List UInt8)} {w w' : World} (h : r = none) (hb : Below w.heap.size w w') : QR l r w (.returned (.tuple #[.string ⟨#[]⟩, .int .i64 0, .bool false])) w' := by
  subst h; exact ⟨rfl, hb⟩
theorem qr_yes {l v R : List UInt8} {r : Option (List UInt8 × List UInt8)} {w w' : World} {i : Int} (h : r = some (v, R)) (hi : i = ((l.length - R.length : Nat) : Int)) (hb : Below w.heap.size w w') : QR l r w (.returned (.tuple #[.string (str v), .int .i64 i, .bool true])) w' := by
  subst h; subst hi; exact ⟨rfl, hb⟩
def eI (x : Int) : Bool := decide (x = 9) || (decide (32 ≤ x) && decide (x ≤ 126))
theorem esc_eI (c : UInt8) : esc c = eI (c.toNat : Int) := by
  have : ∀ c : Fin 256, esc (UInt8.ofNat c) = eI (c.val : Int) := by decide +kernel
  have k := this ⟨c.toNat, c.toNat_lt⟩
  simpa using k
theorem u8_lit {c : UInt8} {n : UInt8} : (c.toNat : Int) = (n.toNat : Int) ↔ c = n := by
  constructor
  · intro h
    exact UInt8.toNat_inj.1 (by omega)
  · intro h; rw [h]
set_option maxRecDepth 100000 in
set_option maxHeartbeats 8000000 in
theorem quoted_any (l : List UInt8) (a : Nat) (w : World) (hs : l.length ≤ 100000) (ha : a < l.length) : Calls Try.prog 47 #[.string (str l), .int .i64 (a : Int)] w fun e w' => QR l (qtd (l.drop (a + 1))) w e w' := by
  obtain ⟨r, hr⟩ : ∃ r, qtd (l.drop (a + 1)) = r := ⟨_, rfl⟩
  rw [hr]
  have HR := Lib.hid hr
  clear hr
  obtain ⟨s, hs'⟩ : ∃ s, str l = s := ⟨_, rfl⟩
  have hsz : s.size = l.length := by rw [← hs', str_size]
  have HL : Hid (s.data.toList = l) := Lib.hid (by rw [← hs', str_list])
  have HSZ := Lib.hid hsz
  have hs6 : s.size ≤ 100000 := by omega
  have has : a < s.size := by omega
  rw [hs']
  clear hs' hsz hs ha
  obtain ⟨i0, hi, hz0, hz1, hz2⟩ := info_parts info5
  go_enter Try.func47, Try.ntmps47
  go_wp2_with fail
  go_loopg [7, 8] (s.size + 1 - (a + 1)) (fun g q7 q8 wr => ∃ (k n : Nat) (v : Value) (acc : List UInt8), k + g = s.size + 1 ∧ v = q7 ∧ q8 = .int .i64 (k : Int) ∧ k ≤ s.size ∧ n ≤ k ∧ acc.length = n ∧ Hid (wr.ownsRow w.heap.size 5 1 v n (acc.map u8v)) ∧ Hid (r = (qtd (l.drop k)).map fun q => (acc ++ q.1, q.2)) ∧ Hid (Below w.heap.size w wr))
  case atStart => exact ⟨a + 1, 0, .slice none 0 0, [], by omega, rfl, by go_num, by omega, by omega, rfl, Lib.hid (World.ownsRow_nil _ _ _ _), Lib.hid (by
    rw [← HR.out]; cases qtd (l.drop (a + 1)) <;> simp), Lib.hid (Below.refl _ _)⟩
  case round =>
    obtain ⟨k, n, v, acc, hkg, rfl, rfl, hk7, hnk, hn, HO, HQ, HB⟩ := hrel
    by_cases hlt : k < s.size
    · have hkl : k < l.length := by have := HSZ.out; omega
      have hk0 : (0 : Int) ≤ (k : Int) := by omega
      have hk3 : (k : Int) < (s.size : Int) := by omega
      have hdr : l.drop k = s[k] :: l.drop (k + 1) := by
        have e := HL.out
        subst e
        exact List.drop_eq_getElem_cons hkl
      rw [hdr] at HQ
      have HWC : Hid (∀ w, Calls Try.prog 33 #[.int .u8 (s[k].toNat : Int)] w fun e w' => e = .returned (.bool (wth s[k])) ∧ w' = w) := Lib.hid fun w => within_any s[k] w
      obtain ⟨c, hc⟩ : ∃ c, s[k] = c := ⟨_, rfl⟩
      rw [hc] at HQ HWC
      clear hdr
      by_cases h34 : c = 34
      · have d1 : ((c.toNat : Int) == 34) = true := by subst h34; decide
        have HY : Hid (r = some (acc, l.drop (k + 1))) := Lib.hid (by rw [HQ.out, h34, qtd_34]; simp)
        have hcv := conv_own (xs := acc) (by rw [Own8, hn]; exact HO.out)
        have HLN : Hid ((l.drop (k + 1)).length = l.length - (k + 1)) := Lib.hid (by rw [List.length_drop])
        clear h34 HQ hkl
        go_wp2_with fail
        go_ret3
        exact qr_yes HY.out (by rw [HLN.out, ← HSZ.out]; omega) HB.out
      have d1 : ((c.toNat : Int) == 34) = false := by
        have : ¬ (c.toNat : Int) = 34 := fun h => h34 (u8_lit.1 h)
        simpa using this
      by_cases h92 : c = 92
      · have d2 : ((c.toNat : Int) == 92) = true := by subst h92; decide
        rw [h92] at HQ
        by_cases hk1 : k + 1 < s.size
        · have hkl1 : k + 1 < l.length := by have := HSZ.out; omega
          have hj0 : (0 : Int) ≤ (k : Int) + 1 := by omega
          have hj3 : (k : Int) + 1 < (s.size : Int) := by omega
          have hj4 : decide ((s.size : Int) ≤ (k : Int) + 1) = false := by simp; omega
          have hdr : l.drop (k + 1) = s[k + 1] :: l.drop (k + 1 + 1) := by
            have e := HL.out
            subst e
            exact List.drop_eq_getElem_cons hkl1
          rw [hdr, qtd_bs] at HQ
          have HES := Lib.hid (esc_eI s[k + 1])
          obtain ⟨d, hd⟩ : ∃ d, s[k + 1] = d := ⟨_, rfl⟩
          rw [hd] at HQ HES
          obtain ⟨x, hx⟩ : ∃ x : Int, (d.toNat : Int) = x := ⟨_, rfl⟩
          have HD : Hid ([d].map u8v = [.int .u8 x]) := Lib.hid (by rw [← hx]; rfl)
          clear hdr h92 h34 hkl hkl1
          by_cases h9 : x = 9
          · have e1 : (x != 9) = false := by simpa using h9
            have HE : Hid (esc d = true) := Lib.hid (by rw [HES.out, hx]; simp only [eI, Bool.or_eq_true, Bool.and_eq_true, decide_eq_true_eq]; omega)
            have HQ2 : Hid (r = (qtd (l.drop (k + 1 + 1))).map fun q => (acc ++ [d] ++ q.1, q.2)) := Lib.hid (by
              rw [HQ.out, if_pos HE.out, Option.map_map]; congr 1; funext q; simp)
            have hwz := HB.out.size
            clear HQ HES HE h9
            go_wp2_with (first
              | (at_builtin; refine wpList_append_lies _ rfl _ _ _ rfl w.heap.size 5 i0 _ 1 1 Try.underlying40 hi hz0 hz1 hz2 rfl (by omega) v n (acc.map u8v) rfl (World.ownsRow.alloc HO.out _) ⟨wr.heap.size, 0, none⟩ 1 1 [_] rfl rfl (cell_one_new _ _ _) (by simp [Value.oneCell']) (by omega) (by unfold maxLen; omega) (by omega) (by simp; omega) (wr.heap.size + 1) (by simp) ?_; intro g1 cap1 w1 hown1 hgrow1 hat1 hlt1
                 have HO1 := Lib.hid hown1
                 have HB1 : Hid (Below w.heap.size w w1) := Lib.hid ((HB.out.alloc hwz _).grown hgrow1 (by simp; omega) (fun k e => (World.ownsRow.lt HO.out k e).1))
                 clear hown1 hgrow1 hat1 hlt1))
            go_roundg (gk - 2)
            case measure => omega
            case rel => exact ⟨k + 1 + 1, n + 1, _, acc ++ [d], by omega, rfl, by go_num, by omega, by omega, by simp [hn], Lib.hid (by rw [List.map_append, HD.out]; exact HO1.out), HQ2, HB1⟩
          have e1 : (x != 9) = true := by simpa using h9
          by_cases h32 : x < 32
          · have e2 : decide (x < 32) = true := by simpa using h32
            have HE : Hid (esc d = false) := Lib.hid (by rw [HES.out, hx]; simp [eI]; omega)
            have HN : Hid (r = none) := Lib.hid (by rw [HQ.out, if_neg (by rw [HE.out]; decide)]; rfl)
            clear HQ HES HE h9 h32
            go_wp2_with fail
            go_ret3
            exact qr_no HN.out HB.out
          have e2 : decide (x < 32) = false := by simpa using h32
          by_cases h126 : 126 < x
          · have e3 : decide (126 < x) = true := by simpa using h126
            have HE : Hid (esc d = false) := Lib.hid (by rw [HES.out, hx]; simp [eI]; omega)
            have HN : Hid (r = none) := Lib.hid (by rw [HQ.out, if_neg (by rw [HE.out]; decide)]; rfl)
            clear HQ HES HE h9 h32 h126
            go_wp2_with fail
            go_ret3
            exact qr_no HN.out HB.out
          · have e3 : decide (126 < x) = false := by simpa using h126
            have HE : Hid (esc d = true) := Lib.hid (by rw [HES.out, hx]; simp only [eI, Bool.or_eq_true, Bool.and_eq_true, decide_eq_true_eq]; omega)
            have HQ2 : Hid (r = (qtd (l.drop (k + 1 + 1))).map fun q => (acc ++ [d] ++ q.1, q.2)) := Lib.hid (by
              rw [HQ.out, if_pos HE.out, Option.map_map]; congr 1; funext q; simp)
            have hwz := HB.out.size
            clear HQ HES HE h9 h32 h126
            go_wp2_with (first
              | (at_builtin; refine wpList_append_lies _ rfl _ _ _ rfl w.heap.size 5 i0 _ 1 1 Try.underlying40 hi hz0 hz1 hz2 rfl (by omega) v n (acc.map u8v) rfl (World.ownsRow.alloc HO.out _) ⟨wr.heap.size, 0, none⟩ 1 1 [_] rfl rfl (cell_one_new _ _ _) (by simp [Value.oneCell']) (by omega) (by unfold maxLen; omega) (by omega) (by simp; omega) (wr.heap.size + 1) (by simp) ?_; intro g1 cap1 w1 hown1 hgrow1 hat1 hlt1
                 have HO1 := Lib.hid hown1
                 have HB1 : Hid (Below w.heap.size w w1) := Lib.hid ((HB.out.alloc hwz _).grown hgrow1 (by simp; omega) (fun k e => (World.ownsRow.lt HO.out k e).1))
                 clear hown1 hgrow1 hat1 hlt1))
            go_roundg (gk - 2)
            case measure => omega
            case rel => exact ⟨k + 1 + 1, n + 1, _, acc ++ [d], by omega, rfl, by go_num, by omega, by omega, by simp [hn], Lib.hid (by rw [List.map_append, HD.out]; exact HO1.out), HQ2, HB1⟩
        · have hj4 : decide ((s.size : Int) ≤ (k : Int) + 1) = true := by simp; omega
          have HN : Hid (r = none) := Lib.hid (by
            rw [HQ.out, List.drop_eq_nil_of_le (by have := HSZ.out; omega), qtd_bs0]; rfl)
          clear h92 h34 hkl HQ
          go_wp2_with fail
          go_ret3
          exact qr_no HN.out HB.out
      · have d2 : ((c.toNat : Int) == 92) = false := by
          have : ¬ (c.toNat : Int) = 92 := fun h => h92 (u8_lit.1 h)
          simpa using this
        rw [qtd_c h34 h92] at HQ
        obtain ⟨b, hb⟩ : ∃ b, wth c = b := ⟨_, rfl⟩
        rw [hb] at HQ HWC
        clear hb h92 h34 hkl
        cases b with
        | true =>
          have HQ2 : Hid (r = (qtd (l.drop (k + 1))).map fun q => (acc ++ [c] ++ q.1, q.2)) := Lib.hid (by
            rw [HQ.out, if_pos rfl, Option.map_map]; congr 1; funext q; simp)
          have hwz := HB.out.size
          clear HQ
          go_wp2_with (first
            | (go_at_call 33; refine (HWC.out _).mono ?_; rintro _ w9 ⟨rfl, hw9⟩; subst w9)
            | (at_builtin; refine wpList_append_lies _ rfl _ _ _ rfl w.heap.size 5 i0 _ 1 1 Try.underlying40 hi hz0 hz1 hz2 rfl (by omega) v n (acc.map u8v) rfl (World.ownsRow.alloc HO.out _) ⟨wr.heap.size, 0, none⟩ 1 1 [_] rfl rfl (cell_one_new _ _ _) (by simp [Value.oneCell']) (by omega) (by unfold maxLen; omega) (by omega) (by simp; omega) (wr.heap.size + 1) (by simp) ?_; intro g1 cap1 w1 hown1 hgrow1 hat1 hlt1
               have HO1 := Lib.hid hown1
               have HB1 : Hid (Below w.heap.size w w1) := Lib.hid ((HB.out.alloc hwz _).grown hgrow1 (by simp; omega) (fun k e => (World.ownsRow.lt HO.out k e).1))
               clear hown1 hgrow1 hat1 hlt1))
          go_roundg (gk - 1)
          case measure => omega
          case rel => exact ⟨k + 1, n + 1, _, acc ++ [c], by omega, rfl, by go_num, by omega, by omega, by simp [hn], Lib.hid (by rw [List.map_append]; exact HO1.out), HQ2, HB1⟩
        | false =>
          have HN : Hid (r = none) := Lib.hid (by rw [HQ.out, if_neg (by simp)]; rfl)
          clear HQ
          go_wp2_with (first
            | (go_at_call 33; refine (HWC.out _).mono ?_; rintro _ w9 ⟨rfl, hw9⟩; subst w9))
          go_ret3
          exact qr_no HN.out HB.out
    · have HN : Hid (r = none) := Lib.hid (by
        rw [HQ.out, List.drop_eq_nil_of_le (by have := HSZ.out; omega)]
        unfold qtd; rfl)
      clear HQ
      go_wp2_with fail
      go_ret3
      exact qr_no HN.out HB.out
end Go.Proofs.Ytgadpoahjlnheaa.Med
