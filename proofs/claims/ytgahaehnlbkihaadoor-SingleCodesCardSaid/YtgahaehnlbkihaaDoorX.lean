/- The walks of the laws SingleCodes and SingleBack. -/
import Derived.Test.YtgahaehnlbkihaaDoorT
import Derived.Lib.SmallJoins
import Derived.Deep.Slices
import Derived.ChangeSame
import Derived.ChangeVars
import Derived.Deep.OwnRows
namespace Go.Proofs.YtgahaehnlbkihaaDoor
open Go.RowKit
set_option linter.unusedVariables false
set_option linter.unusedSimpArgs false
theorem codes_walk (e : Int) (hwf : (Lit.int .i8 e).wf = true) (s t : ByteArray) (w : World) (hg : Gl w) (hs : s.size ≤ 140737488355328) (ht : t.size ≤ 140737488355328) : Calls Tryd.prog 3 #[.int .i8 e, .string s, .string t] w fun x w' => RetB true w x w' := by
  have HG := Lib.hid hg
  have HB0 : Hid (Below w.heap.size w w) := Lib.hid (Below.refl _ _)
  have H7 : Hid (∀ w, Calls Tryd.prog 5 #[] w fun t w' => RetB true w t w') := Lib.hid wakes_any
  clear hg
  by_cases hlt : s.size + t.size ≤ 2000
  rotate_left 1
  · have hd : decide ((2000 : Int) < (s.size : Int) + (t.size : Int)) = true := by simp; omega
    clear hlt
    go_enter Tryd.func3, Tryd.ntmps3
    go_wp2_with (go_at_call 5; refine (H7.out _).mono ?_; rintro _ w7 ⟨rfl, hb7⟩; have HB7 := Lib.hid hb7; clear hb7 H7)
    go_ret
    exact ⟨rfl, HB7.out⟩
  have hd : decide ((2000 : Int) < (s.size : Int) + (t.size : Int)) = false := by simp; omega
  have E1 : Hid (∀ w, Gl w → Calls Tryd.prog 6 #[.int .i8 e, .string s] w fun x w' => DecS e s w x w') := Lib.hid fun w h => fdecode_any e hwf s w h (by omega)
  have E2 : Hid (∀ w, Calls Tryd.prog 7 #[.int .i8 e, .string s] w fun x w' => DecS e s w x w') := Lib.hid fun w => rdecode_any e s w (by omega)
  have E3 : Hid (∀ w, Gl w → Calls Tryd.prog 8 #[.int .i8 e, .string t] w fun x w' => EncS e t w x w') := Lib.hid fun w h => fencode_any e hwf t w h (by omega)
  have E4 : Hid (∀ w, Calls Tryd.prog 9 #[.int .i8 e, .string t] w fun x w' => EncS e t w x w') := Lib.hid fun w => rencode_any e t w (by omega)
  unfold DecS at E1 E2
  unfold EncS at E3 E4
  obtain ⟨x, hx⟩ : ∃ x, decT e s = x := ⟨_, rfl⟩
  obtain ⟨c, hc⟩ : ∃ x, decC e = x := ⟨_, rfl⟩
  obtain ⟨y, hy⟩ : ∃ x, str (encR e t).1 = x := ⟨_, rfl⟩
  obtain ⟨a, ha⟩ : ∃ x, (encR e t).2.1 = x := ⟨_, rfl⟩
  obtain ⟨d, hdd⟩ : ∃ x, (encR e t).2.2 = x := ⟨_, rfl⟩
  rw [hx, hc] at E1 E2
  rw [hy, ha, hdd] at E3 E4
  clear hx hc hy ha hdd hwf
  go_enter Tryd.func3, Tryd.ntmps3
  go_wp2_with (first
    | (go_at_call 6; refine (E1.out _ HG.out).mono ?_; rintro _ w1 ⟨rfl, hb1⟩; have HB1 := Lib.hid hb1; clear hb1 E1)
    | (go_at_call 7; refine (E2.out _).mono ?_; rintro _ w2 ⟨rfl, hb2⟩; have HB2 := Lib.hid (below_call HB1.out hb2); clear hb2 E2)
    | (go_at_call 8; refine (E3.out _ (HG.out.below' HB2.out)).mono ?_; rintro _ w3 ⟨rfl, hb3⟩; have HB3 := Lib.hid (below_call HB2.out hb3); clear hb3 E3)
    | (go_at_call 9; refine (E4.out _).mono ?_; rintro _ w4 ⟨rfl, hb4⟩; have HB4 := Lib.hid (below_call HB3.out hb4); clear hb4 E4)
    | (go_at_call 5; refine (H7.out _).mono ?_; rintro _ w7 ⟨rfl, hb7⟩; have HB7 := Lib.hid (below_call HB4.out hb7); clear hb7 H7))
  go_ret
  exact ⟨rfl, HB7.out⟩
theorem eF_encs {e : Int} (h : isE e = true) : ∀ (cs : List UInt8) (n a : Nat) (acc : List UInt8), (encs (cs.map fun c => scE e c.toNat)).length ≤ n → eF (bf e) n (encs (cs.map fun c => scE e c.toNat)) a acc = (acc ++ cs, -1, 0)
  | [], n, a, acc, _ => by simp [encs, eF_nil]
  | c :: cs, n, a, acc, hn => by
    have hB := isB_sc h c.toNat_lt
    rw [List.map_cons, encs_cons] at hn ⊢
    have hp := enc_pos hB
    obtain ⟨m, rfl⟩ : ∃ m, n = m + 1 := ⟨n - 1, by rw [List.length_append] at hn; omega⟩
    have hd := dec_enc hB (encs (cs.map fun c => scE e c.toNat))
    rw [eF_some (enc_ne hB _) hd (isB_ne hB) (bf_of h c.toNat_lt), List.drop_left, eF_encs h cs m _ _ (by rw [List.length_append] at hn; omega)]
    rw [by8_of (b := c) rfl]
    simp
theorem enc_back {e : Int} (h : isE e = true) (s : ByteArray) : encR e (str (encs (mp e s))) = (s.data.toList, -1, 0) := by
  rw [encR_is h, str_list]
  have := eF_encs h s.data.toList (encs (mp e s)).length 0 [] (Nat.le_refl _)
  exact this
/-- What is asked of one encoding. -/
structure Bk (e : Int) (s : ByteArray) (T : ByteArray) (M : List Int) : Prop where
  dq : ∀ w, Gl w → Calls Tryd.prog 6 #[.int .i8 e, .string s] w fun x w' => x = .returned (.tuple #[.string T, .int .i64 0]) ∧ Below w.heap.size w w'
  nq : ∀ w, Gl w → Calls Tryd.prog 8 #[.int .i8 e, .string T] w fun x w' => x = .returned (.tuple #[.string s, .int .i64 (-1), .int .i64 0]) ∧ Below w.heap.size w w'
  sq : ∀ w, Calls Tryd.prog 10 #[.string T] w fun x w' => ∃ p c, x = .returned (.tuple #[.slice p s.size c, .bool true]) ∧ Ints w' (.slice p s.size c) M ∧ Below w.heap.size w w'
  lq : M.length = s.size
  aq : ∀ k (h : k < s.size) (h2 : k < M.length), ((s[k].toNat : Int) < 128 → M[k] = s[k].toNat) ∧ (M[k] < 128 → M[k] = s[k].toNat)
theorem bk {e : Int} (h : isE e = true) (hwf : (Lit.int .i8 e).wf = true) (s : ByteArray) (hs : s.size ≤ 2000) : ∃ T M, Bk e s T M := by
  have hl := mp_len e s
  have h4 := encs_len (mp e s)
  refine ⟨str (encs (mp e s)), mp e s, ?_, ?_, ?_, hl, ?_⟩
  · intro w hg
    have := fdecode_any e hwf s w hg (by omega)
    unfold DecS decT decC at this
    rw [h] at this
    exact this
  · intro w hg
    have := fencode_any e hwf (str (encs (mp e s))) w hg (by rw [str_size]; omega)
    unfold EncS at this
    rw [enc_back h s] at this
    simp only [str_eta] at this
    exact this
  · intro w
    refine (rscal_any (str (encs (mp e s))) w (by rw [str_size]; omega)).mono ?_
    rintro x w' ⟨v, rfl, ho, hb⟩
    rw [str_list, ok_encs (allB_mp h s)] at ho ⊢
    rw [if_pos rfl, scl_encs (allB_mp h s)] at ho
    have hi := ints_of_own ho
    obtain ⟨p, c, rfl⟩ := hi.form
    rw [hl] at hi ⊢
    exact ⟨p, c, rfl, hi, hb⟩
  · intro k hk hk2
    have e2 : (mp e s)[k] = scE e s[k].toNat := by
      simp only [mp, List.getElem_map]
      rfl
    rw [e2]
    obtain ⟨h1, h2⟩ := sc_ascii e (isE_mem h) s[k].toNat s[k].toNat_lt
    exact ⟨fun hlt => h1 (by omega), h2⟩
end Go.Proofs.YtgahaehnlbkihaaDoor
