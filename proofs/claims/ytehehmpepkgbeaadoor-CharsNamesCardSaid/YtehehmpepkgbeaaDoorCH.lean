/- The contracts of the document's own Plain, Bad, Take, Blank. -/
import Derived.Test.YtehehmpepkgbeaaDoorCF
namespace Go.Proofs.YtehehmpepkgbeaaDoor.Chr
open Go.RowKit
set_option linter.unusedVariables false
set_option linter.unusedSimpArgs false
/-- A walk over a text as far as a kind goes: it stands at a, all ahead of it being of the kind. -/
structure GAt (Q : Nat → Int → Bool) (l : List UInt8) (a : Nat) : Prop where
  le : a ≤ l.length
  go : goQ Q (prt l) 0 = goQ Q (prt (l.drop a)) a
theorem GAt.start (Q : Nat → Int → Bool) (l : List UInt8) : GAt Q l 0 := ⟨Nat.zero_le _, rfl⟩
theorem GAt.step {Q : Nat → Int → Bool} {l : List UInt8} {a : Nat} (h : GAt Q l a) (hl : a < l.length) {r : Int} {n : Nat} (hd : dec (l.drop a) = (r, n)) (hq : Q a r = true) : GAt Q l (a + n) := by
  have hne := drop_ne hl
  have h2 := dec_le hne
  rw [hd, List.length_drop] at h2
  dsimp only at h2
  refine ⟨by omega, ?_⟩
  rw [h.go, prt_cons hne, hd, List.drop_drop]
  show (if Q a r = true then _ else _) = _
  rw [if_pos hq]
theorem GAt.stop {Q : Nat → Int → Bool} {l : List UInt8} {a : Nat} (h : GAt Q l a) (hl : a < l.length) {r : Int} {n : Nat} (hd : dec (l.drop a) = (r, n)) (hq : Q a r = false) : goQ Q (prt l) 0 = a := by
  have hne := drop_ne hl
  rw [h.go, prt_cons hne, hd]
  show (if Q a r = true then _ else _) = _
  rw [if_neg (by rw [hq]; decide)]
theorem GAt.done {Q : Nat → Int → Bool} {l : List UInt8} {a : Nat} (h : GAt Q l a) (hl : ¬ a < l.length) : goQ Q (prt l) 0 = l.length ∧ a = l.length := by
  have e : l.drop a = [] := List.drop_eq_nil_of_le (by omega)
  have := h.le
  refine ⟨?_, by omega⟩
  rw [h.go, e]
  show a = _
  omega
set_option maxHeartbeats 4000000 in
theorem rbad_any (l : List UInt8) (w : World) (hs : l.length ≤ 100000) : Calls Tryd.prog 23 #[.string (str l)] w fun e w' => RetI (bad l) w e w' := by
  have HNX : Hid (∀ a : Int, Calls Tryd.prog 38 #[.string (str l), .int .i64 a] w fun e w' => NextS w (str l) a e w') := Lib.hid fun a => rnext_any (str l) a w (by rw [str_size]; exact hs)
  have hz := str_size l
  have hl2 := str_list l
  have HB := Lib.hid (go_bad l)
  obtain ⟨s, hS⟩ : ∃ S, str l = S := ⟨_, rfl⟩
  rw [hS] at HNX hz hl2 ⊢
  have HZ := Lib.hid hz
  have HL2 := Lib.hid hl2
  have hs : s.size ≤ 100000 := by omega
  clear hS hz hl2
  go_enter Tryd.func23, Tryd.ntmps23
  go_wp2_with fail
  go_loopg [3] (s.size + 1) (fun g q wr => ∃ (a : Nat), a + g = s.size + 1 ∧ w = wr ∧ q = .int .i64 a ∧ Hid (GAt chrQ l a))
  case atStart => exact ⟨0, by omega, rfl, rfl, Lib.hid (GAt.start _ _)⟩
  case round =>
    obtain ⟨a, hag, rfl, rfl, HA⟩ := hrel
    by_cases hlt : a < s.size
    · have hll : a < l.length := by rw [← HZ.out]; exact hlt
      obtain ⟨r, n, hd⟩ : ∃ r n, dec (l.drop a) = (r, n) := ⟨_, _, rfl⟩
      have hd' : dec (s.data.toList.drop a) = (r, n) := by rw [HL2.out]; exact hd
      have hn := HNX.out a
      unfold NextS at hn
      by_cases hr : r = -1
      · subst hr
        rw [nxt_bad hlt hd'] at hn
        have Hn := Lib.hid hn
        have HR : Hid (bad l = a) := Lib.hid (by
          have := HA.out.stop hll hd (chrQ_no a)
          rw [HB.out, this, if_neg (by omega)])
        clear hn hd hd'
        go_wp2_with (go_at_call 38; refine Hn.out.mono ?_; rintro e w' ⟨rfl, rfl⟩)
        go_ret
        exact ⟨by rw [HR.out]; rfl, Below.refl _ _⟩
      · rw [nxt_good hlt hd' hr] at hn
        have Hn := Lib.hid hn
        have HC : Hid (∀ w, Calls Tryd.prog 10 #[.int .i64 r] w fun e w' => e = .returned (.bool (chr r)) ∧ w' = w) := Lib.hid fun w => rchar_any r w
        cases hc : chr r with
        | false =>
          rw [hc] at HC
          have HR : Hid (bad l = a) := Lib.hid (by
            have := HA.out.stop hll hd hc
            rw [HB.out, this, if_neg (by omega)])
          clear hn hd hd' hr hc
          go_wp2_with (first
            | (go_at_call 38; refine Hn.out.mono ?_; rintro e w' ⟨rfl, rfl⟩)
            | (go_at_call 10; refine (HC.out _).mono ?_; rintro _ w9 ⟨rfl, hw9⟩; subst w9))
          go_ret
          exact ⟨by rw [HR.out]; rfl, Below.refl _ _⟩
        | true =>
          rw [hc] at HC
          have HN : Hid (GAt chrQ l (a + n)) := Lib.hid (HA.out.step hll hd hc)
          have h1 : 1 ≤ n := by have := dec_pos (l.drop a); rw [hd] at this; exact this
          have h2 : n ≤ 4 := by have := dec_le4 (l.drop a); rw [hd] at this; exact this
          have h3 : a + n ≤ s.size := by have := HN.out.le; rw [HZ.out]; exact this
          clear hn hd hd' hr hc
          go_wp2_with (first
            | (go_at_call 38; refine Hn.out.mono ?_; rintro e w' ⟨rfl, rfl⟩)
            | (go_at_call 10; refine (HC.out _).mono ?_; rintro _ w9 ⟨rfl, hw9⟩; subst w9))
          go_roundg (gk - n)
          case measure => omega
          case rel => exact ⟨a + n, by omega, rfl, by go_num, HN⟩
    · have HR : Hid (bad l = -1) := Lib.hid (by
        obtain ⟨k1, k2⟩ := HA.out.done (by rw [← HZ.out]; exact hlt)
        rw [HB.out, k1, if_pos rfl])
      go_wp2_with fail
      go_ret
      exact ⟨by rw [HR.out]; rfl, Below.refl _ _⟩
theorem okT_no (a : Nat) : okT a (-1) = false := by
  unfold okT
  split
  · exact fst_no
  · rw [fur_no]; rfl
theorem tk_go (l : List UInt8) : tk l = goQ okT (prt l) 0 := (goQ_tk _ _).symm
set_option maxHeartbeats 8000000 in
theorem rtake_any (l : List UInt8) (w : World) (hs : l.length ≤ 100000) : Calls Tryd.prog 27 #[.string (str l)] w fun e w' => RetI (tk l : Nat) w e w' := by
  have HNX : Hid (∀ a : Int, Calls Tryd.prog 38 #[.string (str l), .int .i64 a] w fun e w' => NextS w (str l) a e w') := Lib.hid fun a => rnext_any (str l) a w (by rw [str_size]; exact hs)
  have hz := str_size l
  have hl2 := str_list l
  have HB := Lib.hid (tk_go l)
  obtain ⟨s, hS⟩ : ∃ S, str l = S := ⟨_, rfl⟩
  rw [hS] at HNX hz hl2 ⊢
  have HZ := Lib.hid hz
  have HL2 := Lib.hid hl2
  have hs : s.size ≤ 100000 := by omega
  clear hS hz hl2
  go_enter Tryd.func27, Tryd.ntmps27
  go_wp2_with fail
  go_loopg [3] (s.size + 1) (fun g q wr => ∃ (a : Nat), a + g = s.size + 1 ∧ w = wr ∧ q = .int .i64 a ∧ Hid (GAt okT l a))
  case atStart => exact ⟨0, by omega, rfl, rfl, Lib.hid (GAt.start _ _)⟩
  case round =>
    obtain ⟨a, hag, rfl, rfl, HA⟩ := hrel
    by_cases hlt : a < s.size
    · have hll : a < l.length := by rw [← HZ.out]; exact hlt
      obtain ⟨r, n, hd⟩ : ∃ r n, dec (l.drop a) = (r, n) := ⟨_, _, rfl⟩
      have hd' : dec (s.data.toList.drop a) = (r, n) := by rw [HL2.out]; exact hd
      have hn := HNX.out a
      unfold NextS at hn
      by_cases hr : r = -1
      · subst hr
        rw [nxt_bad hlt hd'] at hn
        have Hn := Lib.hid hn
        have HR : Hid (tk l = a) := Lib.hid (by rw [HB.out]; exact HA.out.stop hll hd (okT_no a))
        clear hn hd hd'
        go_wp2_with (go_at_call 38; refine Hn.out.mono ?_; rintro e w' ⟨rfl, rfl⟩)
        go_ret
        exact ⟨by rw [HR.out]; rfl, Below.refl _ _⟩
      · rw [nxt_good hlt hd' hr] at hn
        have Hn := Lib.hid hn
        have HF : Hid (∀ w, Calls Tryd.prog 14 #[.int .i64 r] w fun e w' => e = .returned (.bool (fstC r)) ∧ w' = w) := Lib.hid fun w => rfirst_any r w
        have HU : Hid (∀ w, Calls Tryd.prog 16 #[.int .i64 r] w fun e w' => e = .returned (.bool (furC r)) ∧ w' = w) := Lib.hid fun w => rfurther_any r w
        have h1 : 1 ≤ n := by have := dec_pos (l.drop a); rw [hd] at this; exact this
        have h2 : n ≤ 4 := by have := dec_le4 (l.drop a); rw [hd] at this; exact this
        by_cases ha : a = 0
        · subst ha
          have hz0 : (((0 : Nat) : Int) == 0) = true := rfl
          have hz1 : ¬ (((0 : Nat) : Int) > 0) := by omega
          cases hc : fstC r with
          | false =>
            rw [hc] at HF
            have HR : Hid (tk l = 0) := Lib.hid (by rw [HB.out]; exact HA.out.stop hll hd hc)
            clear hn hd hd' hr hc HU
            go_wp2_with (first
              | (go_at_call 38; refine Hn.out.mono ?_; rintro e w' ⟨rfl, rfl⟩)
              | (go_at_call 14; refine (HF.out _).mono ?_; rintro _ w9 ⟨rfl, hw9⟩; subst w9))
            go_ret
            exact ⟨by rw [HR.out]; rfl, Below.refl _ _⟩
          | true =>
            rw [hc] at HF
            have HN : Hid (GAt okT l (0 + n)) := Lib.hid (HA.out.step hll hd hc)
            have h3 : 0 + n ≤ s.size := by have := HN.out.le; rw [HZ.out]; exact this
            clear hn hd hd' hr hc HU
            go_wp2_with (first
              | (go_at_call 38; refine Hn.out.mono ?_; rintro e w' ⟨rfl, rfl⟩)
              | (go_at_call 14; refine (HF.out _).mono ?_; rintro _ w9 ⟨rfl, hw9⟩; subst w9))
            go_roundg (gk - n)
            case measure => omega
            case rel => exact ⟨0 + n, by omega, rfl, by go_num, HN⟩
        · have hz0 : ((a : Int) == 0) = false := by simpa using ha
          have hz1 : (a : Int) > 0 := by omega
          have hokt : okT a r = (furC r || r == 58) := by unfold okT; rw [if_neg ha]
          cases hc : furC r with
          | true =>
            rw [hc] at HU hokt
            have HN : Hid (GAt okT l (a + n)) := Lib.hid (HA.out.step hll hd hokt)
            have h3 : a + n ≤ s.size := by have := HN.out.le; rw [HZ.out]; exact this
            clear hn hd hd' hr hc HF hokt ha
            go_wp2_with (first
              | (go_at_call 38; refine Hn.out.mono ?_; rintro e w' ⟨rfl, rfl⟩)
              | (go_at_call 16; refine (HU.out _).mono ?_; rintro _ w9 ⟨rfl, hw9⟩; subst w9))
            go_roundg (gk - n)
            case measure => omega
            case rel => exact ⟨a + n, by omega, rfl, by go_num, HN⟩
          | false =>
            rw [hc] at HU hokt
            by_cases h58 : r = 58
            · have hne : (r != 58) = false := by simpa using h58
              have HN : Hid (GAt okT l (a + n)) := Lib.hid (HA.out.step hll hd (by rw [hokt, h58]; rfl))
              have h3 : a + n ≤ s.size := by have := HN.out.le; rw [HZ.out]; exact this
              clear hn hd hd' hr hc HF hokt ha h58
              go_wp2_with (first
                | (go_at_call 38; refine Hn.out.mono ?_; rintro e w' ⟨rfl, rfl⟩)
                | (go_at_call 16; refine (HU.out _).mono ?_; rintro _ w9 ⟨rfl, hw9⟩; subst w9))
              go_roundg (gk - n)
              case measure => omega
              case rel => exact ⟨a + n, by omega, rfl, by go_num, HN⟩
            · have hne : (r != 58) = true := by simpa using h58
              have HR : Hid (tk l = a) := Lib.hid (by rw [HB.out]; exact HA.out.stop hll hd (by rw [hokt]; simpa using h58))
              clear hn hd hd' hr hc HF hokt ha h58
              go_wp2_with (first
                | (go_at_call 38; refine Hn.out.mono ?_; rintro e w' ⟨rfl, rfl⟩)
                | (go_at_call 16; refine (HU.out _).mono ?_; rintro _ w9 ⟨rfl, hw9⟩; subst w9))
              go_ret
              exact ⟨by rw [HR.out]; rfl, Below.refl _ _⟩
    · have HR : Hid (tk l = a) := Lib.hid (by
        obtain ⟨k1, k2⟩ := HA.out.done (by rw [← HZ.out]; exact hlt)
        rw [HB.out, k1, k2])
      go_wp2_with fail
      go_ret
      exact ⟨by rw [HR.out]; rfl, Below.refl _ _⟩
theorem blk_drop {l : List UInt8} {k : Nat} (h : k < l.length) : blk (l.drop k) = (spc (l[k].toNat : Int) && blk (l.drop (k + 1))) := by
  rw [List.drop_eq_getElem_cons h, blk_cons]
set_option maxHeartbeats 2000000 in
theorem rblank_any (l : List UInt8) (w : World) (hs : l.length ≤ 100000) : Calls Tryd.prog 25 #[.string (str l)] w fun e w' => RetB (blk l) w e w' := by
  have hz := str_size l
  have HGE : Hid (∀ k (h' : k < (str l).size), l[k]? = some (str l)[k]) := Lib.hid fun k h' => by
    have h2 : k < l.length := by rw [← hz]; exact h'
    rw [List.getElem?_eq_getElem h2]; rfl
  obtain ⟨s, hS⟩ : ∃ S, str l = S := ⟨_, rfl⟩
  rw [hS] at HGE hz ⊢
  have HZ := Lib.hid hz
  have hs : s.size ≤ 100000 := by omega
  clear hS hz
  go_enter Tryd.func25, Tryd.ntmps25
  go_wp2_with fail
  go_loopg [3] (s.size + 1) (fun g q wr => ∃ (k : Nat), k + g = s.size + 1 ∧ w = wr ∧ q = .int .i64 k ∧ k ≤ s.size ∧ Hid (blk l = blk (l.drop k)))
  case atStart => exact ⟨0, by omega, rfl, rfl, by omega, Lib.hid (by simp)⟩
  case round =>
    obtain ⟨k, hkg, rfl, rfl, hk7, HA⟩ := hrel
    by_cases hlt : k < s.size
    · have hll : k < l.length := by rw [← HZ.out]; exact hlt
      have hk0 : (0 : Int) ≤ (k : Int) := by omega
      have hk3 : (k : Int) < (s.size : Int) := by omega
      have hel : l[k] = s[k] := by
        have h := HGE.out k hlt
        rw [List.getElem?_eq_getElem hll] at h
        exact Option.some.inj h
      have hbd := blk_drop hll
      rw [hel] at hbd
      have h256 := s[k].toNat_lt
      have hwr : IntKind.i64.wrap (s[k].toNat : Int) = (s[k].toNat : Int) := wraps_i64 _ (by omega) (by omega)
      have HC : Hid (∀ w, Calls Tryd.prog 12 #[.int .i64 (s[k].toNat : Int)] w fun e w' => e = .returned (.bool (spc (s[k].toNat : Int))) ∧ w' = w) := Lib.hid fun w => rspace_any _ w
      cases hc : spc (s[k].toNat : Int) with
      | false =>
        rw [hc] at HC hbd
        have HR : Hid (blk l = false) := Lib.hid (by rw [HA.out, hbd]; rfl)
        clear hc hbd hel
        go_wp2_with (go_at_call 12; refine (HC.out _).mono ?_; rintro _ w9 ⟨rfl, hw9⟩; subst w9)
        go_ret
        exact ⟨by rw [HR.out]; rfl, Below.refl _ _⟩
      | true =>
        rw [hc] at HC hbd
        have HR : Hid (blk l = blk (l.drop (k + 1))) := Lib.hid (by rw [HA.out, hbd]; rfl)
        clear hc hbd hel
        go_wp2_with (go_at_call 12; refine (HC.out _).mono ?_; rintro _ w9 ⟨rfl, hw9⟩; subst w9)
        go_roundg (gk - 1)
        case measure => omega
        case rel => exact ⟨k + 1, by omega, rfl, by go_num, by omega, HR⟩
    · have HR : Hid (blk l = true) := Lib.hid (by
        rw [HA.out, List.drop_eq_nil_of_le (by rw [← HZ.out]; omega)]; rfl)
      go_wp2_with fail
      go_ret
      exact ⟨by rw [HR.out]; rfl, Below.refl _ _⟩
/-- As far as the scalars of a plain name go. -/
def PlTo (xs : List Int) (k : Nat) : Prop := ∀ j (h : j < xs.length), j < k → (if j = 0 then fstC xs[j] else furC xs[j]) = true
theorem pl_end {xs : List Int} (hne : xs ≠ []) (h : PlTo xs xs.length) : plainS xs = true := by
  match xs, hne, h with
  | x :: t, _, h =>
    simp only [plainS, Bool.and_eq_true]
    refine ⟨h 0 (by simp) (by simp), ?_⟩
    rw [List.all_eq_true]
    intro y hy
    obtain ⟨i, hi, rfl⟩ := List.mem_iff_getElem.1 hy
    have := h (i + 1) (by simpa using hi) (by simpa using hi)
    rw [if_neg (by omega)] at this
    simpa using this
theorem pl_bad0 {xs : List Int} (h0 : 0 < xs.length) (h : fstC xs[0] = false) : plainS xs = false := by
  match xs, h0, h with
  | x :: t, _, h =>
    have h' : fstC x = false := h
    simp [plainS, h']
theorem pl_bad {xs : List Int} {k : Nat} (hk : k < xs.length) (h : furC xs[k] = false) : plainS xs = false := by
  cases hp : plainS xs with
  | false => rfl
  | true =>
    have := (List.all_eq_true.1 (plainS_fur hp)) xs[k] (List.getElem_mem hk)
    rw [h] at this; cases this
theorem pl_step {xs : List Int} {k : Nat} (h : PlTo xs k) (hc : ∀ h : k < xs.length, (if k = 0 then fstC xs[k] else furC xs[k]) = true) : PlTo xs (k + 1) := fun j hj hjk => by
  by_cases e : j = k
  · subst e; exact hc hj
  · exact h j hj (by omega)
set_option maxHeartbeats 8000000 in
theorem rplain_any (l : List UInt8) (w : World) (hs : l.length ≤ 100000) : Calls Tryd.prog 21 #[.string (str l)] w fun e w' => RetB (plain l) w e w' := by
  have HV : Hid (Calls Tryd.prog 31 #[.string (str l)] w fun e w' => RetB (okB l) w e w') := Lib.hid (by
    have := rvalid_any (str l) w (by rw [str_size]; exact hs)
    rwa [str_list] at this)
  have HSC : Hid (∀ w, Calls Tryd.prog 36 #[.string (str l)] w fun e w' => ScalS w l e w') := Lib.hid fun w => by
    have := rscal_any (str l) w (by rw [str_size]; exact hs)
    rwa [str_list] at this
  have HF : Hid (∀ r w, Calls Tryd.prog 14 #[.int .i64 r] w fun e w' => e = .returned (.bool (fstC r)) ∧ w' = w) := Lib.hid fun r w => rfirst_any r w
  have HU : Hid (∀ r w, Calls Tryd.prog 16 #[.int .i64 r] w fun e w' => e = .returned (.bool (furC r)) ∧ w' = w) := Lib.hid fun r w => rfurther_any r w
  have hz := str_size l
  have HP : Hid (plain l = (okB l && plainS (scl l))) := Lib.hid rfl
  have HNE : Hid (l ≠ [] → scl l ≠ []) := Lib.hid fun h => by unfold scl; rw [prt_cons h]; simp
  have HLE : Hid ((scl l).length ≤ l.length) := Lib.hid (by
    have hg : ∀ (n : Nat) (l : List UInt8), l.length ≤ n → (prt l).length ≤ l.length := by
      intro n
      induction n with
      | zero => intro l h; rw [List.eq_nil_of_length_eq_zero (Nat.le_zero.1 h)]; exact Nat.le_refl _
      | succ n ih =>
        intro l h
        by_cases hne : l = []
        · subst hne; exact Nat.le_refl _
        · have hlt := drop_lt hne
          have := ih (l.drop (dec l).2) (by omega)
          rw [prt_cons hne, List.length_cons]
          omega
    unfold scl
    rw [List.length_map]
    exact hg _ l (Nat.le_refl _))
  have hem : l = [] ↔ (str l).size = 0 := by rw [hz]; exact List.length_eq_zero_iff.symm
  obtain ⟨s, hS⟩ : ∃ S, str l = S := ⟨_, rfl⟩
  rw [hS] at HV HSC hz hem ⊢
  have hs2 : s.size ≤ 100000 := by omega
  have HZ := Lib.hid hz
  have HEM := Lib.hid hem
  unfold ScalS at HSC
  clear hS hz hem hs
  by_cases he : s.size = 0
  · have he1 : s.toList.isEmpty = true := (emp_iff s).2 he
    have he2 : s.toList = [] := (nil_iff s).2 he
    have HR : Hid (plain l = false) := Lib.hid (by rw [HEM.out.2 he]; decide)
    clear he
    go_enter Tryd.func21, Tryd.ntmps21
    go_wp2_with fail
    go_ret
    exact ⟨by rw [HR.out]; rfl, Below.refl _ _⟩
  have he1 : s.toList.isEmpty = false := (nemp_iff s).2 he
  have he2 : ¬ s.toList = [] := fun h => he ((nil_iff s).1 h)
  have HNE2 : Hid (scl l ≠ []) := Lib.hid (HNE.out (fun h => he (HEM.out.1 h)))
  cases hv : okB l with
  | false =>
    rw [hv] at HV
    have HR : Hid (plain l = false) := Lib.hid (by rw [HP.out, hv]; rfl)
    clear he hv HSC
    go_enter Tryd.func21, Tryd.ntmps21
    go_wp2_with (go_at_call 31; refine HV.out.mono ?_; rintro _ w3 ⟨rfl, hb3⟩)
    go_ret
    exact ⟨by rw [HR.out]; rfl, hb3⟩
  | true =>
    rw [hv] at HV HSC
    have HR : Hid (plain l = plainS (scl l)) := Lib.hid (by rw [HP.out, hv]; rfl)
    simp only [if_true] at HSC
    have HLE2 : Hid ((scl l).length ≤ 100000) := Lib.hid (by have := HLE.out; have := HZ.out; omega)
    rw [HR.out]
    obtain ⟨xs, hxs⟩ : ∃ xs, scl l = xs := ⟨_, rfl⟩
    rw [hxs] at HSC HNE2 HLE2 ⊢
    clear hxs hv he HR HP HNE HLE
    obtain ⟨N, hN⟩ : ∃ N, xs.length = N := ⟨_, rfl⟩
    have HN := Lib.hid hN
    have hN7 : N ≤ 100000 := by rw [← hN]; exact HLE2.out
    go_enter Tryd.func21, Tryd.ntmps21
    go_wp2_with (first
      | (go_at_call 31; refine HV.out.mono ?_; rintro _ w3 ⟨rfl, hb3⟩; have HB3 := Lib.hid hb3; clear hb3 HV)
      | (go_at_call 36; refine (HSC.out _).mono ?_; rintro _ w4 ⟨v, rfl, ho4, hb4⟩; have HB4 := Lib.hid (below_call HB3.out hb4); have HI4 := Lib.hid (ints_of_own ho4); clear hb4 ho4 HSC))
    have hform : ∃ b off cap, v = .slice (some ⟨b, off, none⟩) N cap ∧ ∀ i (h : i < xs.length), w4.cell? ⟨b, off + i, none⟩ = some (.int .i64 xs[i]) := by
      rcases HI4.out with ⟨h, _⟩ | ⟨b, off, cap, e, _, hc⟩
      · exact absurd h HNE2.out
      · exact ⟨b, off, cap, by rw [e, hN], hc⟩
    obtain ⟨b, off, cap, rfl, hcell⟩ := hform
    have HCE := Lib.hid hcell
    clear hcell hN
    go_wp2_with fail
    go_loopg [5] (N + 1) (fun g q wr => ∃ (k : Nat), k + g = N + 1 ∧ w4 = wr ∧ q = .int .i64 k ∧ k ≤ N ∧ Hid (PlTo xs k))
    case atStart => exact ⟨0, by omega, rfl, rfl, by omega, Lib.hid (fun j _ h => absurd h (Nat.not_lt_zero _))⟩
    case round =>
      obtain ⟨k, hkg, rfl, rfl, hk7, HA⟩ := hrel
      by_cases hlt : k < N
      · have hll : k < xs.length := by rw [HN.out]; exact hlt
        have hk0 : (0 : Int) ≤ (k : Int) := by omega
        have hk3 : (k : Int) < (N : Int) := by omega
        have hcl := HCE.out k hll
        obtain ⟨r, hr⟩ : ∃ r, xs[k] = r := ⟨_, rfl⟩
        rw [hr] at hcl
        by_cases ha : k = 0
        · subst ha
          have hz0 : (((0 : Nat) : Int) == 0) = true := rfl
          rw [Nat.add_zero] at hcl
          cases hc : fstC r with
          | false =>
            have HFx := Lib.hid (HF.out r)
            rw [hc] at HFx
            have HR : Hid (plainS xs = false) := Lib.hid (pl_bad0 hll (by rw [hr]; exact hc))
            clear hr hc
            go_wp2_with (first
              | (go_at_call 14; refine (HFx.out _).mono ?_; rintro _ w9 ⟨rfl, hw9⟩; subst w9))
            go_ret
            exact ⟨by rw [HR.out]; rfl, HB4.out⟩
          | true =>
            have HFx := Lib.hid (HF.out r)
            rw [hc] at HFx
            have HUx := Lib.hid (HU.out r)
            rw [fst_fur hc] at HUx
            have HR : Hid (PlTo xs (0 + 1)) := Lib.hid (pl_step HA.out (fun h => by rw [if_pos rfl, hr]; exact hc))
            clear hr hc
            go_wp2_with (first
              | (go_at_call 14; refine (HFx.out _).mono ?_; rintro _ w9 ⟨rfl, hw9⟩; subst w9)
              | (go_at_call 16; refine (HUx.out _).mono ?_; rintro _ w9 ⟨rfl, hw9⟩; subst w9))
            go_roundg (gk - 1)
            case measure => omega
            case rel => exact ⟨0 + 1, by omega, rfl, by go_num, by omega, HR⟩
        · have hz0 : ((k : Int) == 0) = false := by simpa using ha
          cases hc : furC r with
          | false =>
            have HUx := Lib.hid (HU.out r)
            rw [hc] at HUx
            have HR : Hid (plainS xs = false) := Lib.hid (pl_bad hll (by rw [hr]; exact hc))
            clear hr hc ha
            go_wp2_with (first
              | (go_at_call 16; refine (HUx.out _).mono ?_; rintro _ w9 ⟨rfl, hw9⟩; subst w9))
            go_ret
            exact ⟨by rw [HR.out]; rfl, HB4.out⟩
          | true =>
            have HUx := Lib.hid (HU.out r)
            rw [hc] at HUx
            have HR : Hid (PlTo xs (k + 1)) := Lib.hid (pl_step HA.out (fun h => by rw [if_neg ha, hr]; exact hc))
            clear hr hc ha
            go_wp2_with (first
              | (go_at_call 16; refine (HUx.out _).mono ?_; rintro _ w9 ⟨rfl, hw9⟩; subst w9))
            go_roundg (gk - 1)
            case measure => omega
            case rel => exact ⟨k + 1, by omega, rfl, by go_num, by omega, HR⟩
      · have HR : Hid (plainS xs = true) := Lib.hid (pl_end HNE2.out (fun j hj _ => HA.out j hj (by have := HN.out; omega)))
        go_wp2_with fail
        go_ret
        exact ⟨by rw [HR.out]; rfl, HB4.out⟩
end Go.Proofs.YtehehmpepkgbeaaDoor.Chr
