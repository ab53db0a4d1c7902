/- The walk of the law LabelWritten. -/
import Derived.Test.YtfpncdhneikkaaaDoorS
import Derived.Lib.Bytealg
import Derived.Laws.Externs
import Derived.Laws.DeepStrings4
import Derived.Laws.BytesArg
import Derived.Laws.IdiomStrings
namespace Go.Proofs.YtfpncdhneikkaaaDoor
open Go.RowKit
set_option linter.unusedVariables false
set_option linter.unusedSimpArgs false
/-- v is a slice of bools that reads as us. -/
def Bits (w : World) (v : Value) (us : List Bool) : Prop :=
  (us = [] ∧ ∃ p cap, v = .slice p 0 cap) ∨ (∃ b off cap, v = .slice (some ⟨b, off, none⟩) us.length cap ∧ b < w.heap.size ∧ ∀ i (h : i < us.length), w.cell? ⟨b, off + i, none⟩ = some (.bool us[i]))
theorem Bits.below {w w' : World} {v : Value} {us : List Bool} (h : Bits w v us) (hb : Below w.heap.size w w') : Bits w' v us := by
  rcases h with h | ⟨b, off, cap, e, hl, hc⟩
  · exact .inl h
  · exact .inr ⟨b, off, cap, e, by have := hb.size; omega, fun i hi => (hb.cell (p := ⟨b, off + i, none⟩) hl).trans (hc i hi)⟩
theorem Bits.form {w : World} {v : Value} {us : List Bool} (h : Bits w v us) : ∃ p cap, v = .slice p us.length cap := by
  rcases h with ⟨rfl, p, cap, rfl⟩ | ⟨b, off, cap, rfl, _⟩
  · exact ⟨p, cap, rfl⟩
  · exact ⟨_, cap, rfl⟩
theorem Bits.at {w : World} {p : Option Addr} {N cap : Nat} {us : List Bool} (h : Bits w (.slice p N cap) us) {k : Nat} (hk : k < us.length) : ∃ b off, p = some ⟨b, off, none⟩ ∧ w.cell? ⟨b, off + k, none⟩ = some (.bool us[k]) := by
  rcases h with ⟨rfl, _⟩ | ⟨b, off, cap', e, _, hc⟩
  · simp at hk
  · cases e
    exact ⟨b, off, rfl, hc k hk⟩
/-- The first k letters have been looked at. -/
structure UpTo (x y : List UInt8) (k : Nat) : Prop where
  len : y.length = x.length
  lo : ∀ i (h : i < x.length), i < k → ∃ u, y[i]'(by omega) = up1 u x[i]
  hi : ∀ i (h : i < x.length), k ≤ i → y[i]'(by omega) = x[i]
theorem UpTo.start (x : List UInt8) : UpTo x x 0 := ⟨rfl, fun i h hk => by omega, fun i h hk => rfl⟩
theorem UpTo.same {x y : List UInt8} {k : Nat} (h : UpTo x y k) : UpTo x y (k + 1) :=
  ⟨h.len, fun i hi hk => by
    by_cases e : i < k
    · exact h.lo i hi e
    · exact ⟨false, by rw [h.hi i hi (by omega)]; simp [up1]⟩, fun i hi hk => h.hi i hi (by omega)⟩
theorem UpTo.put {x y : List UInt8} {k : Nat} (h : UpTo x y k) (hk : k < x.length) : UpTo x (y.set k (up1 true x[k])) (k + 1) :=
  ⟨by simp [h.len], fun i hi hk' => by
    by_cases e : k = i
    · subst e; exact ⟨true, by simp⟩
    · obtain ⟨u, hu⟩ := h.lo i hi (by omega)
      exact ⟨u, by rw [List.getElem_set_ne e]; exact hu⟩, fun i hi hk' => by rw [List.getElem_set_ne (by omega)]; exact h.hi i hi (by omega)⟩
theorem up_sub (c : UInt8) : 97 ≤ (c.toNat : Int) → (c.toNat : Int) ≤ 122 → IntKind.u8.wrap ((c.toNat : Int) - 32) = ((up1 true c).toNat : Int) := by
  have : ∀ c : Fin 256, 97 ≤ (c.val : Int) → (c.val : Int) ≤ 122 → IntKind.u8.wrap ((c.val : Int) - 32) = ((up1 true (UInt8.ofNat c)).toNat : Int) := by decide +kernel
  have k := this ⟨c.toNat, c.toNat_lt⟩
  simpa using k
theorem GlN.ofBelow {w w' : World} (hg : Gl w) (hb : Below w.heap.size w w') : Gl w' := hg.below' hb
theorem clip (x : Int) : ∃ (m : Int) (n : Nat), (if 9 < x then 9 else x) = m ∧ (if 0 < m then m else 0) = (n : Int) ∧ n ≤ 9 := by
  refine ⟨_, (if 0 < (if 9 < x then 9 else x) then (if 9 < x then 9 else x) else 0).toNat, rfl, ?_, ?_⟩
  · split <;> split <;> omega
  · split <;> split <;> omega
def wc (i : Nat) : UInt8 := (⟨#[9, 10, 12, 13, 32]⟩ : ByteArray)[i % 5]'(by show i % 5 < 5; omega)
theorem wc_isW (i : Nat) : isW (wc i) = true := by
  have key : ∀ k : Fin 5, isW ((⟨#[9, 10, 12, 13, 32]⟩ : ByteArray)[k.val]'(by show k.val < 5; exact k.isLt)) = true := by decide
  exact key ⟨i % 5, by omega⟩
theorem strs_keep {w w' : World} {b o N cap B : Nat} {xs : List (List UInt8)} (h : Strs w (.slice (some ⟨b, o, none⟩) N cap) xs) (hb : b < B) (hbb : Below B w w') : Strs w' (.slice (some ⟨b, o, none⟩) N cap) xs := by
  rcases h with h | ⟨b', o', cap', e, hl, hc⟩
  · exact .inl h
  · injection e with e1 e2 e3
    injection e1 with e1
    injection e1 with e1 e4
    subst e1 e4 e2 e3
    exact .inr ⟨b, o, cap, rfl, by have := hbb.size; omega, fun j hj => (hbb.cell (p := ⟨b, o + j, none⟩) hb).trans (hc j hj)⟩
theorem clip_lt {m : Int} {n i : Nat} (h : (if 0 < m then m else 0) = (n : Int)) (hi : i < n) : (i : Int) < m := by
  split at h <;> omega
theorem clip_ge {m : Int} {n i : Nat} (h : (if 0 < m then m else 0) = (n : Int)) (hi : ¬ i < n) : ¬ (i : Int) < m := by
  split at h <;> omega
set_option maxRecDepth 100000 in
set_option maxHeartbeats 8000000 in
theorem written_walk (e which ahead behind : Int) (up : Value) (us : List Bool) (w : World) (hg : Gl w) (hu : Bits w up us) (hw0 : (Lit.int .i64 which).wf = true) (hul : us.length ≤ maxLen) :
    Calls Tryd.prog 4 #[.int .i8 e, .int .i64 which, up, .int .i64 ahead, .int .i64 behind] w fun r w' => RetB true w r w' := by
  have HG := Lib.hid hg
  have HGB : Hid (∀ w', Below w.heap.size w w' → Gl w') := Lib.hid fun w' h => hg.below' h
  have H7 : Hid (∀ w', Below w.heap.size w w' → Calls Tryd.prog 7 #[] w' fun t w2 => t = .returned (.bool true) ∧ Below w.heap.size w w2 ∧ Below w'.heap.size w' w2) := Lib.hid fun w' h => (wakes_any w' (hg.below' h)).mono fun t w2 ⟨h1, h2⟩ => ⟨h1, below_call h h2, h2⟩
  have C3 : Hid (∀ w', Below w.heap.size w w' → Calls Tryd.prog 10 #[.int .i8 e] w' fun t w2 => t = .returned (.string (str (nameL e))) ∧ Below w.heap.size w w2 ∧ Below w'.heap.size w' w2) := Lib.hid fun w' h => (name_any e w' (hg.below' h)).mono fun t w2 ⟨h1, h2⟩ => ⟨h1, below_call h h2, h2⟩
  have C5 : Hid (∀ w, Gl w → Calls Tryd.prog 13 #[.int .i8 e] w fun r w' => AllS w e r w') := Lib.hid fun w hg => all_any e w hg
  have hle := allL_len e
  have HNH := Lib.hid (nameL_head e)
  have HWR : Hid (∀ {x y a b : List UInt8}, x ∈ allL e → y.length = x.length → (∀ i (h : i < x.length), ∃ u, y[i]? = some (up1 u x[i])) → (∀ c ∈ a, isW c = true) → (∀ c ∈ b, isW c = true) → ofL (a ++ y ++ b) = (e, true)) := Lib.hid fun hx hl hy ha hb => written hx hl (fun i h => by
    obtain ⟨u, hu⟩ := hy i h
    obtain ⟨_, h2⟩ := List.getElem?_eq_some_iff.1 hu
    exact ⟨u, h2⟩) ha hb
  have HON : Hid (allL e ≠ [] → ofL (nameL e) = (e, true)) := Lib.hid of_name
  have HOUT : Hid (allL e = [] → (e < 0 ∨ 6 ≤ e) ∧ nameL e = []) := Lib.hid fun h => by
    have h1 : ¬ (0 ≤ e ∧ e < 6) := fun ⟨h0, h6⟩ => by
      obtain ⟨n, rfl⟩ := Int.eq_ofNat_of_zero_le h0
      have hn : n < 6 := by omega
      rw [allL_in hn] at h
      rcases (by omega : n = 0 ∨ n = 1 ∨ n = 2 ∨ n = 3 ∨ n = 4 ∨ n = 5) with rfl | rfl | rfl | rfl | rfl | rfl <;> exact absurd h (by decide)
    exact ⟨by omega, nameL_out h1⟩
  have HLEN : Hid (∀ x ∈ allL e, 0 < x.length ∧ x.length ≤ 20) := Lib.hid fun x hx => by
    have h1 := (plain_lab _ (allL_mem hx)).1
    have h2 := len_lab _ (allL_mem hx)
    exact ⟨List.length_pos_iff.2 h1, h2⟩
  have NMS0 : (nameL e).length ≤ maxLen := by
    by_cases h : allL e = []
    · rw [nameL_head, h]; simp
    · have := len_lab _ (allL_mem (name_mem h)); unfold maxLen; simp only at this; omega
  obtain ⟨xs, hxs⟩ : ∃ xs, allL e = xs := ⟨_, rfl⟩
  unfold AllS at C5
  rw [hxs] at C5 hle HNH HWR HON HOUT HLEN
  obtain ⟨up0, ucap, rfl⟩ := hu.form
  have HU := Lib.hid hu
  have HUB : Hid (∀ w', Below w.heap.size w w' → Bits w' (.slice up0 us.length ucap) us) := Lib.hid fun w' h => hu.below h
  clear hg hu hxs
  obtain ⟨N, hN⟩ : ∃ N, xs.length = N := ⟨_, rfl⟩
  have HN := Lib.hid hN
  rw [hN] at hle
  clear hN
  by_cases hN0 : N = 0
  · subst hN0
    have hxe : xs = [] := List.eq_nil_of_length_eq_zero HN.out
    obtain ⟨ho1, ho2⟩ := HOUT.out hxe
    have C4 : Hid (∀ w', Below w.heap.size w w' → Calls Tryd.prog 10 #[.int .i8 e] w' fun t w2 => t = .returned (.string ⟨#[]⟩) ∧ Below w.heap.size w w2) := Lib.hid fun w' h => (C3.out w' h).mono fun t w2 ⟨h1, h2, _⟩ => ⟨by rw [h1, ho2]; rfl, h2⟩
    clear C3 HOUT HON HWR HNH HLEN HU HUB hxe ho2
    by_cases he : e < 0
    · have d1 : decide (e < 0) = true := by simpa using he
      clear ho1 he
      go_enter Tryd.func4, Tryd.ntmps4
      go_wp2_with (first
        | (go_at_call 13; refine (C5.out _ HG.out).mono ?_; rintro _ w1 ⟨v, rfl, hs1, hb1⟩; have HB1 := Lib.hid hb1; obtain ⟨p, cap, rfl⟩ := hs1.form; rw [HN.out]; clear hs1 hb1 C5)
        | (go_at_call 10; refine (C4.out _ HB1.out).mono ?_; rintro _ w2 ⟨rfl, hb2⟩; have HB2 := Lib.hid hb2; clear hb2 C4)
        | (go_at_call 7; refine (H7.out _ HB2.out).mono ?_; rintro _ w3 ⟨rfl, hb3, _⟩; have HB3 := Lib.hid hb3; clear hb3 H7))
      go_ret
      exact ⟨rfl, HB3.out⟩
    · have d1 : decide (e < 0) = false := by simpa using he
      have d2 : decide (6 ≤ e) = true := by simp; omega
      clear ho1 he
      go_enter Tryd.func4, Tryd.ntmps4
      go_wp2_with (first
        | (go_at_call 13; refine (C5.out _ HG.out).mono ?_; rintro _ w1 ⟨v, rfl, hs1, hb1⟩; have HB1 := Lib.hid hb1; obtain ⟨p, cap, rfl⟩ := hs1.form; rw [HN.out]; clear hs1 hb1 C5)
        | (go_at_call 10; refine (C4.out _ HB1.out).mono ?_; rintro _ w2 ⟨rfl, hb2⟩; have HB2 := Lib.hid hb2; clear hb2 C4)
        | (go_at_call 7; refine (H7.out _ HB2.out).mono ?_; rintro _ w3 ⟨rfl, hb3, _⟩; have HB3 := Lib.hid hb3; clear hb3 H7))
      go_ret
      exact ⟨rfl, HB3.out⟩
  have hNp : 0 < N := by omega
  have hNe : ((N : Int) == 0) = false := by simp; omega
  have hNi : ((N : Int) != 0) = true := by simp; omega
  clear hN0 HOUT
  obtain ⟨k, hk, hkN⟩ : ∃ k : Nat, (wrap64 (which.tmod (N : Int) + (N : Int))).tmod (N : Int) = (k : Int) ∧ k < N := by
    have h1 := Int.tmod_lt_of_pos which (show (0 : Int) < N by omega)
    have h2 := Int.lt_tmod_of_pos which (show (0 : Int) < N by omega)
    have h3 : wrap64 (which.tmod (N : Int) + (N : Int)) = which.tmod (N : Int) + (N : Int) := by
      have := IntKind.wrap_i64 (which.tmod (N : Int) + (N : Int))
      unfold wrap64; omega
    rw [h3]
    have h4 := Int.tmod_nonneg (N : Int) (show 0 ≤ which.tmod (N : Int) + (N : Int) by omega)
    have h5 := Int.tmod_lt_of_pos (which.tmod (N : Int) + (N : Int)) (show (0 : Int) < N by omega)
    exact ⟨_, (Int.toNat_of_nonneg h4).symm, by omega⟩
  have hk0 : (0 : Int) ≤ (k : Int) := by omega
  have hk3 : (k : Int) < (N : Int) := by omega
  have HMA := Lib.hid (clip ahead)
  have NMS : Hid ((nameL e).length ≤ maxLen) := Lib.hid NMS0
  have HMB := Lib.hid (clip behind)
  go_enter Tryd.func4, Tryd.ntmps4
  go_wp2_with (go_at_call 13; refine (C5.out _ HG.out).mono ?_; rintro _ w1 ⟨v, rfl, hs1, hb1⟩; have HB1 := Lib.hid hb1; obtain ⟨p, cap, rfl⟩ := hs1.form; have HS1 : Hid (Strs w1 (.slice p N cap) xs) := Lib.hid (by rw [← HN.out]; exact hs1); rw [HN.out]; obtain ⟨b1, o1, rfl, hc1⟩ := HS1.out.at (k := k) (by rw [HN.out]; exact hkN); obtain ⟨x, hx⟩ : ∃ x, xs[k]'(by rw [HN.out]; exact hkN) = x := ⟨_, rfl⟩; rw [hx] at hc1; have HX : Hid (x ∈ xs) := Lib.hid (by rw [← hx]; exact List.getElem_mem _); have hxl := HLEN.out x HX.out; obtain ⟨bcap, W1, hcv, hbw, hbb⟩ := bw_new w1 x; obtain ⟨n, hn⟩ : ∃ n, x.length = n := ⟨_, rfl⟩; rw [hn] at hcv hxl; have HXL := Lib.hid hn; have HBW := Lib.hid hbw; have HB2 := Lib.hid (below_call hb1 hbb); have HSX := Lib.hid (HS1.out.below hbb); have hwz := hb1.size; have hb1B : b1 < w1.heap.size := World.block_lt_of_cell? w1 ⟨b1, o1 + k, none⟩ hc1; clear hs1 hb1 C5 hx hn hbw hbb)
  clear hcv hc1 hk hNe hNi
  obtain ⟨U, hU⟩ : ∃ U, us.length = U := ⟨_, rfl⟩
  have HUL := Lib.hid hU
  rw [hU] at hul
  rw [hU] at HU HUB
  simp only [hU]
  clear hU
  obtain ⟨B0, hB0⟩ : ∃ B0, w1.heap.size = B0 := ⟨_, rfl⟩
  rw [hB0] at HBW hwz hb1B
  simp only [hB0]
  clear hB0
  go_loopg [57] (n + 1) (fun g q wr => ∃ (j : Nat) (y : List UInt8), j + g = n + 1 ∧ q = .int .i64 j ∧ j ≤ n ∧ Hid (UpTo x y j) ∧ Hid (BW wr B0 bcap y) ∧ Hid (Below w.heap.size w wr) ∧ Hid (Strs wr (.slice (some ⟨b1, o1, none⟩) N cap) xs))
  case atStart => exact ⟨0, x, by omega, rfl, by omega, Lib.hid (UpTo.start x), HBW, HB2, HSX⟩
  case round =>
    obtain ⟨j, y, hjg, rfl, hjn, HUP, HBY, HB, HSW⟩ := hrel

    by_cases hj : j < n
    · have hjx : j < x.length := by rw [HXL.out]; exact hj
      have hjy : j < y.length := by rw [HUP.out.len]; exact hjx
      have hcb := HBY.out.cell hjy
      have hfz := (HBY.out.there (i := j) (by have := HBY.out.le; omega)).2
      obtain ⟨c, hc⟩ : ∃ c, x[j] = c := ⟨_, rfl⟩
      rw [HUP.out.hi j hjx (Nat.le_refl _), hc] at hcb
      have hbd := c.toNat_lt
      have HUP2 := Lib.hid (HUP.out.same)
      by_cases h1 : j < U
      · have d0 : decide ((j : Int) < (U : Int)) = true := by simp; omega
        have d0n : decide (j < U) = true := by simp; omega
        have hj0 : (0 : Int) ≤ (j : Int) := by omega
        have hjU : (j : Int) < (U : Int) := by omega
        have hjb : (j : Int) < (n : Int) := by omega
        obtain ⟨ub, uo, hup, hcu⟩ := (HUB.out _ HB.out).at (k := j) (by rw [HUL.out]; exact h1)
        subst hup
        obtain ⟨u, hu⟩ : ∃ u, us[j]'(by rw [HUL.out]; exact h1) = u := ⟨_, rfl⟩
        rw [hu] at hcu
        clear hu
        cases u
        · clear hc hjx hjy h1
          go_wp2_with fail
          go_roundg (gk - 1)
          case measure => omega
          case rel => exact ⟨j + 1, y, by omega, by go_num, by omega, HUP2, HBY, HB, HSW⟩
        · by_cases h2 : 97 ≤ (c.toNat : Int)
          · have d2 : decide (97 ≤ (c.toNat : Int)) = true := by simpa using h2
            have d2n : decide (97 ≤ c.toNat) = true := by simp; omega
            by_cases h3 : (c.toNat : Int) ≤ 122
            · have d3 : decide ((c.toNat : Int) ≤ 122) = true := by simpa using h3
              have d3n : decide (c.toNat ≤ 122) = true := by simp; omega
              have hsub := up_sub c h2 h3
              have HUP3 : Hid (UpTo x (y.set j (up1 true c)) (j + 1)) := Lib.hid (by rw [← hc]; exact HUP.out.put hjx)
              have HBY3 : Hid (BW (wr.setCell ⟨B0, j, none⟩ (.int .u8 ((up1 true c).toNat : Int))) B0 bcap (y.set j (up1 true c))) := Lib.hid (HBY.out.set hjy _)
              clear hc hjx hjy h1 h2 h3
              go_wp2_with fail
              go_roundg (gk - 1)
              case measure => omega
              case rel => exact ⟨j + 1, _, by omega, by go_num, by omega, HUP3, HBY3, Lib.hid (HB.out.setCell (p := ⟨B0, j, none⟩) hwz _), Lib.hid (strs_keep HSW.out hb1B ((Below.refl B0 wr).setCell (p := ⟨B0, j, none⟩) (Nat.le_refl _) _))⟩
            · have d3 : decide ((c.toNat : Int) ≤ 122) = false := by simpa using h3
              have d3n : decide (c.toNat ≤ 122) = false := by simp; omega
              clear hc hjx hjy h1 h2 h3
              go_wp2_with fail
              go_roundg (gk - 1)
              case measure => omega
              case rel => exact ⟨j + 1, y, by omega, by go_num, by omega, HUP2, HBY, HB, HSW⟩
          · have d2 : decide (97 ≤ (c.toNat : Int)) = false := by simpa using h2
            have d2n : decide (97 ≤ c.toNat) = false := by simp; omega
            clear hc hjx hjy h1 h2
            go_wp2_with fail
            go_roundg (gk - 1)
            case measure => omega
            case rel => exact ⟨j + 1, y, by omega, by go_num, by omega, HUP2, HBY, HB, HSW⟩
      · have d0 : decide ((j : Int) < (U : Int)) = false := by simp; omega
        have d0n : decide (j < U) = false := by simp; omega
        clear hc hjx hjy h1
        go_wp2_with fail
        go_roundg (gk - 1)
        case measure => omega
        case rel => exact ⟨j + 1, y, by omega, by go_num, by omega, HUP2, HBY, HB, HSW⟩
    · obtain rfl : j = n := by omega
      have HYL : Hid (y.length = j) := Lib.hid (HUP.out.len.trans HXL.out)
      have HFIN : Hid (∀ a b : List UInt8, (∀ c ∈ a, isW c = true) → (∀ c ∈ b, isW c = true) → ofL (a ++ y ++ b) = (e, true)) := Lib.hid fun a b ha hb => HWR.out HX.out HUP.out.len (fun i h => by
        obtain ⟨u, hu⟩ := HUP.out.lo i h (by rw [← HXL.out]; exact h)
        exact ⟨u, by rw [← hu]; exact List.getElem?_eq_getElem _⟩) ha hb
      have hON := HON.out (fun h => by have := HN.out; rw [h] at this; simp at this; omega)
      have HOF : Hid (ofL (nameL e) = (e, true)) := Lib.hid hON
      clear HWR HUP HX HXL HLEN HU HUB HUL HON hON HBW HB2
      go_wp2_with fail
      obtain ⟨ma, na, hma, hna, hna9⟩ := HMA.out
      obtain ⟨mb, nb, hmb, hnb, hnb9⟩ := HMB.out
      clear HMA HMB
      have HMB1 := Lib.hid hmb
      have HMB2 := Lib.hid hnb
      clear hmb hnb
      have HZ : Hid (([] ++ y).length = j) := Lib.hid (by rw [List.nil_append]; exact HYL.out)
      go_loopg [12, 15] 10 (fun g q12 q15 wr => ∃ (i B cp m : Nat) (a : List UInt8), i + g = 10 ∧ i ≤ 9 ∧ q12 = .slice (some ⟨B, 0, none⟩) m cp ∧ q15 = .int .i64 i ∧ Hid ((a ++ y).length = m) ∧ 0 < m ∧ m ≤ 20 + i ∧ Hid (∀ c ∈ a, isW c = true) ∧ B0 ≤ B ∧ Hid (BW wr B cp (a ++ y)) ∧ Hid (Below w.heap.size w wr) ∧ Hid (Strs wr (.slice (some ⟨b1, o1, none⟩) N cap) xs))
      case atStart => exact ⟨0, B0, bcap, j, [], by omega, by omega, rfl, rfl, HZ, hxl.1, hxl.2, Lib.hid (by simp), Nat.le_refl _, HBY, HB, HSW⟩
      case round =>
        obtain ⟨i, B, cp, m, a, hig, hi9, rfl, rfl, HAL, hm0, hm29, HAW, hwB, HBA, HB, HSW⟩ := hrel
        have hlt2 := HBA.out.lt
        by_cases hi : i < na
        · have hi2 : (i : Int) < (na : Int) := by omega
          have hi3 := clip_lt hna hi
          have hmo : (0 : Int) ≤ (i : Int) % 5 := by omega
          have hm5 : (i : Int) % 5 < 5 := by omega
          have HAW2 : Hid (∀ c ∈ wc i :: a, isW c = true) := Lib.hid fun c hc => by
            rcases List.mem_cons.1 hc with rfl | hc
            · exact wc_isW i
            · exact HAW.out c hc
          have HAL2 : Hid ((wc i :: a ++ y).length = m + 1) := Lib.hid (by rw [List.cons_append, List.length_cons, HAL.out])
          go_wp2_with (at_builtin; refine wpList_prepend_bw rfl _ _ rfl B0 B cp m (a ++ y) HAL.out rfl (by simp; omega) (HBA.out.alloc _) hm0 (by omega) wr.heap.size (wc i) rfl (by rw [World.cell?_alloc_mark]; rfl) ?_; intro B' cp' w4 hB4 hbw4 hbl4; have HBW4 := Lib.hid hbw4; have HBL4 := Lib.hid ((((Below.refl B0 wr).alloc (by omega) _)).trans hbl4); clear hbw4 hbl4)
          go_roundg (gk - 1)
          case measure => omega
          case rel => exact ⟨i + 1, B', cp', m + 1, wc i :: a, by omega, by omega, rfl, by go_num, HAL2, by omega, by omega, HAW2, hB4, HBW4, Lib.hid (HB.out.trans (HBL4.out.mono hwz)), Lib.hid (strs_keep HSW.out hb1B HBL4.out)⟩
        · have hi3 := clip_ge hna hi
          have HAL3 : Hid ((a ++ y ++ []).length = m) := Lib.hid (by rw [List.append_nil]; exact HAL.out)
          have HBA3 : Hid (BW wr B cp (a ++ y ++ [])) := Lib.hid (by rw [List.append_nil]; exact HBA.out)
          have hmi : m ≤ 29 := by omega
          go_wp2_with fail
          clear hna hma hi3 hi hi9 hig hm29 hna9 HAL HBA HZ
          have hmb := HMB1.out
          have hnb := HMB2.out
          go_loopg [12, 16] 10 (fun g q12 q16 wr => ∃ (i B cp m : Nat) (b : List UInt8), i + g = 10 ∧ i ≤ 9 ∧ q12 = .slice (some ⟨B, 0, none⟩) m cp ∧ q16 = .int .i64 i ∧ Hid ((a ++ y ++ b).length = m) ∧ m ≤ 29 + i ∧ Hid (∀ c ∈ b, isW c = true) ∧ B0 ≤ B ∧ Hid (BW wr B cp (a ++ y ++ b)) ∧ Hid (Below w.heap.size w wr) ∧ Hid (Strs wr (.slice (some ⟨b1, o1, none⟩) N cap) xs))
          case atStart => exact ⟨0, B, cp, m, [], by omega, by omega, rfl, rfl, HAL3, hmi, Lib.hid (by simp), hwB, HBA3, HB, HSW⟩
          case round =>
            obtain ⟨i, B, cp, m, b, hig, hi9, rfl, rfl, HAL, hm29, HBW, hwB, HBA, HB, HSW⟩ := hrel
            have hlt2 := HBA.out.lt
            by_cases hi : i < nb
            · have hi3 := clip_lt hnb hi
              have hmo : (0 : Int) ≤ ((i : Int) + 2) % 5 := by omega
              have hm5 : ((i : Int) + 2) % 5 < 5 := by omega
              have hw2 : IntKind.i64.wrap ((i : Int) + 2) = (i : Int) + 2 := by rw [IntKind.wrap_i64]; omega
              have HAW2 : Hid (∀ c ∈ b ++ [wc (i + 2)], isW c = true) := Lib.hid fun c hc => by
                rcases List.mem_append.1 hc with hc | hc
                · exact HBW.out c hc
                · simp at hc; subst hc; exact wc_isW _
              have HAL2 : Hid ((a ++ y ++ (b ++ [wc (i + 2)])).length = m + 1) := Lib.hid (by rw [← List.append_assoc, List.length_append, HAL.out]; rfl)
              go_wp2_with (at_builtin; refine wpList_append_bw rfl _ _ rfl B0 B cp m (a ++ y ++ b) HAL.out rfl hwB (by simp; omega) (HBA.out.alloc _) (by omega) ⟨wr.heap.size, 0, none⟩ 1 (wc (i + 2)) rfl (by show World.cell? _ ⟨wr.heap.size, 0, none⟩ = _; rw [World.cell?_alloc_mark]; rfl) ?_; intro B' cp' w4 hB4 hbw4 hbl4; have HBW4 : Hid (BW w4 B' cp' (a ++ y ++ (b ++ [wc (i + 2)]))) := Lib.hid (by rw [← List.append_assoc]; exact hbw4); have HBL4 := Lib.hid ((((Below.refl B0 wr).alloc (by omega) _)).trans hbl4); clear hbw4 hbl4)
              go_roundg (gk - 1)
              case measure => omega
              case rel => exact ⟨i + 1, B', cp', m + 1, _, by omega, by omega, rfl, by go_num, HAL2, by omega, HAW2, hB4, HBW4, Lib.hid (HB.out.trans (HBL4.out.mono hwz)), Lib.hid (strs_keep HSW.out hb1B HBL4.out)⟩
            · have hi3 := clip_ge hnb hi
              have hconv := HBA.out.conv
              rw [HAL.out] at hconv
              have HOFZ := Lib.hid (HFIN.out a b HAW.out HBW.out)
              obtain ⟨z, hz⟩ : ∃ z, str (a ++ y ++ b) = z := ⟨_, rfl⟩
              have C8 : Hid (∀ w', Below w.heap.size w w' → Calls Tryd.prog 8 #[.string z] w' fun t w2 => t = .returned (.tuple #[.int .i8 e, .bool true]) ∧ Below w.heap.size w w2 ∧ Below w'.heap.size w' w2) := Lib.hid fun w' h => by
                have h1 := of_any z w' (HGB.out w' h) (by rw [← hz, str_size, HAL.out]; unfold maxLen; omega)
                unfold OfS at h1
                rw [← hz, str_list, HOFZ.out] at h1
                rw [← hz]
                exact h1.mono fun t w2 ⟨h1, h2⟩ => ⟨h1, below_call h h2, h2⟩
              obtain ⟨nm, hnm⟩ : ∃ nm, str (nameL e) = nm := ⟨_, rfl⟩
              have C9 : Hid (∀ w', Below w.heap.size w w' → Calls Tryd.prog 8 #[.string nm] w' fun t w2 => t = .returned (.tuple #[.int .i8 e, .bool true]) ∧ Below w.heap.size w w2 ∧ Below w'.heap.size w' w2) := Lib.hid fun w' h => by
                have h1 := of_any nm w' (HGB.out w' h) (by rw [← hnm, str_size]; exact NMS.out)
                unfold OfS at h1
                rw [← hnm, str_list, HOF.out] at h1
                rw [← hnm]
                exact h1.mono fun t w2 ⟨h1, h2⟩ => ⟨h1, below_call h h2, h2⟩
              have hc0 : ∀ w', Strs w' (.slice (some ⟨b1, o1, none⟩) N cap) xs → w'.cell? ⟨b1, o1, none⟩ = some (.string nm) := fun w' h => by
                obtain ⟨b', o', e1, e2⟩ := h.at (k := 0) (by rw [HN.out]; exact hNp)
                cases e1
                rw [Nat.add_zero] at e2
                rw [e2, ← hnm, HNH.out]
                have hx0 : xs ≠ [] := fun h => by have := HN.out; rw [h] at this; simp at this; omega
                cases xs with
                | nil => exact absurd rfl hx0
                | cons x0 xt => rfl
              have HC0 := Lib.hid hc0
              rw [hz] at hconv
              rw [hnm] at C3
              clear hz hnm hc0 hi hi9 hig
              go_wp2_with (first
                | (go_at_call 8; refine (C8.out _ HB.out).mono ?_; rintro _ w5 ⟨rfl, hb5, hc5⟩; have HB5 := Lib.hid hb5; have HS5 := Lib.hid (HSW.out.below hc5); clear hb5 hc5 C8)
                | (go_at_call 10; refine (C3.out _ HB5.out).mono ?_; rintro _ w6 ⟨rfl, hb6, hc6⟩; have HB6 := Lib.hid hb6; have HS6 := Lib.hid (HS5.out.below hc6); clear hb6 hc6)
                | (go_at_call 8; refine (C9.out _ HB6.out).mono ?_; rintro _ w7 ⟨rfl, hb7, hc7⟩; have HB7 := Lib.hid hb7; have HS7 := Lib.hid (HS6.out.below hc7); clear hb7 hc7 C9))
              have hcq : w7.cell? ⟨b1, o1, none⟩ = some (.string nm) := HC0.out _ HS7.out
              go_region_held3 (fun wx => wx.cell? ⟨b1, o1, none⟩ = some (.string nm))
                (first
                  | exact hcq
                  | exact HC0.out _ (HS7.out.below hc8)
                  | exact HC0.out _ (HS7.out.below (((Below.refl _ w7).drew).trans hc8))
                  | exact HC0.out _ ((HS7.out.below (((Below.refl _ w7).drew).trans hc8)).below hc9)
                  | exact HC0.out _ ((HS7.out.below (((Below.refl _ w7).drew).trans hc8)).below (((Below.refl _ w8).drew).trans hc9)))
                (first
                  | (go_at_call 10; refine (C3.out _ (by first | exact HB7.out | exact HB7.out.drew | exact below_draws HB7.out _)).mono ?_; rintro _ w8 ⟨rfl, hb8, hc8⟩)
                  | (go_at_call 7; refine (H7.out _ (by first | exact hb8 | exact hb8.drew)).mono ?_; rintro _ w9 ⟨rfl, hb9, hc9⟩))
              all_goals
                have HB9 := Lib.hid hb9
                clear hb9 hc9 hc8 hb8
                go_wp2_with fail
                go_ret
                exact ⟨rfl, HB9.out⟩
end Go.Proofs.YtfpncdhneikkaaaDoor
