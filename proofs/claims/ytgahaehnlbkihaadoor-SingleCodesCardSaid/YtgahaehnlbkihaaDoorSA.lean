/- The contracts of utf8.Text, the comparison of lists, the document's own Loose. -/
import Derived.Test.YtgahaehnlbkihaaDoorS
import Derived.Lib.AppendStr
import Derived.Laws.DeepStrings4
namespace Go.Proofs.YtgahaehnlbkihaaDoor
open Go.RowKit
set_option linter.unusedVariables false
set_option linter.unusedSimpArgs false
set_option maxHeartbeats 800000 in
theorem text_any (v : Value) (xs : List Int) (w : World) (hg : Gl w) (hI : Ints w v xs) (hlen : xs.length ≤ 10000) : Calls Tryd.prog 14 #[v] w fun e w' => TextS w xs e w' := by
  have hw2 := hg.size
  rcases hI with ⟨rfl, p, cap, rfl⟩ | ⟨b, off, cap, rfl, hbl, hc⟩
  · have hconv := conv_own (own_nil w w.heap.size)
    have HE : Hid (TextS w [] (.returned (.tuple #[.string (str []), .bool true])) w) := Lib.hid (text_good (xs := []) rfl (Below.refl _ _))
    go_enter Tryd.func14, Tryd.ntmps14
    go_wp2_with fail
    refine wp_loop_rounds 1 ?_; rw [rounds_succ]
    go_wp2_with fail
    go_ret2
    exact HE.out
  · have HC := Lib.hid hc
    clear hc
    obtain ⟨N, HN⟩ : ∃ N, Hid (xs.length = N) := ⟨_, Lib.hid rfl⟩
    have hN : N ≤ 10000 := by rw [← HN.out]; exact hlen
    rw [HN.out]
    have HG := Lib.hid hg
    clear hlen hg
    go_enter Tryd.func14, Tryd.ntmps14
    go_wp2_with fail
    go_loopg [4, 9] (N + 1) (fun g q4 q9 wr => ∃ (u : Value) (k : Nat), u = q4 ∧ k + g = N + 1 ∧ q9 = .int .i64 k ∧ Hid (TAt xs k) ∧ Hid (Own8 wr w.heap.size q4 (encs (xs.take k))) ∧ Hid (Below w.heap.size w wr))
    case atStart => exact ⟨_, 0, rfl, by omega, rfl, Lib.hid ⟨Nat.zero_le _, rfl⟩, Lib.hid (own_nil _ _), Lib.hid (Below.refl _ _)⟩
    case round =>
      obtain ⟨u, k, rfl, hkg, rfl, HA, HO, HB⟩ := hrel
      have hwz := HB.out.size
      have hkN : k ≤ N := by have := HA.out.le; rw [HN.out] at this; exact this
      have HGr : Hid (Gl wr) := Lib.hid (HG.out.below' HB.out)
      by_cases hk : k < N
      · have hk' : k < xs.length := by rw [HN.out]; exact hk
        obtain ⟨r, hr⟩ : ∃ r, xs[k] = r := ⟨_, rfl⟩
        have hcell : wr.cell? ⟨b, off + k, none⟩ = some (.int .i64 r) := by
          have := (HB.out.cell (p := ⟨b, off + k, none⟩) hbl).trans (HC.out k hk')
          rw [hr] at this; exact this
        cases hb : isB r
        · have HE := Lib.hid (text_bad (TAt.bad hk' (by rw [hr]; exact hb)) HB.out)
          have HP := Lib.hid (is_no r wr HGr.out hb)
          clear hb hr hk'
          go_wp2_with (go_at_call 23; refine HP.out.mono ?_; rintro e w1 ⟨rfl, rfl⟩)
          go_ret2
          exact HE.out
        · obtain ⟨h1, h2⟩ := HA.out.next hk' (by rw [hr]; exact hb)
          have HA1 := Lib.hid h1
          have HX : Hid (encs (xs.take (k + 1)) = encs (xs.take k) ++ enc r) := Lib.hid (by rw [h2, hr])
          have HP := Lib.hid (is_yes r wr HGr.out hb)
          have hf := HA.out.few
          have HAd := Lib.hid (add_any u w.heap.size (encs (xs.take k)) r wr HGr.out hw2 hwz HO.out (by omega) hb)
          clear hb hr hk' h1 h2
          go_wp2_with (first
            | (go_at_call 23; refine HP.out.mono ?_; rintro e w1 ⟨rfl, rfl⟩)
            | (go_at_call 24; refine HAd.out.mono ?_; rintro e w2 ⟨v2, rfl, hown2, hgrow2⟩; have HOx := Lib.hid hown2; have HGx := Lib.hid hgrow2; clear hown2 hgrow2))
          have HO2 : Hid (Own8 w2 w.heap.size v2 (encs (xs.take (k + 1)))) := Lib.hid (by rw [HX.out]; exact HOx.out)
          have HB2 : Hid (Below w.heap.size w w2) := Lib.hid (HB.out.grown HGx.out (by omega) (fun j e => (World.ownsRow.lt HO.out j e).1))
          go_roundg (gk - 1)
          case measure => omega
          case rel => exact ⟨_, k + 1, rfl, by omega, by go_num, HA1, HO2, HB2⟩
      · obtain ⟨h1, h2⟩ := HA.out.done (by rw [HN.out]; exact hk)
        have hO : Own8 wr w.heap.size u (encs xs) := by have := HO.out; rwa [h2] at this
        have hconv := conv_own hO
        have HE := Lib.hid (text_good h1 HB.out)
        clear hO h1 h2
        go_wp2_with fail
        go_ret2
        exact HE.out
theorem drewN_add (w : World) (a b : Nat) : (w.drewN a).drewN b = w.drewN (a + b) := by simp [World.drewN, Nat.add_assoc]
theorem below_drewN {w w' : World} {B n : Nat} (h : w' = w.drewN n) : Below B w w' := by subst h; exact ⟨rfl, rfl, rfl, Nat.le_refl _, fun _ _ => rfl⟩
/-- Where the loose walk over a text stands: behind `a` bytes, `ys` having been told, the first wrong part (or -1) being wr. -/
structure LAt (l : List UInt8) (a : Nat) (ys : List UInt8) (wr : Int) : Prop where
  le : a ≤ l.length
  few : ys.length ≤ 3 * a
  lo : loose l = ys ++ loose (l.drop a)
  wr : (wr = -1 ∧ wrg (prt l) 0 = wrg (prt (l.drop a)) a) ∨ (0 ≤ wr ∧ wr ≤ a ∧ wrg (prt l) 0 = wr)
theorem LAt.start (l : List UInt8) : LAt l 0 [] (-1) := ⟨Nat.zero_le _, by simp, by simp, .inl ⟨rfl, by simp⟩⟩
theorem loose_cons {l : List UInt8} (h : l ≠ []) : loose l = enc (fixR (dec l).1) ++ loose (l.drop (dec l).2) := by
  unfold loose; rw [scl_cons h, List.map_cons, encs_cons]
theorem enc_wrong : enc 65533 = [239, 191, 189] := by decide +kernel
theorem LAt.step {l : List UInt8} {a : Nat} {ys : List UInt8} {wr : Int} (h : LAt l a ys wr) (hl : a < l.length) {r : Int} {n : Nat} (hd : dec (l.drop a) = (r, n)) :
    LAt l (a + n) (ys ++ enc (fixR r)) (if r = -1 ∧ wr < 0 then a else wr) := by
  have hne := drop_ne hl
  have h1 := dec_pos (l.drop a)
  have h2 := dec_le hne
  rw [hd] at h1 h2
  simp only [List.length_drop] at h1 h2
  have hlo : loose (l.drop a) = enc (fixR r) ++ loose (l.drop (a + n)) := by rw [loose_cons hne, hd, List.drop_drop]
  have hp : prt (l.drop a) = (r, n) :: prt (l.drop (a + n)) := by rw [prt_cons hne, hd, List.drop_drop]
  refine ⟨by omega, ?_, by rw [h.lo, hlo]; simp, ?_⟩
  · have := h.few
    rw [List.length_append]
    by_cases hr : r = -1
    · subst hr; have : (enc (fixR (-1))).length = 3 := by decide +kernel
      omega
    · have hk := (dec_ok hd hr)
      have e : fixR r = r := by unfold fixR; rw [if_neg hr]
      rw [e, ← hk.2.1]; omega
  · rcases h.wr with ⟨w1, w2⟩ | ⟨w1, w2, w3⟩
    · by_cases hr : r = -1
      · rw [if_pos ⟨hr, by omega⟩]
        right
        refine ⟨by omega, by omega, ?_⟩
        rw [w2, hp, wrg_bad (by exact hr)]
      · rw [if_neg (by omega)]
        left
        exact ⟨w1, by rw [w2, hp, wrg_good (by exact hr)]⟩
    · rw [if_neg (by omega)]
      exact .inr ⟨w1, by omega, w3⟩
theorem LAt.done {l : List UInt8} {a : Nat} {ys : List UInt8} {wr : Int} (h : LAt l a ys wr) (hl : ¬ a < l.length) : loose l = ys ∧ wrg (prt l) 0 = wr := by
  have e : l.drop a = [] := List.drop_eq_nil_of_le (by omega)
  refine ⟨by rw [h.lo, e]; simp [loose, scl_nil, encs], ?_⟩
  rcases h.wr with ⟨w1, w2⟩ | ⟨w1, _, w2⟩
  · rw [w2, e, w1]; rfl
  · exact w2
def LooseS (w : World) (l : List UInt8) (e : Ending) (w' : World) : Prop :=
  e = .returned (.tuple #[.string (str (loose l)), .int .i64 (wrg (prt l) 0)]) ∧ Below w.heap.size w w'
theorem extract_str (s : ByteArray) (a n : Nat) (xs : List UInt8) (h : s.data.toList.drop a = xs ++ (s.data.toList.drop a).drop n) (hn : n = xs.length) : s.extract a (a + n) = str xs := by
  apply ByteArray.ext
  rw [ByteArray.data_extract]
  apply Array.ext'
  show (s.data.extract a (a + n)).toList = xs
  rw [Array.toList_extract, List.extract_eq_take_drop, h, hn]
  simp
end Go.Proofs.YtgahaehnlbkihaaDoor
