/- The walk of CharsLines. -/
import Derived.Test.YtehehmpepkgbeaaDoorCI
import Derived.Test.YtehehmpepkgbeaaDoorCK
import Derived.Laws.IdiomStrings
namespace Go.Proofs.YtehehmpepkgbeaaDoor.Chr
open Go.RowKit
set_option linter.unusedVariables false
set_option linter.unusedSimpArgs false
theorem cat2 (a b : List UInt8) : str a ++ str b = str (a ++ b) := by
  apply ByteArray.ext
  rw [ByteArray.data_append]
  simp [str]
theorem len_no {l : List UInt8} {k : Nat} (h : k < l.length) (hn : ∀ c ∈ l, c ≠ 13) : ((l[k].toNat : Int) == 13) = false := by
  have h1 := u8_eq l[k] 13
  have h13 : ((13 : UInt8).toNat : Int) = 13 := rfl
  rw [h13] at h1
  rw [h1]
  simpa using hn _ (List.getElem_mem h)
/-- What a conversion of a text to bytes lays. -/
theorem bys9_new (w : World) (x : List UInt8) : ∃ cap W1, (convert 9 29 (.string (str x))).run Tryd.prog w = .ok (.slice (some ⟨w.heap.size, 0, none⟩) x.length cap) W1 ∧ (∀ i (h : i < x.length), W1.cell? ⟨w.heap.size, i, none⟩ = some (.int .u8 (x[i].toNat : Int))) ∧ Below w.heap.size w W1 := by
  have hr := run_bytes_of_string (P := Tryd.prog) w 9 29 5 (str x) Tryd.underlying9 Tryd.underlying29 Tryd.underlying5
  rw [str_size] at hr
  refine ⟨_, _, hr, ?_, ((Below.refl _ w).drew).alloc (Nat.le_refl _) _⟩
  intro i hi
  have hb : (w.drew.alloc (.cells (bytesRow (str x) (grownCap w x.length 0 5)) 5 ((bytesRow (str x) (grownCap w x.length 0 5)).size, (bytesRow (str x) (grownCap w x.length 0 5)).size + 1))).heap[w.heap.size]? = some (.cells (bytesRow (str x) (grownCap w x.length 0 5)) 5 ((bytesRow (str x) (grownCap w x.length 0 5)).size, (bytesRow (str x) (grownCap w x.length 0 5)).size + 1)) := by
    show (w.heap.push _)[w.heap.size]? = _
    simp
  have hi2 : i < (str x).data.size := by simpa [str] using hi
  unfold World.cell?
  rw [hb]
  show (bytesRow (str x) _)[i]? = _
  unfold bytesRow
  rw [Array.getElem?_append_left (by simpa using hi2)]
  simp [str, hi]
set_option maxRecDepth 100000 in
set_option maxHeartbeats 32000000 in
theorem lines_walk (a b : List UInt8) (w : World) (hG : G9 w) : Calls Tryd.prog 5 #[.string (str a), .string (str b)] w fun e w' => RetB true w e w' := by
  have HK : Hid (∀ w, G9 w → Calls Tryd.prog 17 #[] w fun e w' => RetB true w e w') := Lib.hid fun w g => wakes_any w g
  have HG := Lib.hid hG
  have HB : Hid (Below w.heap.size w w) := Lib.hid (Below.refl _ _)
  clear hG
  have hza := str_size a
  have hzb := str_size b
  unfold RetB
  by_cases hs : a.length ≤ 2000
  · by_cases ht : b.length ≤ 2000
    · have hga : ¬ ((str a).size : Int) > 2000 := by omega
      have hgb : ¬ ((str b).size : Int) > 2000 := by omega
      have hla : (str a).size ≤ 2000 := by omega
      have hlb : (str b).size ≤ 2000 := by omega
      obtain ⟨x, hx⟩ : ∃ x, lns a = x := ⟨_, rfl⟩
      have hxl : x.length ≤ 2000 := by rw [← hx]; have := lns_len a; omega
      have hyl : (lns b).length ≤ 2000 := by have := lns_len b; omega
      have hxs : (str x).size ≤ 2000 := by rw [str_size]; exact hxl
      have hys : (str (lns b)).size ≤ 2000 := by rw [str_size]; exact hyl
      have hxa : ¬ ((str x).size : Int) > ((str a).size : Int) := by rw [hza, str_size, ← hx]; have := lns_len a; omega
      have HNO : Hid (∀ c ∈ x, c ≠ 13) := Lib.hid (by rw [← hx]; exact lns_no a)
      have HLA : Hid (∀ w, G9 w → Calls Tryd.prog 28 #[.string (str a)] w fun e w' => RetT x w e w') := Lib.hid fun w g => by
        have := plines_any a w g.2 (by omega)
        rwa [hx] at this
      have HLX : Hid (∀ w, G9 w → Calls Tryd.prog 28 #[.string (str x)] w fun e w' => RetT x w e w') := Lib.hid fun w g => by
        have := plines_any x w g.2 (by omega)
        rwa [← hx, lns_twice, hx] at this
      have HLB : Hid (∀ w, G9 w → Calls Tryd.prog 28 #[.string (str b)] w fun e w' => RetT (lns b) w e w') := Lib.hid fun w g => plines_any b w g.2 (by omega)
      have HLC : Hid (∀ w, G9 w → Calls Tryd.prog 28 #[.string (str a ++ str b)] w fun e w' => RetT (lns (a ++ b)) w e w') := Lib.hid fun w g => by
        rw [cat2]; exact plines_any (a ++ b) w g.2 (by rw [List.length_append]; omega)
      unfold RetT at HLA HLX HLB HLC
      have HCV : Hid (∀ w, ∃ cap W1, (convert 9 29 (.string (str x))).run Tryd.prog w = .ok (.slice (some ⟨w.heap.size, 0, none⟩) x.length cap) W1 ∧ (∀ i (h : i < x.length), W1.cell? ⟨w.heap.size, i, none⟩ = some (.int .u8 (x[i].toNat : Int))) ∧ Below w.heap.size w W1) := Lib.hid fun w => bys9_new w x
      -- where they meet
      have HAP : Hid (¬ (a.getLast? = some 13 ∧ b.head? = some 10) → str (lns (a ++ b)) = str x ++ str (lns b)) := Lib.hid fun h => by rw [lns_app h, cat2, hx]
      have HLS : Hid (∀ (k : Nat) (hk : k < (str a).size), k + 1 = (str a).size → ((str a)[k] = 13 ↔ a.getLast? = some 13)) := Lib.hid fun k hk he => by
        have hge : ∀ k (h' : k < (str a).size), a[k]? = some (str a)[k] := fun k h' => by
          have h2 : k < a.length := by rw [← hza]; exact h'
          rw [List.getElem?_eq_getElem h2]; rfl
        rw [List.getLast?_eq_getElem?, ← hza, show (str a).size - 1 = k by omega, hge k hk]
        simp
      have HHD : Hid (∀ h : 0 < (str b).size, ((str b)[0] = 10 ↔ b.head? = some 10)) := Lib.hid fun h => by
        have hge : ∀ k (h' : k < (str b).size), b[k]? = some (str b)[k] := fun k h' => by
          have h2 : k < b.length := by rw [← hzb]; exact h'
          rw [List.getElem?_eq_getElem h2]; rfl
        rw [List.head?_eq_getElem?, hge 0 h]
        simp
      have HNA : Hid ((str a).size = 0 → a.getLast? = none) := Lib.hid fun h => by
        have : a = [] := List.eq_nil_of_length_eq_zero (by omega)
        rw [this]; rfl
      have HNB : Hid ((str b).size = 0 → b.head? = none) := Lib.hid fun h => by
        have : b = [] := List.eq_nil_of_length_eq_zero (by omega)
        rw [this]; rfl
      obtain ⟨X, hX⟩ : ∃ X, str x = X := ⟨_, rfl⟩
      obtain ⟨S, hS⟩ : ∃ S, str a = S := ⟨_, rfl⟩
      obtain ⟨T, hT⟩ : ∃ T, str b = T := ⟨_, rfl⟩
      obtain ⟨Y, hY⟩ : ∃ Y, str (lns b) = Y := ⟨_, rfl⟩
      obtain ⟨Z, hZ⟩ : ∃ Z, str (lns (a ++ b)) = Z := ⟨_, rfl⟩
      have hXs : X.size = x.length := by rw [← hX]; exact str_size x
      rw [hX] at HLA HLX HCV HAP hxs hxa
      rw [hS] at HLA HLC HNA HLS hga hla hxa hza ⊢
      rw [hT] at HLB HLC HNB HHD hgb hlb hzb ⊢
      rw [hY] at HLB HAP hys
      rw [hZ] at HLC HAP
      have HXS := Lib.hid hXs
      have HXL := Lib.hid hxl
      clear hX hS hT hY hZ hx hXs hxl hyl hza hzb hs ht
      obtain ⟨N, hN⟩ : ∃ N, x.length = N := ⟨_, rfl⟩
      have HNN := Lib.hid hN
      have hN7 : N ≤ 2000 := by rw [← hN]; exact HXL.out
      go_enter Tryd.func5, Tryd.ntmps5
      go_wp2_with (first
        | (go_at_call 28; refine (HLA.out _ HG.out).mono ?_; rintro _ w1 ⟨rfl, hb1⟩; replace HG := Lib.hid (HG.out.next hb1); replace HB := Lib.hid (below_call HB.out hb1); clear hb1 HLA))
      obtain ⟨cap, W1, hcv, hcc, hbv⟩ := HCV.out w1
      rw [hcv]
      have HCC := Lib.hid hcc
      replace HG := Lib.hid (HG.out.next hbv)
      replace HB := Lib.hid (below_call HB.out hbv)
      rw [hN]
      clear hcv hcc hbv HCV hN
      go_wp2_with fail
      go_loopg [23] (N + 1) (fun g q wr => ∃ (k : Nat), k + g = N + 1 ∧ W1 = wr ∧ q = .int .i64 k ∧ k ≤ N)
      case atStart => exact ⟨0, by omega, rfl, rfl, by omega⟩
      case round =>
        obtain ⟨k, hkg, rfl, rfl, hk7⟩ := hrel
        by_cases hlt : k < N
        · have hll : k < x.length := by rw [HNN.out]; exact hlt
          have hk0 : (0 : Int) ≤ (k : Int) := by omega
          have hk3 : (k : Int) < (N : Int) := by omega
          have hcl := HCC.out k hll
          have hno := len_no hll HNO.out
          obtain ⟨v, hv⟩ : ∃ v : Int, (x[k].toNat : Int) = v := ⟨_, rfl⟩
          rw [hv] at hcl hno
          clear hv
          go_wp2_with fail
          go_roundg (gk - 1)
          case measure => omega
          case rel => exact ⟨k + 1, by omega, rfl, by go_num, by omega⟩
        · have hend : ¬ (k : Int) < (N : Int) := by omega
          by_cases h1 : S.size = 0
          · have d1 : ¬ (S.size : Int) > 0 := by omega
            have hap := HAP.out (fun h => by rw [HNA.out h1] at h; cases h.1)
            clear h1
            go_wp2_with (first
              | (go_at_call 28; refine (HLX.out _ HG.out).mono ?_; rintro _ w1 ⟨rfl, hb1⟩; replace HG := Lib.hid (HG.out.next hb1); replace HB := Lib.hid (below_call HB.out hb1); clear hb1 HLX)
              | (go_at_call 28; refine (HLC.out _ HG.out).mono ?_; rintro _ w1 ⟨rfl, hb1⟩; replace HG := Lib.hid (HG.out.next hb1); replace HB := Lib.hid (below_call HB.out hb1); clear hb1 HLC)
              | (go_at_call 28; refine (HLB.out _ HG.out).mono ?_; rintro _ w1 ⟨rfl, hb1⟩; replace HG := Lib.hid (HG.out.next hb1); replace HB := Lib.hid (below_call HB.out hb1); clear hb1 HLB)
              | (go_at_call 17; refine (HK.out _ HG.out).mono ?_; rintro _ wk ⟨rfl, hbk⟩; have HBK := Lib.hid (below_call HB.out hbk); clear hbk))
            go_ret
            exact ⟨rfl, HBK.out⟩
          have h1p : 0 < S.size := by omega
          have d1 : (S.size : Int) > 0 := by omega
          have d1i : (0 : Int) ≤ (S.size : Int) - 1 := by omega
          have d1j : (S.size : Int) - 1 < (S.size : Int) := by omega
          by_cases h2 : T.size = 0
          · have d2 : ¬ (T.size : Int) > 0 := by omega
            have hap := HAP.out (fun h => by rw [HNB.out h2] at h; cases h.2)
            clear h1 h2
            go_wp2_with (first
              | (go_at_call 28; refine (HLX.out _ HG.out).mono ?_; rintro _ w1 ⟨rfl, hb1⟩; replace HG := Lib.hid (HG.out.next hb1); replace HB := Lib.hid (below_call HB.out hb1); clear hb1 HLX)
              | (go_at_call 28; refine (HLC.out _ HG.out).mono ?_; rintro _ w1 ⟨rfl, hb1⟩; replace HG := Lib.hid (HG.out.next hb1); replace HB := Lib.hid (below_call HB.out hb1); clear hb1 HLC)
              | (go_at_call 28; refine (HLB.out _ HG.out).mono ?_; rintro _ w1 ⟨rfl, hb1⟩; replace HG := Lib.hid (HG.out.next hb1); replace HB := Lib.hid (below_call HB.out hb1); clear hb1 HLB)
              | (go_at_call 17; refine (HK.out _ HG.out).mono ?_; rintro _ wk ⟨rfl, hbk⟩; have HBK := Lib.hid (below_call HB.out hbk); clear hbk))
            go_ret
            exact ⟨rfl, HBK.out⟩
          have h2p : 0 < T.size := by omega
          have d2 : (T.size : Int) > 0 := by omega
          obtain ⟨n, hn⟩ : ∃ n, S.size = n + 1 := ⟨S.size - 1, by omega⟩
          have hlt1 : n < S.size := by omega
          have hsub : (S.size : Int) - 1 = (n : Int) := by omega
          have hnk0 : (0 : Int) ≤ (n : Int) := by omega
          have hnk1 : (n : Int) < (S.size : Int) := by omega
          have hT0 : (0 : Int) < (T.size : Int) := by omega
          have hls := HLS.out n hlt1 hn.symm
          have hhd := HHD.out h2p
          have hu := u8_eq S[n] 13
          have hv := u8_eq T[0] 10
          rw [show ((13 : UInt8).toNat : Int) = 13 from rfl] at hu
          rw [show ((10 : UInt8).toNat : Int) = 10 from rfl] at hv
          clear h1 h2 hn
          cases hc : (S[n] == (13 : UInt8)) with
          | false =>
            rw [hc] at hu
            have hap := HAP.out (fun h => by have := hls.2 h.1; rw [this] at hc; cases hc)
            clear hc hls hhd hv
            go_wp2_with (first
              | (go_at_call 28; refine (HLX.out _ HG.out).mono ?_; rintro _ w1 ⟨rfl, hb1⟩; replace HG := Lib.hid (HG.out.next hb1); replace HB := Lib.hid (below_call HB.out hb1); clear hb1 HLX)
              | (go_at_call 28; refine (HLC.out _ HG.out).mono ?_; rintro _ w1 ⟨rfl, hb1⟩; replace HG := Lib.hid (HG.out.next hb1); replace HB := Lib.hid (below_call HB.out hb1); clear hb1 HLC)
              | (go_at_call 28; refine (HLB.out _ HG.out).mono ?_; rintro _ w1 ⟨rfl, hb1⟩; replace HG := Lib.hid (HG.out.next hb1); replace HB := Lib.hid (below_call HB.out hb1); clear hb1 HLB)
              | (go_at_call 17; refine (HK.out _ HG.out).mono ?_; rintro _ wk ⟨rfl, hbk⟩; have HBK := Lib.hid (below_call HB.out hbk); clear hbk))
            go_ret
            exact ⟨rfl, HBK.out⟩
          | true =>
            rw [hc] at hu
            cases hd : (T[0] == (10 : UInt8)) with
            | false =>
              rw [hd] at hv
              have hap := HAP.out (fun h => by have := hhd.2 h.2; rw [this] at hd; cases hd)
              clear hc hd hls hhd
              go_wp2_with (first
                | (go_at_call 28; refine (HLX.out _ HG.out).mono ?_; rintro _ w1 ⟨rfl, hb1⟩; replace HG := Lib.hid (HG.out.next hb1); replace HB := Lib.hid (below_call HB.out hb1); clear hb1 HLX)
                | (go_at_call 28; refine (HLC.out _ HG.out).mono ?_; rintro _ w1 ⟨rfl, hb1⟩; replace HG := Lib.hid (HG.out.next hb1); replace HB := Lib.hid (below_call HB.out hb1); clear hb1 HLC)
                | (go_at_call 28; refine (HLB.out _ HG.out).mono ?_; rintro _ w1 ⟨rfl, hb1⟩; replace HG := Lib.hid (HG.out.next hb1); replace HB := Lib.hid (below_call HB.out hb1); clear hb1 HLB)
                | (go_at_call 17; refine (HK.out _ HG.out).mono ?_; rintro _ wk ⟨rfl, hbk⟩; have HBK := Lib.hid (below_call HB.out hbk); clear hbk))
              go_ret
              exact ⟨rfl, HBK.out⟩
            | true =>
              rw [hd] at hv
              clear hc hd hls hhd
              go_wp2_with (first
                | (go_at_call 28; refine (HLX.out _ HG.out).mono ?_; rintro _ w1 ⟨rfl, hb1⟩; replace HG := Lib.hid (HG.out.next hb1); replace HB := Lib.hid (below_call HB.out hb1); clear hb1 HLX)
                | (go_at_call 17; refine (HK.out _ HG.out).mono ?_; rintro _ wk ⟨rfl, hbk⟩; have HBK := Lib.hid (below_call HB.out hbk); clear hbk))
              go_ret
              exact ⟨rfl, HBK.out⟩
    · have hga : ¬ ((str a).size : Int) > 2000 := by omega
      have hgb : ((str b).size : Int) > 2000 := by omega
      obtain ⟨S, hS⟩ : ∃ S, str a = S := ⟨_, rfl⟩
      obtain ⟨T, hT⟩ : ∃ T, str b = T := ⟨_, rfl⟩
      rw [hS] at hga ⊢
      rw [hT] at hgb ⊢
      clear hS hT hza hzb hs ht
      go_enter Tryd.func5, Tryd.ntmps5
      go_wp2_with (first
        | (go_at_call 17; refine (HK.out _ HG.out).mono ?_; rintro _ wk ⟨rfl, hbk⟩; have HBK := Lib.hid (below_call HB.out hbk); clear hbk))
      go_ret
      exact ⟨rfl, HBK.out⟩
  · have hga : ((str a).size : Int) > 2000 := by omega
    obtain ⟨S, hS⟩ : ∃ S, str a = S := ⟨_, rfl⟩
    obtain ⟨T, hT⟩ : ∃ T, str b = T := ⟨_, rfl⟩
    rw [hS] at hga ⊢
    rw [hT]
    clear hS hT hza hzb hs
    go_enter Tryd.func5, Tryd.ntmps5
    go_wp2_with (first
      | (go_at_call 17; refine (HK.out _ HG.out).mono ?_; rintro _ wk ⟨rfl, hbk⟩; have HBK := Lib.hid (below_call HB.out hbk); clear hbk))
    go_ret
    exact ⟨rfl, HBK.out⟩
end Go.Proofs.YtehehmpepkgbeaaDoor.Chr
